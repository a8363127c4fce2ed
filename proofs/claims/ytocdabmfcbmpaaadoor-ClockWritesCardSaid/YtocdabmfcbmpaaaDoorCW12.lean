import Derived.Test.YtocdabmfcbmpaaaDoorCW11
namespace Go.Proofs.YtocdabmfcbmpaaaDoor
open Go.RowKit
set_option linter.unusedVariables false
set_option linter.unusedSimpArgs false
/-! ### the reference: a time written -/
def outS (t : Int) (l : List (Nat × Nat)) : ByteArray := ⟨(outM t l).toArray⟩
theorem outS_app (t : Int) (l : List (Nat × Nat)) (j : Nat) (h : j < l.length) (s : ByteArray) (hs : s.data.toList = pieceM t l[j]) : outS t (l.take j) ++ s = outS t (l.take (j + 1)) := by
  apply ba_ext
  simp only [outS]
  rw [outM_snoc t l j h]
  simp [hs]
theorem outS_size (t : Int) (l : List (Nat × Nat)) : (outS t l).size = (outM t l).length := by simp [outS, ByteArray.size]
theorem txt_split (l : List (Nat × Nat)) (j : Nat) (h : j < l.length) : txt l = txt (l.take j) ++ (txt [l[j]] ++ txt (l.drop (j + 1))) := by
  rw [← txt_app, ← txt_app]
  congr 1
  have := List.take_append_drop j l
  rw [List.drop_eq_getElem_cons h] at this
  exact this.symm
theorem txt_next (l : List (Nat × Nat)) (j : Nat) (h : j < l.length) : (txt (l.take (j + 1))).length = (txt (l.take j)).length + (txt [l[j]]).length := by
  rw [List.take_succ_eq_append_getElem h, txt_app, List.length_append]
theorem txt_get (l : List (Nat × Nat)) (j : Nat) (h : j < l.length) (m : Nat) (b : UInt8) (hb : (txt [l[j]])[m]? = some b) : (txtS l).data.toList[(txt (l.take j)).length + m]? = some b := by
  have e : (txtS l).data.toList = txt l := by simp [txtS]
  rw [e, txt_split l j h, List.getElem?_append_right (by omega), show (txt (l.take j)).length + m - (txt (l.take j)).length = m by omega, List.getElem?_append_left (List.getElem?_eq_some_iff.1 hb).1]
  exact hb
theorem byte_of {s : ByteArray} {k : Nat} {b : UInt8} (h : s.data.toList[k]? = some b) : ∃ hk : k < s.size, s[k] = b := by
  obtain ⟨h1, h2⟩ := List.getElem?_eq_some_iff.1 h
  have hk : k < s.size := by simpa using h1
  refine ⟨hk, ?_⟩
  rw [← h2]; rfl
theorem txt_le : ∀ (l : List (Nat × Nat)), (txt l).length ≤ 2 * l.length
  | [] => Nat.zero_le _
  | p :: l => by
    have h := txt_le l
    have e : txt (p :: l) = txt [p] ++ txt l := txt_app [p] l
    have h1 : (txt [p]).length ≤ 2 := by simp only [txt, List.flatMap_cons, List.flatMap_nil, List.append_nil]; split <;> (try split) <;> simp
    rw [e, List.length_append, List.length_cons]; omega
set_option maxRecDepth 100000 in
set_option maxHeartbeats 4000000 in
theorem rWrite_ok {t : Int} (ht : inB t (-62135596800) 253402300799 = true) (s : ByteArray) (hs : s.size ≤ 100000) (l : List (Nat × Nat)) (hl : pcs (bytesL s) = some l) (hll : l.length ≤ 500000) (w : World) (hT : Tab w) :
    Calls Tryd.prog 30 #[I t, .string s] w fun e w' => e = .returned (.tuple #[.string (outS t l), E 0]) ∧ Below w.heap.size w w' := by
  have hb0 := inB_iff.1 ht
  have H35 := Lib.hid (fun w => right_h ht w)
  have HK := Lib.hid (pcs_known hb0.1 hb0.2 _ _ _ (Nat.le_refl _) (bytesL_lt s) hl)
  have H61 : Hid (Calls Tryd.prog 61 #[.string s] w fun e w' => e = .returned (.tuple #[.string (txtS l), .bool true]) ∧ Below w.heap.size w w') := Lib.hid ((spread_any s hs w hT).mono fun e w' hp => ⟨hp.1 l hl, hp.2.2⟩)
  have HT := Lib.hid hT
  clear hl hT ht
  go_enter Tryd.func30, Tryd.ntmps30
  go_wp2_with (first | (go_at_call 35; (with_reducible refine (H35.out _).mono ?_); rintro e w' ⟨rfl, rfl⟩) | (go_at_call 61; (with_reducible refine H61.out.mono ?_); rintro e W1 ⟨rfl, hb1⟩; have HB1 := Lib.hid hb1; clear hb1))
  clear H61
  go_loopw [8, 9] (fun v i wr => ∃ j : Nat, v = .string (outS t (l.take j)) ∧ i = .int .i64 (txt (l.take j)).length ∧ j ≤ l.length ∧ Hid (Below w.heap.size w wr)) (fun _ i _ => (txtS l).size - (intOf i).toNat)
  case atStart => exact ⟨0, rfl, rfl, Nat.zero_le _, HB1⟩
  case round =>
    obtain ⟨j, rfl, rfl, hj, hB⟩ := hrel
    have hTs : (txtS l).size = (txt l).length := txtS_size l
    have hole := out_lenM HK.out j hj
    have hos := outS_size t (l.take j)
    have htl := txt_le l
    clear HB1
    by_cases hlt : j < l.length
    · have hnx := txt_next l j hlt
      have hg := txt_get l j hlt
      have hap := outS_app t l j hlt
      obtain ⟨hp2, hp1⟩ := HK.out l[j] (List.getElem_mem _)
      have HTw := Lib.hid (HT.out.after hB.out)
      have hBs := hB.out.size
      generalize l[j] = p at *
      obtain ⟨a, b⟩ := p
      by_cases hone : a = 0 ∧ b ≠ 37
      · obtain ⟨rfl, hb37⟩ := hone
        have ht1 : txt [(0, b)] = [UInt8.ofNat b] := by simp [txt, hb37]
        rw [ht1] at hg hnx
        obtain ⟨hk, hc⟩ := byte_of (hg 0 _ rfl)
        have h1 := one_at (txtS l) _ hk
        have hx := hap ((txtS l).extract ((txt (l.take j)).length + 0) ((txt (l.take j)).length + 0 + 1)) (by rw [h1, hc]; simp [pieceM])
        simp only [Nat.add_zero] at hk hc h1 hx
        have hcn : ((txtS l)[(txt (l.take j)).length]).toNat = b := by rw [hc, UInt8.toNat_ofNat']; omega
        have HNX := Lib.hid hnx
        clear hg hap hc hnx
        generalize (txt (l.take j)).length = k at *
        generalize txtS l = T at *
        have hcb : ((b : Int) == 37) = false := by rw [beq_eq_false_iff_ne]; omega
        have hxz : (T.extract k (k + 1)).size = 1 := by rw [← ByteArray.size_data, ← Array.length_toList, h1]; rfl
        have s1 : ((k : Int)).toNat = k := by omega
        have s2 : ((k : Int) + 1).toNat = k + 1 := by omega
        have hsl : ∀ W : World, (Instr.slice 9 (Value.string T) (some (Value.int .i64 (k : Int))) (some (Value.int .i64 ((k : Int) + 1))) none).run Tryd.prog W = .ok (.string (T.extract k (k + 1))) W := fun W => by
          rw [run_slice_string W 9 T .i64 .i64 _ _ Tryd.underlying9 (by omega) (by omega) (by omega), s1, s2]
        clear h1 s1 s2
        go_wp2
        go_roundw
        case rel => exact ⟨j + 1, rfl, by rw [HNX.out]; simp, by omega, hB⟩
        case measure => simp [intOf]; omega
      · obtain ⟨d, S, hd, ht1, hS, hSz, hcl⟩ : ∃ d S, d < 256 ∧ txt [(a, b)] = [37, UInt8.ofNat d] ∧ S.data.toList = pieceM t (a, b) ∧ S.size ≤ 200 ∧ ∀ w, Tab w → Calls Tryd.prog 62 #[I t, .int .u8 d] w fun e w' => e = .returned (.tuple #[.string S, .bool true]) ∧ Below w.heap.size w w' := by
          by_cases a0 : a = 0
          · have hb37 : b = 37 := Classical.byContradiction fun h => hone ⟨a0, h⟩
            subst a0 hb37
            exact ⟨37, ⟨#[37]⟩, by decide, rfl, rfl, by decide, fun w hw => lt_37 t w hb0.1 hb0.2 hw⟩
          · rcases hp1 with h | ⟨f, hf, hfs⟩
            · exact absurd h a0
            · have hm := lookup_mem (show (letM.lookup a).isSome = true by rw [hf]; rfl)
              rw [show letM.map Prod.fst = [89, 121, 109, 100, 72, 77, 83, 73, 106, 117, 71, 86, 112, 66, 98, 65, 97, 101, 115] from rfl] at hm
              simp only [List.mem_cons, List.not_mem_nil, or_false] at hm
              exact ⟨a, f t, by omega, by simp [txt, a0], by unfold pieceM; rw [if_neg a0, hf], hfs, fun w hw => letter_some hf t w hb0.1 hb0.2 hw⟩
        rw [ht1] at hg hnx
        obtain ⟨hk0, hc0⟩ := byte_of (hg 0 _ rfl)
        obtain ⟨hk1, hc1⟩ := byte_of (hg 1 _ rfl)
        have hx := hap S hS
        simp only [Nat.add_zero] at hk0 hc0
        have hcn : ((txtS l)[(txt (l.take j)).length]).toNat = 37 := by rw [hc0]; rfl
        have hdn : ((txtS l)[(txt (l.take j)).length + 1]).toNat = d := by rw [hc1, UInt8.toNat_ofNat']; omega
        have HNX := Lib.hid hnx
        have HCL := Lib.hid hcl
        clear hg hap hc0 hc1 hnx hcl hS ht1 hone hp1 hp2
        generalize (txt (l.take j)).length = k at *
        generalize txtS l = T at *
        go_wp2_with ((go_at_call 62; (with_reducible refine (HCL.out _ HTw.out).mono ?_); rintro e W2 ⟨rfl, hb2⟩; have HB2 := Lib.hid hb2; clear hb2))
        go_roundw
        case rel => exact ⟨j + 1, rfl, by rw [HNX.out]; go_num, by omega, Lib.hid (hB.out.trans (HB2.out.mono hBs))⟩
        case measure => simp [intOf]; omega
    · obtain rfl : j = l.length := by omega
      rw [List.take_of_length_le (Nat.le_refl _)] at *
      go_wp2
      go_ret2
      exact ⟨rfl, hB.out⟩
end Go.Proofs.YtocdabmfcbmpaaaDoor
