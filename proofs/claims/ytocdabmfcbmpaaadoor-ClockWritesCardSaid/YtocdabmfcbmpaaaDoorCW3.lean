import Derived.Test.YtocdabmfcbmpaaaDoorCW2
namespace Go.Proofs.YtocdabmfcbmpaaaDoor
open Go.RowKit
set_option linter.unusedVariables false
set_option linter.unusedSimpArgs false

/-! ### what is known of more letters is known of fewer -/
inductive Less : List (Nat × Option (Int → ByteArray)) → List (Nat × Option (Int → ByteArray)) → Prop
  | nil : Less [] []
  | same {p : Nat × Option (Int → ByteArray)} {L L' : List (Nat × Option (Int → ByteArray))} : Less L L' → Less (p :: L) (p :: L')
  | drop {k : Nat} {wr : Option (Int → ByteArray)} {L L' : List (Nat × Option (Int → ByteArray))} : Less L L' → Less ((k, none) :: L) ((k, wr) :: L')
theorem Ents.less {m : Nat} {W : World} {L L' : List (Nat × Option (Int → ByteArray))} (h : Less L L') : ∀ {es : List MapEntry}, Ents m W es L' → Ents m W es L := by
  induction h with
  | nil => intro es h; exact h
  | same _ ih =>
    intro es h
    cases h with
    | cons h1 h2 h3 h4 => exact .cons h1 h2 h3 (ih h4)
  | drop _ ih =>
    intro es h
    cases h with
    | cons h1 h2 h3 h4 => exact .cons h1 h2 (fun f hf => by cases hf) (ih h4)
theorem less_let : Less letL letM :=
  .same (.same (.same (.same (.same (.same (.same (.same (.drop (.drop (.drop (.drop (.drop (.drop (.drop (.drop (.drop (.drop (.drop .nil))))))))))))))))))
theorem letL_of {W : World} {m : Nat} (h : MapL W m letM) : MapL W m letL := by
  obtain ⟨es, clk, h1, h2⟩ := h
  exact ⟨es, clk, h1, h2.less less_let⟩
/-- what a piece writes. -/
def pieceM (t : Int) (p : Nat × Nat) : List UInt8 := if p.1 = 0 then [UInt8.ofNat p.2] else match letM.lookup p.1 with | some (some f) => (f t).data.toList | _ => []
def outM (t : Int) (l : List (Nat × Nat)) : List UInt8 := l.flatMap (pieceM t)
/-- pieces of which all is known. -/
def KnownM (t : Int) (l : List (Nat × Nat)) : Prop := ∀ p ∈ l, p.2 < 256 ∧ (p.1 = 0 ∨ ∃ f, letM.lookup p.1 = some (some f) ∧ (f t).size ≤ 200)
theorem outM_snoc (t : Int) (l : List (Nat × Nat)) (k : Nat) (hk : k < l.length) : outM t (l.take (k + 1)) = outM t (l.take k) ++ pieceM t l[k] := by
  rw [List.take_succ_eq_append_getElem hk]; unfold outM; rw [List.flatMap_append]; simp only [List.flatMap_cons, List.flatMap_nil, List.append_nil]
theorem piece_lenM {t : Int} {l : List (Nat × Nat)} (h : KnownM t l) (p : Nat × Nat) (hp : p ∈ l) : (pieceM t p).length ≤ 200 := by
  obtain ⟨_, h1⟩ := h p hp
  unfold pieceM
  rcases h1 with h1 | ⟨f, h1, h2⟩
  · rw [if_pos h1]; show 1 ≤ 200; decide
  · by_cases h0 : p.1 = 0
    · rw [if_pos h0]; show 1 ≤ 200; decide
    · rw [if_neg h0, h1]; exact h2
theorem out_lenM {t : Int} {l : List (Nat × Nat)} (h : KnownM t l) : ∀ k, k ≤ l.length → (outM t (l.take k)).length ≤ 200 * k
  | 0, _ => by simp [outM]
  | k + 1, hk => by
    rw [outM_snoc t l k (by omega), List.length_append]
    have h1 := out_lenM h k (by omega)
    have h2 := piece_lenM h l[k] (List.getElem_mem _)
    omega
structure WrM (m : Nat) (t : Int) (l : List (Nat × Nat)) (V wr : World) (k : Nat) : Prop where
  bld : Lib.IsBuilder 66 5 V.heap.size V.heap.size (Lib.byteCells (outM t (l.take k))) wr
  bel : Below V.heap.size V wr
set_option maxRecDepth 100000 in
set_option maxHeartbeats 4000000 in
theorem Write_okM {t : Int} (ht : inB t (-62135596800) 253402300799 = true) (s : ByteArray) (hs : s.size ≤ 100000) (l : List (Nat × Nat)) (hl : pcs (bytesL s) = some l) (hk : KnownM t l) (w : World) (hT : Tab w) :
    Calls Tryd.prog 29 #[I t, .string s] w fun e w' => e = .returned (.tuple #[.string ⟨(outM t l).toArray⟩, E 0]) ∧ Below w.heap.size w w' := by
  have H33 := Lib.hid (fun w => time_h ht w)
  have hb0 := inB_iff.1 ht
  have HL := Lib.hid hl
  have HK := Lib.hid hk
  have HTb := Lib.hid hT
  clear hl hk hT ht
  go_enter Tryd.func29, Tryd.ntmps29
  go_wp2_with (first | (go_at_call 56; (with_reducible refine (letters_any2 _).mono ?_); rintro e W1 ⟨m, rfl, hm1, hb1⟩; have HM1 := Lib.hid hm1; have HB1 := Lib.hid hb1; clear hm1 hb1) | (go_at_call 57; (with_reducible refine (pieces_any s hs m _ (letL_of HM1.out)).mono ?_); rintro e V hp; obtain ⟨ao, n, cap, rfl, hr, hlen⟩ := hp.1 l HL.out; have HB2 := Lib.hid hp.2.2; have HR := Lib.hid hr; have HLen := Lib.hid hlen; clear hp hr hlen) | (go_at_call 33; (with_reducible refine (H33.out _).mono ?_); rintro e w' ⟨rfl, rfl⟩))
  have hV := HB2.out.size
  have HMV := Lib.hid (HM1.out.after HB2.out)
  have HTV := Lib.hid ((HTb.out.after HB1.out).after HB2.out)
  have HBV := Lib.hid (HB1.out.trans (HB2.out.mono HB1.out.size))
  obtain ⟨rfl, g, hg⟩ : n = l.length ∧ ∃ g, l ≠ [] → ao = some ⟨g, 0, none⟩ ∧ ∀ j u, (flat l)[j]? = some u → V.cell? ((⟨g, 0, none⟩ : Addr).add j) = some u := by
    have h0 : n = l.length := by
      rcases HR.out.2 with ⟨h1, h2⟩ | ⟨g, cap', cur, h4, _⟩
      · cases h1; exact h2.symm
      · cases h4; rfl
    refine ⟨h0, ?_⟩
    by_cases he : l = []
    · exact ⟨0, fun h => absurd he h⟩
    · obtain ⟨g, h1, h2⟩ := HR.out.cells he
      cases h1
      exact ⟨g, fun _ => ⟨rfl, h2⟩⟩
  have HG := Lib.hid hg
  have HI : Hid (WrM m t l V (V.alloc (.cells #[.pointer none, .slice none 0 0] 66)) 0) := Lib.hid ⟨Lib.fresh_isBuilder 66 5 V, (Below.refl _ _).alloc (Nat.le_refl _) _⟩
  have hll := HLen.out
  clear hg HR HM1 HB1 HB2 HTb HL HLen hV
  go_loopw [28] (fun i wr => ∃ k : Nat, i = .int .i64 k ∧ k ≤ l.length ∧ Hid (WrM m t l V wr k)) (fun i _ => l.length - (intOf i).toNat)
  case atStart => exact ⟨0, rfl, Nat.zero_le _, HI⟩
  case round =>
    obtain ⟨k, rfl, hk, hi⟩ := hrel
    by_cases hlt : k < l.length
    · obtain ⟨rfl, hc⟩ := HG.out (by intro h; rw [h] at hlt; simp at hlt)
      obtain ⟨f1, f2⟩ := flat_at l k hlt
      have hB := hi.out.bel
      have c1 := cell_after hB (hc _ _ f1)
      have c2 := cell_after hB (hc _ _ f2)
      have ea : ∀ j, (⟨g, 0, none⟩ : Addr).add j = ⟨g, j, none⟩ := fun j => by simp [Addr.add]; intro h; exact h.symm
      rw [ea] at c1 c2
      clear ea f1 f2 hc
      have HKn := Lib.hid (HK.out l[k] (List.getElem_mem _))
      have hol := out_lenM HK.out k hk
      have HMw := Lib.hid (HMV.out.after hB)
      have HTw := Lib.hid (HTV.out.after hB)
      have HS1 : Hid (outM t (l.take (k + 1)) = outM t (l.take k) ++ pieceM t l[k]) := Lib.hid (outM_snoc t l k hlt)
      have hBs := hB.size
      clear hB
      generalize l[k] = p at *
      obtain ⟨a, b⟩ := p
      by_cases h0 : a = 0
      · subst h0
        have HW := Lib.hid (fun w' (hb : Below wr.heap.size wr w') => wb_any V.heap.size V.heap.size _ b HKn.out.1 w' (builder_later hi.out.bld hb) (by omega) (Nat.le_trans hBs hb.size))
        go_wp2_with ((go_at_call 58; (with_reducible refine (HW.out _ ((Below.refl _ _).alloc (Nat.le_refl _) _)).mono ?_); rintro e W2 ⟨rfl, h1, h2⟩))
        go_roundw
        case rel => exact ⟨k + 1, by go_num, by omega, Lib.hid ⟨by rw [HS1.out]; exact h1.out, hi.out.bel.trans (((Below.refl _ _).alloc hBs _).trans h2.out)⟩⟩
        case measure => simp [intOf]; omega
      · obtain ⟨f, hf1, hf2⟩ : ∃ f, letM.lookup a = some (some f) ∧ (f t).size ≤ 200 := by
          rcases HKn.out.2 with h | h
          · exact absurd h h0
          · exact h
        have hpc : Hid (pieceM t (a, b) = (f t).data.toList) := Lib.hid (by unfold pieceM; rw [if_neg h0, hf1])
        obtain ⟨v, _, hla, HLk⟩ := (run_look (HMw.out.after ((Below.refl _ _).alloc (Nat.le_refl _) (.cells #[.int .u8 a, .int .u8 b] 68))) a false).2 _ hf1
        obtain ⟨k1, cap1, g1, rfl, hgo, hcl⟩ := hla f rfl
        have ha0 : ((a : Int) == 0) = false := by rw [beq_eq_false_iff_ne]; omega
        have HCl := Lib.hid (fun w' (hb : Below wr.heap.size wr w') (hK : Keep m (wr.alloc (.cells #[.int .u8 a, .int .u8 b] 68)) w') => hcl w' hK (HTw.out.after hb) t hb0.1 hb0.2)
        have HW := Lib.hid (fun w' (hb : Below wr.heap.size wr w') => ws_any V.heap.size V.heap.size _ (f t) w' (builder_later hi.out.bld hb) (by omega) (by omega) (Nat.le_trans hBs hb.size))
        unfold IsGo at hgo
        have hfw := field_w k1 cap1 g1
        clear hcl hf1 hla
        simp only [Bool.false_eq_true, if_false] at HLk
        go_wp2_with (first | (go_at_call 59; (with_reducible refine (HW.out _ (below_new' hb3)).mono ?_); rintro e W3 ⟨rfl, h1, h2⟩) | ((with_reducible refine (HCl.out _ ((Below.refl _ _).alloc (Nat.le_refl _) _) (Keep.refl _ _)).mono ?_); rintro e W2 ⟨rfl, hb3⟩))
        go_roundw
        case rel => exact ⟨k + 1, by go_num, by omega, Lib.hid ⟨by rw [HS1.out, hpc.out]; exact h1.out, hi.out.bel.trans (((below_new hb3).mono hBs).trans h2.out)⟩⟩
        case measure => simp [intOf]; omega
    · obtain rfl : k = l.length := by omega
      have HW := Lib.hid (Tryd.Builder_String_any V.heap.size V.heap.size _ wr hi.out.bld hi.out.bel.size)
      rw [List.take_of_length_le (Nat.le_refl _)] at HW
      go_wp2_with ((go_at_call 60; (with_reducible refine HW.out.mono ?_); rintro e W3 ⟨rfl, h1⟩))
      go_ret2
      exact ⟨rfl, HBV.out.trans ((hi.out.bel.trans h1).mono (by have := HBV.out.size; omega))⟩
end Go.Proofs.YtocdabmfcbmpaaaDoor
