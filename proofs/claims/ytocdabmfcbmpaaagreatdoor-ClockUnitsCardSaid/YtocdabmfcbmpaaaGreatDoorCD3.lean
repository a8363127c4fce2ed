import Derived.Test.YtocdabmfcbmpaaaGreatDoorCD2
namespace Go.Proofs.YtocdabmfcbmpaaaGreatDoor
open Go.RowKit
set_option linter.unusedVariables false
set_option linter.unusedSimpArgs false

theorem lt_of_block {w : World} {b : Nat} {o : Obj} (h : w.heap[b]? = some o) : b < w.heap.size := (Array.getElem?_eq_some_iff.1 h).1
theorem builder_later {B b : Nat} {bs : List Value} {w w' : World} (h : Lib.IsBuilder 81 5 B b bs w) (hb : Below w.heap.size w w') : Lib.IsBuilder 81 5 B b bs w' := by
  have key : ∀ p, Lib.BuilderAt 81 5 B b p bs w → Lib.BuilderAt 81 5 B b p bs w' := by
    rintro p ⟨h1, v, h2, h3, h4⟩
    refine ⟨h1, v, (hb.block b (lt_of_block h2)).trans h2, ?_, h4⟩
    refine h3.kept (row := none) ⟨hb.os, hb.tape, hb.output, hb.size, fun k hk _ => hb.block k hk⟩ ?_
    cases v.ownBlock with
    | none => exact Or.inl rfl
    | some k => exact Or.inr (by simp)
  rcases h with h | h
  · exact Or.inl (key _ h)
  · exact Or.inr (key _ h)
theorem bytes_app (D : List UInt8) (t : ByteArray) : Lib.byteCells D ++ Lib.strCells t = Lib.byteCells (D ++ t.data.toList) := by simp [Lib.byteCells, Lib.strCells]
theorem bytes_one (D : List UInt8) (c : Nat) (hc : c < 256) : Lib.byteCells D ++ [.int .u8 c] = Lib.byteCells (D ++ [UInt8.ofNat c]) := by
  simp [Lib.byteCells]; omega
theorem ws_any (B b : Nat) (D : List UInt8) (s : ByteArray) (w : World) (h : Lib.IsBuilder 81 5 B b (Lib.byteCells D) w) (hlen : D.length ≤ 1000000000) (ht : s.size ≤ 1000) (hBw : B ≤ w.heap.size) :
    Calls Tryz.prog 46 #[Pt b, .string s] w fun e w' => e = .returned (.tuple #[.int .i64 s.size, .nilIface]) ∧ Hid (Lib.IsBuilder 81 5 B b (Lib.byteCells (D ++ s.data.toList)) w') ∧ Hid (Below B w w') := by
  refine (writeString_any B b _ s w h (by rw [Lib.byteCells_length]; omega) hBw).mono ?_
  rintro e w' ⟨rfl, h1, h2⟩
  exact ⟨rfl, Or.inr (by rw [← bytes_app]; exact h1), h2⟩
theorem wb_any (B b : Nat) (D : List UInt8) (c : Nat) (hc : c < 256) (w : World) (h : Lib.IsBuilder 81 5 B b (Lib.byteCells D) w) (hlen : D.length ≤ 1000000000) (hBw : B ≤ w.heap.size) :
    Calls Tryz.prog 50 #[Pt b, .int .u8 c] w fun e w' => e = .returned .nilIface ∧ Hid (Lib.IsBuilder 81 5 B b (Lib.byteCells (D ++ [UInt8.ofNat c])) w') ∧ Hid (Below B w w') := by
  refine (writeByte_any B b _ c w h (by rw [Lib.byteCells_length]; omega) hBw).mono ?_
  rintro e w' ⟨rfl, h1, h2⟩
  exact ⟨rfl, Or.inr (by rw [← bytes_one _ _ hc]; exact h1), h2⟩
/-- what a piece writes. -/
def pieceB (t : Int) (p : Nat × Nat) : List UInt8 := if p.1 = 0 then [UInt8.ofNat p.2] else match letL.lookup p.1 with | some (some f) => (f t).data.toList | _ => []
def outL (t : Int) (l : List (Nat × Nat)) : List UInt8 := l.flatMap (pieceB t)
/-- pieces of which all is known. -/
def Known (t : Int) (l : List (Nat × Nat)) : Prop := ∀ p ∈ l, p.2 < 256 ∧ (p.1 = 0 ∨ ∃ f, letL.lookup p.1 = some (some f) ∧ (f t).size ≤ 200)
theorem outL_snoc (t : Int) (l : List (Nat × Nat)) (k : Nat) (hk : k < l.length) : outL t (l.take (k + 1)) = outL t (l.take k) ++ pieceB t l[k] := by
  rw [List.take_succ_eq_append_getElem hk]; unfold outL; rw [List.flatMap_append]; simp only [List.flatMap_cons, List.flatMap_nil, List.append_nil]
theorem piece_len {t : Int} {l : List (Nat × Nat)} (h : Known t l) (p : Nat × Nat) (hp : p ∈ l) : (pieceB t p).length ≤ 200 := by
  obtain ⟨_, h1⟩ := h p hp
  unfold pieceB
  rcases h1 with h1 | ⟨f, h1, h2⟩
  · rw [if_pos h1]; show 1 ≤ 200; decide
  · by_cases h0 : p.1 = 0
    · rw [if_pos h0]; show 1 ≤ 200; decide
    · rw [if_neg h0, h1]; exact h2
theorem out_len {t : Int} {l : List (Nat × Nat)} (h : Known t l) : ∀ k, k ≤ l.length → (outL t (l.take k)).length ≤ 200 * k
  | 0, _ => by simp [outL]
  | k + 1, hk => by
    rw [outL_snoc t l k (by omega), List.length_append]
    have h1 := out_len h k (by omega)
    have h2 := piece_len h l[k] (List.getElem_mem _)
    omega
theorem flat_at (l : List (Nat × Nat)) (k : Nat) (hk : k < l.length) : (flat l)[k * 2]? = some (.int .u8 l[k].1) ∧ (flat l)[k * 2 + 1]? = some (.int .u8 l[k].2) := by
  induction l generalizing k with
  | nil => simp at hk
  | cons p l ih =>
    have e : flat (p :: l) = .int .u8 p.1 :: .int .u8 p.2 :: flat l := rfl
    cases k with
    | zero => rw [e]; exact ⟨rfl, rfl⟩
    | succ k =>
      have := ih k (by simpa using hk)
      rw [e, show (k + 1) * 2 = k * 2 + 1 + 1 by omega]
      simpa using this
theorem below_new' {w W1 : World} {o : Obj} (hb1 : Below (w.alloc o).heap.size (w.alloc o) W1) : Below w.heap.size w W1 := below_new hb1
theorem field_w (k : FuncId) (cap : Array Value) (g : Value) (w : World) : (Instr.field 72 (.agg #[Fv k cap, g]) 0).run Tryz.prog w = .ok (Fv k cap) w := by kernel_rfl
structure WrI (m : Nat) (t : Int) (l : List (Nat × Nat)) (V wr : World) (k : Nat) : Prop where
  bld : Lib.IsBuilder 81 5 V.heap.size V.heap.size (Lib.byteCells (outL t (l.take k))) wr
  bel : Below V.heap.size V wr
set_option maxRecDepth 100000 in
set_option maxHeartbeats 4000000 in
theorem Write_ok {t : Int} (ht : inB t (-62135596800) 253402300799 = true) (s : ByteArray) (hs : s.size ≤ 100000) (l : List (Nat × Nat)) (hl : pcs (bytesL s) = some l) (hk : Known t l) (w : World) (hT : Tab w) :
    Calls Tryz.prog 19 #[I t, .string s] w fun e w' => e = .returned (.tuple #[.string ⟨(outL t l).toArray⟩, E 0]) ∧ Below w.heap.size w w' := by
  have H33 := Lib.hid (fun w => time_h ht w)
  have hb0 := inB_iff.1 ht
  have HL := Lib.hid hl
  have HK := Lib.hid hk
  have HTb := Lib.hid hT
  clear hl hk hT ht
  go_enter Tryz.func19, Tryz.ntmps19
  go_wp2_with (first | (go_at_call 36; (with_reducible refine (letters_any _).mono ?_); rintro e W1 ⟨m, rfl, hm1, hb1⟩; have HM1 := Lib.hid hm1; have HB1 := Lib.hid hb1; clear hm1 hb1) | (go_at_call 37; (with_reducible refine (pieces_any s hs m _ HM1.out).mono ?_); rintro e V hp; obtain ⟨ao, n, cap, rfl, hr, hlen⟩ := hp.1 l HL.out; have HB2 := Lib.hid hp.2.2; have HR := Lib.hid hr; have HLen := Lib.hid hlen; clear hp hr hlen) | (go_at_call 25; (with_reducible refine (H33.out _).mono ?_); rintro e w' ⟨rfl, rfl⟩))
  have hV := HB2.out.size
  have HMV := Lib.hid (HM1.out.after HB2.out)
  have HTV := Lib.hid ((HTb.out.after HB1.out).after HB2.out)
  have HBV := Lib.hid (HB1.out.trans (HB2.out.mono HB1.out.size))
  obtain ⟨rfl, g, hg⟩ : n = l.length ∧ ∃ g, l ≠ [] → ao = some ⟨g, 0, none⟩ ∧ ∀ j u, (flat l)[j]? = some u → V.cell? ((⟨g, 0, none⟩ : Addr).add j) = some u := by
    have h0 : n = l.length := by
      rcases HR.out.2 with ⟨h1, h2⟩ | ⟨g, cap', cur, h4, _⟩
      · cases h1; exact h2.symm
      · cases h4; rfl
    refine ⟨h0, ?_⟩
    by_cases he : l = []
    · exact ⟨0, fun h => absurd he h⟩
    · obtain ⟨g, h1, h2⟩ := HR.out.cells he
      cases h1
      exact ⟨g, fun _ => ⟨rfl, h2⟩⟩
  have HG := Lib.hid hg
  have HI : Hid (WrI m t l V (V.alloc (.cells #[.pointer none, .slice none 0 0] 81)) 0) := Lib.hid ⟨Lib.fresh_isBuilder 81 5 V, (Below.refl _ _).alloc (Nat.le_refl _) _⟩
  have hll := HLen.out
  clear hg HR HM1 HB1 HB2 HTb HL HLen hV
  go_loopw [28] (fun i wr => ∃ k : Nat, i = .int .i64 k ∧ k ≤ l.length ∧ Hid (WrI m t l V wr k)) (fun i _ => l.length - (intOf i).toNat)
  case atStart => exact ⟨0, rfl, Nat.zero_le _, HI⟩
  case round =>
    obtain ⟨k, rfl, hk, hi⟩ := hrel
    by_cases hlt : k < l.length
    · obtain ⟨rfl, hc⟩ := HG.out (by intro h; rw [h] at hlt; simp at hlt)
      obtain ⟨f1, f2⟩ := flat_at l k hlt
      have hB := hi.out.bel
      have c1 := cell_after hB (hc _ _ f1)
      have c2 := cell_after hB (hc _ _ f2)
      have ea : ∀ j, (⟨g, 0, none⟩ : Addr).add j = ⟨g, j, none⟩ := fun j => by simp [Addr.add]; intro h; exact h.symm
      rw [ea] at c1 c2
      clear ea f1 f2 hc
      have HKn := Lib.hid (HK.out l[k] (List.getElem_mem _))
      have hol := out_len HK.out k hk
      have HMw := Lib.hid (HMV.out.after hB)
      have HTw := Lib.hid (HTV.out.after hB)
      have HS1 : Hid (outL t (l.take (k + 1)) = outL t (l.take k) ++ pieceB t l[k]) := Lib.hid (outL_snoc t l k hlt)
      have hBs := hB.size
      clear hB
      generalize l[k] = p at *
      obtain ⟨a, b⟩ := p
      by_cases h0 : a = 0
      · subst h0
        have HW := Lib.hid (fun w' (hb : Below wr.heap.size wr w') => wb_any V.heap.size V.heap.size _ b HKn.out.1 w' (builder_later hi.out.bld hb) (by omega) (Nat.le_trans hBs hb.size))
        go_wp2_with ((go_at_call 50; (with_reducible refine (HW.out _ ((Below.refl _ _).alloc (Nat.le_refl _) _)).mono ?_); rintro e W2 ⟨rfl, h1, h2⟩))
        go_roundw
        case rel => exact ⟨k + 1, by go_num, by omega, Lib.hid ⟨by rw [HS1.out]; exact h1.out, hi.out.bel.trans (((Below.refl _ _).alloc hBs _).trans h2.out)⟩⟩
        case measure => simp [intOf]; omega
      · obtain ⟨f, hf1, hf2⟩ : ∃ f, letL.lookup a = some (some f) ∧ (f t).size ≤ 200 := by
          rcases HKn.out.2 with h | h
          · exact absurd h h0
          · exact h
        have hpc : Hid (pieceB t (a, b) = (f t).data.toList) := Lib.hid (by unfold pieceB; rw [if_neg h0, hf1])
        obtain ⟨v, _, hla, HLk⟩ := (run_look (HMw.out.after ((Below.refl _ _).alloc (Nat.le_refl _) (.cells #[.int .u8 a, .int .u8 b] 67))) a false).2 _ hf1
        obtain ⟨k1, cap1, g1, rfl, hgo, hcl⟩ := hla f rfl
        have ha0 : ((a : Int) == 0) = false := by rw [beq_eq_false_iff_ne]; omega
        have HCl := Lib.hid (fun w' (hb : Below wr.heap.size wr w') (hK : Keep m (wr.alloc (.cells #[.int .u8 a, .int .u8 b] 67)) w') => hcl w' hK (HTw.out.after hb) t hb0.1 hb0.2)
        have HW := Lib.hid (fun w' (hb : Below wr.heap.size wr w') => ws_any V.heap.size V.heap.size _ (f t) w' (builder_later hi.out.bld hb) (by omega) (by omega) (Nat.le_trans hBs hb.size))
        unfold IsGo at hgo
        have hfw := field_w k1 cap1 g1
        clear hcl hf1 hla
        simp only [Bool.false_eq_true, if_false] at HLk
        go_wp2_with (first | (go_at_call 46; (with_reducible refine (HW.out _ (below_new' hb3)).mono ?_); rintro e W3 ⟨rfl, h1, h2⟩) | ((with_reducible refine (HCl.out _ ((Below.refl _ _).alloc (Nat.le_refl _) _) (Keep.refl _ _)).mono ?_); rintro e W2 ⟨rfl, hb3⟩))
        go_roundw
        case rel => exact ⟨k + 1, by go_num, by omega, Lib.hid ⟨by rw [HS1.out, hpc.out]; exact h1.out, hi.out.bel.trans (((below_new hb3).mono hBs).trans h2.out)⟩⟩
        case measure => simp [intOf]; omega
    · obtain rfl : k = l.length := by omega
      have HW := Lib.hid (Tryz.Builder_String_any V.heap.size V.heap.size _ wr hi.out.bld hi.out.bel.size)
      rw [List.take_of_length_le (Nat.le_refl _)] at HW
      go_wp2_with ((go_at_call 47; (with_reducible refine HW.out.mono ?_); rintro e W3 ⟨rfl, h1⟩))
      go_ret2
      exact ⟨rfl, HBV.out.trans ((hi.out.bel.trans h1).mono (by have := HBV.out.size; omega))⟩
end Go.Proofs.YtocdabmfcbmpaaaGreatDoor
