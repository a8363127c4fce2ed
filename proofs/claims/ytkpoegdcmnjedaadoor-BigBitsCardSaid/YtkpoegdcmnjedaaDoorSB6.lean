import Derived.Test.YtkpoegdcmnjedaaDoorPR4
import Derived.Test.YtkpoegdcmnjedaaDoorPR9
import Derived.Test.YtkpoegdcmnjedaaDoorNB4
import Derived.Test.YtkpoegdcmnjedaaDoorSC3
namespace Go.Proofs.YtkpoegdcmnjedaaDoor
open Go.RowKit
set_option linter.unusedVariables false
set_option linter.unusedSimpArgs false

/-! ### the law BigBits, given what bits tells -/
theorem ShQ.det {s : ByteArray} {n : Int} {W W' W1 W1' : World} {r r' : ByteArray} {er er' : Int} (h : ShQ s n W (.returned (.tuple #[.string r, .int .i64 er])) W') (h' : ShQ s n W1 (.returned (.tuple #[.string r', .int .i64 er'])) W1') : r = r' ∧ er = er' := by
  obtain ⟨x, ex, e1, h1, _⟩ := h
  obtain ⟨y, ey, e2, h2, _⟩ := h'
  simp only [Ending.returned.injEq, Value.tuple.injEq, Array.mk.injEq, List.cons.injEq, Value.string.injEq, Value.int.injEq, and_true, true_and] at e1 e2
  obtain ⟨rfl, rfl⟩ := e1
  obtain ⟨rfl, rfl⟩ := e2
  rcases h1 with ⟨a1, b1, c1⟩ | ⟨a1, d1, b1, c1⟩ | ⟨a1, d1, d1', b1, c1⟩ | ⟨a1, d1, d1', b1, c1⟩ <;> rcases h2 with ⟨a2, b2, c2⟩ | ⟨a2, d2, b2, c2⟩ | ⟨a2, d2, d2', b2, c2⟩ | ⟨a2, d2, d2', b2, c2⟩ <;>
    first
    | exact absurd a2 a1
    | exact absurd a1 a2
    | (with_reducible exact ⟨b1.trans b2.symm, c1.trans c2.symm⟩)
    | omega
set_option maxRecDepth 100000 in
set_option maxHeartbeats 8000000 in
theorem bigBits_any (hB : BitsH) (a b : ByteArray) (n : Int) (W : World) (ha : a.size ≤ 9223372036854775807) (hb : b.size ≤ 9223372036854775807) :
    Calls Tryd.prog 6 #[.string a, .string b, .int .i64 n] W fun e W' => e = .returned (.bool true) ∧ Below W.heap.size W W' := by
  obtain ⟨V, hV⟩ : ∃ V, V = W.alloc (Obj.cells #[.string a, .string b] 9) := ⟨_, rfl⟩
  have hv0 : V.heap[W.heap.size]? = some (.cells #[.string a, .string b] 9 (0, 0)) := by rw [hV]; exact heap_alloc_new W _
  have hT : Txs W.heap.size [a, b] V := ⟨by rw [hV]; simp, fun i hi => by
    have : i = 0 ∨ i = 1 := by have h : i < 2 := hi; omega
    rcases this with rfl | rfl <;> exact (cell_of_row _ _ _ _ _ _ hv0).trans rfl⟩
  have hR := long_any 60 W.heap.size 2 [a, b] V hT (by show 2 ≤ 1000; decide) (fun s hs => by
    simp only [List.mem_cons, List.not_mem_nil, or_false] at hs
    rcases hs with rfl | rfl <;> assumption) (by decide)
  obtain ⟨r, HRB⟩ : ∃ r, Hid (longB 60 [a, b] = r) := ⟨_, Lib.hid rfl⟩
  rw [HRB.out] at hR
  have HR : Hid (Calls Tryd.prog 11 #[.int .i64 60, .slice (some ⟨W.heap.size, 0, none⟩) 2 2] V fun e W' => e = .returned (.bool r) ∧ V = W') := Lib.hid hR
  have HVB : Hid (Below W.heap.size W V) := Lib.hid (by rw [hV]; exact (Below.refl _ _).alloc (Nat.le_refl _) _)
  have HAW : Hid (∀ w, Calls Tryd.prog 12 #[] w fun e W' => e = .returned (.bool true) ∧ Below w.heap.size w W') := Lib.hid fun w => awake_any w
  clear hR hT hv0
  cases r
  · have hall := HRB.out
    unfold longB at hall
    rw [List.any_eq_false] at hall
    have ha9 : a.size ≤ 60 := by have := hall a (by simp); simpa using this
    have hb9 : b.size ≤ 60 := by have := hall b (by simp); simpa using this
    have A1 := Lib.hid fun w => shift_any a n w (by omega)
    have A2 := Lib.hid fun w => ref_shift_any a n w (by omega)
    have A3 := Lib.hid fun w => and_any a b w (by omega) (by omega)
    have A4 := Lib.hid fun w => ref_and_any hB a b w (by omega) (by omega)
    have A5 := Lib.hid fun w => or_any a b w (by omega) (by omega)
    have A6 := Lib.hid fun w => ref_or_any hB a b w (by omega) (by omega)
    have A7 := Lib.hid fun w => xor_any a b w (by omega) (by omega)
    have A8 := Lib.hid fun w => ref_xor_any hB a b w (by omega) (by omega)
    clear hall ha hb ha9 hb9 hB
    go_enter Tryd.func6, Tryd.ntmps6
    go_wp2_with fail
    rw [← hV]
    clear hV
    refine HR.out.mono ?_
    rintro e w2 ⟨rfl, rfl⟩
    have HB0 := HVB
    clear HR HVB HRB
    go_wp2_with fail
    refine (A1.out _).mono ?_
    rintro e w1 ⟨r1, er1, rfl, h1, hb1⟩
    have HQ1 : Hid (ShQ a n _ (.returned (.tuple #[.string r1, .int .i64 er1])) w1) := Lib.hid ⟨r1, er1, rfl, h1, hb1⟩
    have HB1 := Lib.hid (HB0.out.trans (hb1.mono HB0.out.size))
    clear h1 hb1 HB0
    go_wp2_with fail
    refine (A2.out _).mono ?_
    rintro e w2 ⟨r2, er2, rfl, h2, hb2⟩
    have hdet := ShQ.det HQ1.out (show ShQ a n _ (.returned (.tuple #[.string r2, .int .i64 er2])) w2 from ⟨r2, er2, rfl, h2, hb2⟩)
    obtain ⟨rfl, rfl⟩ := hdet
    have HB2 := Lib.hid (HB1.out.trans (hb2.mono HB1.out.size))
    clear h2 hb2 HB1 HQ1
    go_wp2_with fail
    refine (A3.out _).mono ?_
    rintro e w3 ⟨r1, er1, rfl, h1, hb1⟩
    have HQ1 : Hid (TwoR (fun x y => twZ fAnd x y) a b _ (.returned (.tuple #[.string r1, .int .i64 er1])) w3) := Lib.hid ⟨r1, er1, rfl, h1, hb1⟩
    have HB3 := Lib.hid (HB2.out.trans (hb1.mono HB2.out.size))
    clear h1 hb1 HB2
    go_wp2_with fail
    refine (A4.out _).mono ?_
    rintro e w4 ⟨r2, er2, rfl, h2, hb2⟩
    have hdet := TwoR.det HQ1.out (show TwoR (fun x y => twZ fAnd x y) a b _ (.returned (.tuple #[.string r2, .int .i64 er2])) w4 from ⟨r2, er2, rfl, h2, hb2⟩)
    obtain ⟨rfl, rfl⟩ := hdet
    have HB4 := Lib.hid (HB3.out.trans (hb2.mono HB3.out.size))
    clear h2 hb2 HB3 HQ1
    go_wp2_with fail
    refine (A5.out _).mono ?_
    rintro e w5 ⟨r1, er1, rfl, h1, hb1⟩
    have HQ1 : Hid (TwoR (fun x y => twZ fOr x y) a b _ (.returned (.tuple #[.string r1, .int .i64 er1])) w5) := Lib.hid ⟨r1, er1, rfl, h1, hb1⟩
    have HB5 := Lib.hid (HB4.out.trans (hb1.mono HB4.out.size))
    clear h1 hb1 HB4
    go_wp2_with fail
    refine (A6.out _).mono ?_
    rintro e w6 ⟨r2, er2, rfl, h2, hb2⟩
    have hdet := TwoR.det HQ1.out (show TwoR (fun x y => twZ fOr x y) a b _ (.returned (.tuple #[.string r2, .int .i64 er2])) w6 from ⟨r2, er2, rfl, h2, hb2⟩)
    obtain ⟨rfl, rfl⟩ := hdet
    have HB6 := Lib.hid (HB5.out.trans (hb2.mono HB5.out.size))
    clear h2 hb2 HB5 HQ1
    go_wp2_with fail
    refine (A7.out _).mono ?_
    rintro e w7 ⟨r1, er1, rfl, h1, hb1⟩
    have HQ1 : Hid (TwoR (fun x y => twZ fXor x y) a b _ (.returned (.tuple #[.string r1, .int .i64 er1])) w7) := Lib.hid ⟨r1, er1, rfl, h1, hb1⟩
    have HB7 := Lib.hid (HB6.out.trans (hb1.mono HB6.out.size))
    clear h1 hb1 HB6
    go_wp2_with fail
    refine (A8.out _).mono ?_
    rintro e w8 ⟨r2, er2, rfl, h2, hb2⟩
    have hdet := TwoR.det HQ1.out (show TwoR (fun x y => twZ fXor x y) a b _ (.returned (.tuple #[.string r2, .int .i64 er2])) w8 from ⟨r2, er2, rfl, h2, hb2⟩)
    obtain ⟨rfl, rfl⟩ := hdet
    have HB8 := Lib.hid (HB7.out.trans (hb2.mono HB7.out.size))
    clear h2 hb2 HB7 HQ1
    go_wp2_with fail
    refine (HAW.out _).mono ?_
    rintro e w20 ⟨rfl, hb⟩
    have HB20 := Lib.hid (HB8.out.trans (hb.mono HB8.out.size))
    clear hb
    go_wp2
    go_ret
    exact ⟨rfl, HB20.out⟩
  · go_enter Tryd.func6, Tryd.ntmps6
    go_wp2_with fail
    rw [← hV]
    clear hV
    refine HR.out.mono ?_
    rintro e w2 ⟨rfl, rfl⟩
    go_wp2_with (go_at_call 12; refine (HAW.out _).mono ?_; rintro e w3 ⟨rfl, hb3⟩; have HB3 := Lib.hid hb3; clear hb3)
    go_ret
    exact ⟨rfl, HVB.out.trans (HB3.out.mono HVB.out.size)⟩
end Go.Proofs.YtkpoegdcmnjedaaDoor
