import Derived.Test.YtkpoegdcmnjedaaDoorRF4
import Derived.Test.YtkpoegdcmnjedaaDoorRF6
import Derived.Test.YtkpoegdcmnjedaaDoorMH3
namespace Go.Proofs.YtkpoegdcmnjedaaDoor
open Go.RowKit
set_option linter.unusedVariables false
set_option linter.unusedSimpArgs false

set_option maxRecDepth 100000 in
set_option maxHeartbeats 4000000 in
theorem ref_compare_any (a b : ByteArray) (W : World) (ha : a.size ≤ 400000) (hb : b.size ≤ 400000) : Calls Tryd.prog 22 #[.string a, .string b] W (CmpQ a b W) := by
  go_enter Tryd.func22, Tryd.ntmps22
  go_wp2_with fail
  refine (ref_both_any a b _ (by omega) (by omega)).mono ?_
  rintro e w2 ⟨m1, ao1, n1, cap1, m2, ao2, n2, cap2, er, rfl, hd, hbd⟩
  have HB := Lib.hid hbd
  clear hbd
  rcases hd with ⟨h1, rfl⟩ | ⟨h1, rfl, h2, h3⟩
  · go_wp2
    exact bodyPost_ret (v := .tuple #[.int .i64 0, .int .i64 2]) (by simp [results, Tryd.results22, go_sem]) rfl ⟨_, 2, rfl, Or.inl ⟨h1, rfl, rfl⟩, ((HB.out.alloc HB.out.size _).alloc (by have := HB.out.size; simp; omega) _)⟩
  · obtain ⟨x, hx1, hx2, hx3, hx4⟩ := h2.read h1.1 ha
    obtain ⟨y, hy1, hy2, hy3, hy4⟩ := h3.read h1.2 hb
    obtain ⟨V1, hV1, hbox1, vb1, vs1⟩ := box2_new w2 (.bool m1) (.slice ao1 n1 cap1)
    obtain ⟨V, hV, hbox, vb, vs⟩ := box2_new V1 (.bool m2) (.slice ao2 n2 cap2)
    rw [vs1] at hbox
    have hvb := vb1.trans (vb.mono (by omega))
    have HVB := Lib.hid hvb
    have F1 := Lib.hid (hbox1.after vb)
    have F2 := Lib.hid hbox
    have HX := Lib.hid (hx1.later hvb (Nat.le_refl _))
    have HY := Lib.hid (hy1.later hvb (Nat.le_refl _))
    have HNX := Lib.hid (And.intro hx2 hy2)
    have HVS : Hid (V.heap.size = w2.heap.size + 2) := Lib.hid (by omega)
    obtain ⟨sb, HSB⟩ : ∃ b, Hid ((!decide (Lim ≤ x.natAbs) && !decide (Lim ≤ y.natAbs)) = b) := ⟨_, Lib.hid rfl⟩
    have HSN : Hid (sb = true ↔ natT a < Lim ∧ natT b < Lim) := Lib.hid (by
      rw [← HSB.out, Bool.and_eq_true, Bool.not_eq_true', Bool.not_eq_true', decide_eq_false_iff_not, decide_eq_false_iff_not, hx3, hy3]; omega)
    have HVL : Hid (natT a < Lim ∧ natT b < Lim → x = valT a ∧ y = valT b) := Lib.hid fun h => ⟨hx4 h.1, hy4 h.2⟩
    have hsh := ref_short_two (HX.out.later ((Below.refl V.heap.size V).alloc (Nat.le_refl _) (Obj.cells #[.bool m1, .slice ao1 n1 cap1, .bool m2, .slice ao2 n2 cap2] 51)) (Nat.le_refl _)) (HY.out.later ((Below.refl V.heap.size V).alloc (Nat.le_refl _) (Obj.cells #[.bool m1, .slice ao1 n1 cap1, .bool m2, .slice ao2 n2 cap2] 51)) (Nat.le_refl _)) (Two4.new V m1 m2 (.slice ao1 n1 cap1) (.slice ao2 n2 cap2))
    rw [HSB.out] at hsh
    have HSH := Lib.hid hsh
    have HI := Lib.hid h1
    have hVV : V = (w2.alloc (Obj.cells #[.bool m1, .slice ao1 n1 cap1] 51)).alloc (Obj.cells #[.bool m2, .slice ao2 n2 cap2] 51) := by rw [hV, hV1]
    obtain ⟨c0, c1, -, -⟩ := F1.out
    obtain ⟨d0, d1, -, -⟩ := F2.out
    clear hbox hvb vb hV hV1 hbox1 vb1 vs vs1 hx1 hy1 hx2 hy2 hx3 hy3 hx4 hy4 h2 h3 h1 hsh
    go_upto_region 4 with (fail)
    rw [← hVV]
    clear hVV
    go_wp2_with fail
    refine HSH.out.mono ?_
    rintro e w3 ⟨rfl, hb3⟩
    have HW3 : Hid (Below V.heap.size V w3) := Lib.hid (((Below.refl _ _).alloc (Nat.le_refl _) _).trans (hb3.mono (by simp)))
    clear hb3
    obtain ⟨k0, k1, -, -⟩ := F1.out.after HW3.out
    obtain ⟨l0, l1, -, -⟩ := F2.out.after HW3.out
    have hz2 := HB.out.size
    have hvs := HVS.out
    have HWW : Hid (Below W.heap.size W w3) := Lib.hid ((HB.out.trans (HVB.out.mono hz2)).trans (HW3.out.mono (by omega)))
    clear c0 c1 d0 d1 hvs
    cases sb
    · have HL : Hid (Lim ≤ natT a ∨ Lim ≤ natT b) := Lib.hid (by
        have h := HSN.out
        by_cases h1 : natT a < Lim
        · by_cases h2 : natT b < Lim
          · have := h.2 ⟨h1, h2⟩; cases this
          · right; omega
        · left; omega)
      go_wp2
      exact bodyPost_ret (v := .tuple #[.int .i64 0, .int .i64 4]) (by simp [results, Tryd.results22, go_sem]) rfl ⟨_, 4, rfl, Or.inr (Or.inl ⟨HI.out, HL.out, rfl, rfl⟩), HWW.out⟩
    · have HL := Lib.hid (HSN.out.1 rfl)
      have HO := Lib.hid (ref_order72_any (HX.out.later HW3.out (Nat.le_refl _)) (HY.out.later HW3.out (Nat.le_refl _)) HNX.out.1 HNX.out.2)
      go_wp2_with fail
      refine HO.out.mono ?_
      rintro e w4 ⟨rfl, hb4⟩
      have HB4 := Lib.hid hb4
      clear hb4
      go_wp2
      refine bodyPost_ret (v := .tuple #[.int .i64 (cmpZ x y), .int .i64 0]) (by simp [results, Tryd.results22, go_sem]) rfl ⟨_, 0, rfl, Or.inr (Or.inr ⟨HI.out, HL.out.1, HL.out.2, ?_, rfl⟩), HWW.out.trans (HB4.out.mono HWW.out.size)⟩
      obtain ⟨e1, e2⟩ := HVL.out HL.out
      rw [e1, e2]
end Go.Proofs.YtkpoegdcmnjedaaDoor
