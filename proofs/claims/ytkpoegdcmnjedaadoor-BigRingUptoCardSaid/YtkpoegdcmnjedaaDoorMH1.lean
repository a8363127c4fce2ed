import Derived.Test.YtkpoegdcmnjedaaDoorMG7
namespace Go.Proofs.YtkpoegdcmnjedaaDoor
open Go.RowKit
set_option linter.unusedVariables false
set_option linter.unusedSimpArgs false

theorem eight_cells {g h : Nat} {x0 x1 x2 x3 y0 y1 y2 y3 : Value} {W : World} (a : Box4 g x0 x1 x2 x3 W) (b : Box4 h y0 y1 y2 y3 W) :
    W.cell? ⟨g, 0, none⟩ = some x0 ∧ W.cell? ⟨g, 1, none⟩ = some x1 ∧ W.cell? ⟨g, 2, none⟩ = some x2 ∧ W.cell? ⟨g, 3, none⟩ = some x3 ∧
    (W.cell? ⟨h, 0, none⟩ = some y0 ∧ W.cell? ⟨h, 1, none⟩ = some y1 ∧ W.cell? ⟨h, 2, none⟩ = some y2 ∧ W.cell? ⟨h, 3, none⟩ = some y3) :=
  ⟨a.c0, a.c1, a.c2, a.c3, b.c0, b.c1, b.c2, b.c3⟩
theorem Box4.far4 {g c : Nat} {x0 x1 x2 x3 y0 y1 y2 y3 : Value} {W : World} (h : Box4 g x0 x1 x2 x3 W) (hc : g ≠ c) :
    Box4 g x0 x1 x2 x3 ((((W.setCell ⟨c, 0, none⟩ y0).setCell ⟨c, 1, none⟩ y1).setCell ⟨c, 2, none⟩ y2).setCell ⟨c, 3, none⟩ y3) :=
  (((h.far hc).far hc).far hc).far hc

theorem Nm.parts {K : Nat} {W : World} {v : Value} {x : Int} (h : Nm K W v x) : ∃ b a n p o, v = numV b (.slice a n p) false o ∧ Nm K W (numV b (.slice a n p) false o) x := by
  have h' := h
  obtain ⟨ao, n, cap, od, rfl, _, _⟩ := h'
  exact ⟨_, _, _, _, _, rfl, h⟩
theorem NmB.parts {B K : Nat} {W : World} {v : Value} {x : Int} (h : NmB B K W v x) : ∃ b a n p o, v = numV b (.slice a n p) false o ∧ NmB B K W (numV b (.slice a n p) false o) x := by
  have h' := h
  obtain ⟨ao, n, cap, od, rfl, _, _⟩ := h'
  exact ⟨_, _, _, _, _, rfl, h⟩

set_option maxRecDepth 100000 in
set_option maxHeartbeats 4000000 in
theorem less_any {K : Nat} {W : World} {va vb : Value} {x y : Int} (ha : Nm K W va x) (hb : Nm K W vb y) (hK : K ≤ 100000) :
    Calls Tryd.prog 67 #[va, vb] W fun e W' => (∃ v, e = .returned v ∧ NmB W.heap.size (K + 1) W' v (x - y)) ∧ Below W.heap.size W W' := by
  have HA := Lib.hid ha
  have HB := Lib.hid hb
  obtain ⟨a1, n1, p1, o1, rfl, hm1, hn1⟩ := ha
  obtain ⟨a2, n2, p2, o2, rfl, hm2, hn2⟩ := hb
  obtain ⟨s1, HS1⟩ : ∃ s, Hid (decide (x < 0) = s) := ⟨_, Lib.hid rfl⟩
  obtain ⟨s2, HS2⟩ : ∃ s, Hid (decide (y < 0) = s) := ⟨_, Lib.hid rfl⟩
  rw [HS1.out] at HA ⊢
  rw [HS2.out] at HB ⊢
  obtain ⟨V, hV, v0, v1, v2, vb, vs⟩ := three_new W (Obj.cells #[.bool s1, .slice a1 n1 p1, .bool false, .bool o1] 46) (Obj.cells #[.bool s2, .slice a2 n2 p2, .bool false, .bool o2] 46) (Obj.cells #[.bool false, .slice none 0 0, .bool false, .bool false] 46)
  have HA1 := Lib.hid (HA.out.later vb (Nat.le_refl _))
  have HB1 := Lib.hid (HB.out.later vb (Nat.le_refl _))
  have HVB := Lib.hid vb
  have F0 := Lib.hid (And.intro (Box4.of v0) (And.intro (Box4.of v1) (Box4.of v2)))
  clear hm1 hm2 vb v0 v1 v2
  go_enter Tryd.func67, Tryd.ntmps67
  go_upto_region 1 with (fail)
  rw [← hV]
  clear hV
  go_region_held3 (fun w' => (w'.cell? ⟨W.heap.size, 0, none⟩ = some (.bool s1) ∧ w'.cell? ⟨W.heap.size, 1, none⟩ = some (.slice a1 n1 p1) ∧ w'.cell? ⟨W.heap.size, 2, none⟩ = some (.bool false) ∧ w'.cell? ⟨W.heap.size, 3, none⟩ = some (.bool o1) ∧ w'.cell? ⟨W.heap.size + 1, 0, none⟩ = some (.bool s2) ∧ w'.cell? ⟨W.heap.size + 1, 1, none⟩ = some (.slice a2 n2 p2) ∧ w'.cell? ⟨W.heap.size + 1, 2, none⟩ = some (.bool false) ∧ w'.cell? ⟨W.heap.size + 1, 3, none⟩ = some (.bool o2))) (first | exact eight_cells (F0.out.1.after (Below.drew (Below.refl _ _))) (F0.out.2.1.after (Below.drew (Below.refl _ _))) | exact eight_cells (F0.out.1.after (undrew hb5)) (F0.out.2.1.after (undrew hb5)) | exact eight_cells ((F0.out.1.after (undrew hb5)).after hb6) ((F0.out.2.1.after (undrew hb5)).after hb6) | exact eight_cells (((F0.out.1.after (undrew hb5)).after hb6).far4 (by omega)) (((F0.out.2.1.after (undrew hb5)).after hb6).far4 (by omega))) (first | (go_at_call 89; refine (negated_any (HB1.out.later (Below.drew (Below.refl _ _)) (Nat.le_refl _))).mono ?_; rintro e w5 ⟨⟨v5, rfl, hm5⟩, hb5⟩; obtain ⟨b5, a5, n5, p5, o5, rfl, hm5'⟩ := hm5.parts; have HM5 := Lib.hid hm5'; clear hm5 hm5') | (go_at_call 64; refine (nplus_any (HA1.out.later (undrew hb5) (Nat.le_refl _)) HM5.out hK).mono ?_; rintro e w6 ⟨⟨v6, rfl, hm6⟩, hb6⟩; obtain ⟨b6, a6, n6, p6, o6, rfl, hm6'⟩ := hm6.parts; have HM6 := Lib.hid hm6'; clear hm6 hm6'; obtain ⟨g0, g1, g2, g3, g4, g5, g6, g7⟩ := (F0.out.2.2.after (undrew hb5)).after hb6))
  go_wp2
  have B5 := undrew hb5
  have hxy : x + -y = x - y := by omega
  refine bodyPost_ret (v := numV b6 (.slice a6 n6 p6) false o6) (by simp [results, Tryd.results67, go_sem, g0, g1, g2, g3]) rfl ⟨⟨_, rfl, ?_⟩, ?_⟩
  · rw [← hxy]
    exact (HM6.out.four (by have := B5.size; omega) _ _ _ _).mono (by have := B5.size; omega)
  · exact below_four ((HVB.out.trans (B5.mono (by omega))).trans (hb6.mono (by have := B5.size; omega))) (by omega) _ _ _ _
end Go.Proofs.YtkpoegdcmnjedaaDoor
