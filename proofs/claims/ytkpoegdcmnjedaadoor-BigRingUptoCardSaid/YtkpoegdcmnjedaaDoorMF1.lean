import Derived.Test.YtkpoegdcmnjedaaDoorME2

namespace Go.Proofs.YtkpoegdcmnjedaaDoor
open Go.RowKit
set_option linter.unusedVariables false
set_option linter.unusedSimpArgs false

/-! ### numbers -/
abbrev numV (m : Bool) (v : Value) (lg od : Bool) : Value := .agg #[.bool m, v, .bool lg, .bool od]
theorem cell_after {W W' : World} {a : Addr} {v : Value} (hb : Below W.heap.size W W') (h : W.cell? a = some v) : W'.cell? a = some v := by
  have hlt : a.block < W.heap.size := World.block_lt_of_cell? W a h
  exact (hb.cell (p := a) hlt).trans h
theorem free_after {W W' : World} {a : Addr} (hb : Below W.heap.size W W') (hlt : a.block < W.heap.size) (h : W.frozen? a = false) : W'.frozen? a = false := (hb.frozen (p := a) hlt).trans h
theorem undrew {V W : World} (h : Below V.drew.heap.size V.drew W) : Below V.heap.size V W := ⟨h.os, h.tape, h.output, h.size, h.block⟩
/-- a struct's variable: four cells that may be written. -/
structure Box4 (g : Nat) (x0 x1 x2 x3 : Value) (W : World) : Prop where
  c0 : W.cell? ⟨g, 0, none⟩ = some x0
  c1 : W.cell? ⟨g, 1, none⟩ = some x1
  c2 : W.cell? ⟨g, 2, none⟩ = some x2
  c3 : W.cell? ⟨g, 3, none⟩ = some x3
  f0 : W.frozen? ⟨g, 0, none⟩ = false
  f1 : W.frozen? ⟨g, 1, none⟩ = false
  f2 : W.frozen? ⟨g, 2, none⟩ = false
  f3 : W.frozen? ⟨g, 3, none⟩ = false
theorem Box4.of {g : Nat} {x0 x1 x2 x3 : Value} {W : World} (h : W.heap[g]? = some (.cells #[x0, x1, x2, x3] 46 (0, 0))) : Box4 g x0 x1 x2 x3 W :=
  ⟨(cell_of_row _ _ _ _ _ _ h).trans rfl, (cell_of_row _ _ _ _ _ _ h).trans rfl, (cell_of_row _ _ _ _ _ _ h).trans rfl, (cell_of_row _ _ _ _ _ _ h).trans rfl, frozen_of_row _ _ _ _ _ h, frozen_of_row _ _ _ _ _ h, frozen_of_row _ _ _ _ _ h, frozen_of_row _ _ _ _ _ h⟩
theorem Box4.after {g : Nat} {x0 x1 x2 x3 : Value} {W W' : World} (h : Box4 g x0 x1 x2 x3 W) (hb : Below W.heap.size W W') : Box4 g x0 x1 x2 x3 W' := by
  have hlt : g < W.heap.size := World.block_lt_of_cell? W ⟨g, 0, none⟩ h.c0
  exact ⟨cell_after hb h.c0, cell_after hb h.c1, cell_after hb h.c2, cell_after hb h.c3, free_after hb hlt h.f0, free_after hb hlt h.f1, free_after hb hlt h.f2, free_after hb hlt h.f3⟩
theorem far_set {W : World} {g c j k : Nat} {x : Value} (h : c ≠ g) : (W.setCell ⟨g, j, none⟩ x).cell? ⟨c, k, none⟩ = W.cell? ⟨c, k, none⟩ := World.cell?_of_block (heap_setCell_other _ _ _ _ (by simpa using h))
theorem four_far {W : World} {g c k : Nat} {x0 x1 x2 x3 v : Value} (h : c ≠ g) (hv : W.cell? ⟨c, k, none⟩ = some v) :
    ((((W.setCell ⟨g, 0, none⟩ x0).setCell ⟨g, 1, none⟩ x1).setCell ⟨g, 2, none⟩ x2).setCell ⟨g, 3, none⟩ x3).cell? ⟨c, k, none⟩ = some v := by
  rw [far_set h, far_set h, far_set h, far_set h]; exact hv
theorem M.four {B : Nat} {W : World} {v : Value} {l : List Nat} (h : M B W v l) {g : Nat} (hg : g < B) (x0 x1 x2 x3 : Value) :
    M B ((((W.setCell ⟨g, 0, none⟩ x0).setCell ⟨g, 1, none⟩ x1).setCell ⟨g, 2, none⟩ x2).setCell ⟨g, 3, none⟩ x3) v l :=
  (((h.setOther hg 0 x0).setOther hg 1 x1).setOther hg 2 x2).setOther hg 3 x3
theorem below_four {B : Nat} {W0 W : World} (h : Below B W0 W) {g : Nat} (hg : B ≤ g) (x0 x1 x2 x3 : Value) :
    Below B W0 ((((W.setCell ⟨g, 0, none⟩ x0).setCell ⟨g, 1, none⟩ x1).setCell ⟨g, 2, none⟩ x2).setCell ⟨g, 3, none⟩ x3) :=
  (((h.setCell hg _).setCell hg _).setCell hg _).setCell hg _
theorem info46 : (Tryd.prog.info? 46).map (fun i => i.size) = some 4 := by kernel_rfl

set_option maxHeartbeats 1000000 in
theorem signed_any (m lg od k : Bool) (ao : Option Addr) (n cap : Nat) (w : World) :
    Calls Tryd.prog 80 #[numV m (.slice ao n cap) lg od, .bool k] w fun e w' => e = .returned (numV (k && (lg || decide (0 < n))) (.slice ao n cap) lg od) ∧ Below w.heap.size w w' := by
  have fin : ∀ (V W' : World), True := fun _ _ => trivial
  cases k
  · go_enter Tryd.func80, Tryd.ntmps80
    go_wp2
    exact bodyPost_ret (v := numV false (.slice ao n cap) lg od) (by simp [results, Tryd.results80, go_sem, numV]) rfl ⟨rfl, (by (repeat (first | exact Below.refl _ _ | (refine Below.setCell ?_ (by first | omega | (simp; done) | (simp; omega)) _) | (refine Below.alloc ?_ (by first | omega | (simp; done) | (simp; omega)) _) | refine Below.drew ?_)))⟩
  · cases lg
    · by_cases hn : 0 < n
      · go_enter Tryd.func80, Tryd.ntmps80
        go_wp2
        exact bodyPost_ret (v := numV true (.slice ao n cap) false od) (by simp [results, Tryd.results80, go_sem, numV]) rfl ⟨by simp [hn, numV], (by (repeat (first | exact Below.refl _ _ | (refine Below.setCell ?_ (by first | omega | (simp; done) | (simp; omega)) _) | (refine Below.alloc ?_ (by first | omega | (simp; done) | (simp; omega)) _) | refine Below.drew ?_)))⟩
      · obtain rfl : n = 0 := by omega
        go_enter Tryd.func80, Tryd.ntmps80
        go_wp2
        exact bodyPost_ret (v := numV false (.slice ao 0 cap) false od) (by simp [results, Tryd.results80, go_sem, numV]) rfl ⟨by simp [numV], (by (repeat (first | exact Below.refl _ _ | (refine Below.setCell ?_ (by first | omega | (simp; done) | (simp; omega)) _) | (refine Below.alloc ?_ (by first | omega | (simp; done) | (simp; omega)) _) | refine Below.drew ?_)))⟩
    · go_enter Tryd.func80, Tryd.ntmps80
      go_wp2
      exact bodyPost_ret (v := numV true (.slice ao n cap) true od) (by simp [results, Tryd.results80, go_sem, numV]) rfl ⟨by simp [numV], (by (repeat (first | exact Below.refl _ _ | (refine Below.setCell ?_ (by first | omega | (simp; done) | (simp; omega)) _) | (refine Below.alloc ?_ (by first | omega | (simp; done) | (simp; omega)) _) | refine Below.drew ?_)))⟩
end Go.Proofs.YtkpoegdcmnjedaaDoor
