import Derived.Test.YtkpoegdcmnjedaaDoorPR3
namespace Go.Proofs.YtkpoegdcmnjedaaDoor
open Go.RowKit
set_option linter.unusedVariables false
set_option linter.unusedSimpArgs false

/-! ### numbers kept by what a region does -/
theorem Qn.own {B : Nat} {W : World} {m : Bool} {ao : Option Addr} {n cap : Nat} {x : Int} (h : Qn B W (numR m (.slice ao n cap)) x) : ∀ k, (Value.slice ao n cap).ownBlock = some k → B ≤ k ∧ k < W.heap.size := by
  obtain ⟨ao', n', cap', e, hN⟩ := h
  simp only [numR, Value.agg.injEq, Array.mk.injEq, List.cons.injEq] at e
  rw [e.2.1]
  exact fun k hk => hN.lt k hk
theorem Qn.setFar {B : Nat} {W : World} {m : Bool} {ao : Option Addr} {n cap : Nat} {x : Int} (h : Qn B W (numR m (.slice ao n cap)) x) {b : Nat} (hp : ∀ k, (Value.slice ao n cap).ownBlock = some k → k ≠ b) (j : Nat) (y : Value) : Qn B (W.setCell ⟨b, j, none⟩ y) (numR m (.slice ao n cap)) x := by
  obtain ⟨ao', n', cap', e, hN⟩ := h
  have e2 := e
  simp only [numR, Value.agg.injEq, Array.mk.injEq, List.cons.injEq] at e2
  refine ⟨ao', n', cap', e, ?_⟩
  refine World.ownsRow.kept hN (grownBy_setCell W b j y) ?_
  cases e3 : (Value.slice ao' n' cap').ownBlock with
  | none => exact Or.inl rfl
  | some k =>
    refine Or.inr fun e4 => ?_
    rw [← e2.2.1] at e3
    exact hp k e3 (by cases e4; rfl)
theorem bx_new (w : World) : Box2 w.heap.size (.bool false) (.slice none 0 0) (w.alloc (Obj.cells #[Value.bool false, Value.slice none 0 0] 51)) := Box2.of (heap_alloc_new w _)
theorem bx_new2 (w : World) : Box2 (w.heap.size + 1) (.bool false) (.slice none 0 0) ((w.alloc (Obj.cells #[Value.bool false, Value.slice none 0 0] 51)).alloc (Obj.cells #[Value.bool false, Value.slice none 0 0] 51)) := by
  have h := bx_new (w.alloc (Obj.cells #[Value.bool false, Value.slice none 0 0] 51))
  rwa [World.size_alloc] at h
theorem below_join {A X Y : World} (k : Below X.heap.size X Y) (h : Below A.heap.size A X) : Below A.heap.size A Y := h.trans (k.mono h.size)
/-! ### what the two numbers of a division are, behind a region that divides -/
structure RdI (q r : Int) (wr wx : World) (g6 g7 : Nat) (m5 : Bool) (a5 : Option Addr) (n5 p5 : Nat) (m6 : Bool) (a6 : Option Addr) (n6 p6 : Nat) : Prop where
  b6 : Box2 g6 (.bool m5) (.slice a5 n5 p5) wx
  b7 : Box2 g7 (.bool m6) (.slice a6 n6 p6) wx
  h6 : wr.heap.size ≤ g6
  h7 : wr.heap.size ≤ g7
  quo : Qn wr.heap.size wx (numR m5 (.slice a5 n5 p5)) q
  rem : Qn wr.heap.size wx (numR m6 (.slice a6 n6 p6)) r
  bel : Below wr.heap.size wr wx
/-- what a leaf's world keeps while the two boxes are filled. -/
structure Lf (q r : Int) (wr : World) (B : Nat) (m5 : Bool) (a5 : Option Addr) (n5 p5 : Nat) (m6 : Bool) (a6 : Option Addr) (n6 p6 : Nat) (W : World) : Prop where
  quo : Qn B W (numR m5 (.slice a5 n5 p5)) q
  rem : Qn B W (numR m6 (.slice a6 n6 p6)) r
  bel : Below wr.heap.size wr W
  lo : wr.heap.size ≤ B
  hi : B ≤ W.heap.size
section
variable {q r : Int} {wr : World} {B : Nat} {m5 : Bool} {a5 : Option Addr} {n5 p5 : Nat} {m6 : Bool} {a6 : Option Addr} {n6 p6 : Nat} {W : World}
theorem Lf.set (h : Lf q r wr B m5 a5 n5 p5 m6 a6 n6 p6 W) {g : Nat} (hg : g < B) (hw : wr.heap.size ≤ g) (j : Nat) (v : Value) : Lf q r wr B m5 a5 n5 p5 m6 a6 n6 p6 (W.setCell ⟨g, j, none⟩ v) :=
  ⟨h.quo.set hg j v, h.rem.set hg j v, h.bel.setCell hw v, h.lo, by have := h.hi; simpa [World.setCell] using this⟩
theorem Lf.alloc (h : Lf q r wr B m5 a5 n5 p5 m6 a6 n6 p6 W) (o : Obj) : Lf q r wr B m5 a5 n5 p5 m6 a6 n6 p6 (W.alloc o) :=
  ⟨h.quo.later ((Below.refl _ _).alloc (Nat.le_refl _) o) (Nat.le_refl _), h.rem.later ((Below.refl _ _).alloc (Nat.le_refl _) o) (Nat.le_refl _), h.bel.alloc (Nat.le_trans h.lo h.hi) o, h.lo, by have := h.hi; simp; omega⟩
theorem Lf.fin (h : Lf q r wr B m5 a5 n5 p5 m6 a6 n6 p6 W) {g6 g7 : Nat} (b6 : Box2 g6 (.bool m5) (.slice a5 n5 p5) W) (b7 : Box2 g7 (.bool m6) (.slice a6 n6 p6) W) (h6 : wr.heap.size ≤ g6) (h7 : wr.heap.size ≤ g7) : RdI q r wr W g6 g7 m5 a5 n5 p5 m6 a6 n6 p6 :=
  ⟨b6, b7, h6, h7, h.quo.mono h.lo, h.rem.mono h.lo, h.bel⟩
theorem Box2.later {g : Nat} {x0 x1 : Value} {W : World} (h : Box2 g x0 x1 W) (o : Obj) : Box2 g x0 x1 (W.alloc o) := h.after ((Below.refl _ _).alloc (Nat.le_refl _) o)
theorem box2_at (W : World) (x0 x1 : Value) : Box2 W.heap.size x0 x1 (W.alloc (Obj.cells #[x0, x1] 51)) := Box2.of (heap_alloc_new W _)
theorem box2_at1 (W : World) (o : Obj) (x0 x1 : Value) : Box2 (W.heap.size + 1) x0 x1 ((W.alloc o).alloc (Obj.cells #[x0, x1] 51)) := by
  have h := box2_at (W.alloc o) x0 x1
  rwa [World.size_alloc] at h
theorem set_size (W : World) (a : Addr) (v : Value) : (W.setCell a v).heap.size = W.heap.size := by simp [World.setCell]
/-- both boxes new. -/
theorem leaf_nn (h : Lf q r wr B m5 a5 n5 p5 m6 a6 n6 p6 W) : RdI q r wr ((W.alloc (Obj.cells #[.bool m5, .slice a5 n5 p5] 51)).alloc (Obj.cells #[.bool m6, .slice a6 n6 p6] 51)) W.heap.size (W.heap.size + 1) m5 a5 n5 p5 m6 a6 n6 p6 :=
  ((h.alloc _).alloc _).fin ((box2_at W _ _).later _) (box2_at1 W _ _ _) (Nat.le_trans h.lo h.hi) (Nat.le_trans (Nat.le_trans h.lo h.hi) (Nat.le_succ _))
theorem leaf_nn' (h : Lf q r wr B m5 a5 n5 p5 m6 a6 n6 p6 W) : RdI q r wr ((W.alloc (Obj.cells #[.bool m6, .slice a6 n6 p6] 51)).alloc (Obj.cells #[.bool m5, .slice a5 n5 p5] 51)) (W.heap.size + 1) W.heap.size m5 a5 n5 p5 m6 a6 n6 p6 :=
  ((h.alloc _).alloc _).fin (box2_at1 W _ _ _) ((box2_at W _ _).later _) (Nat.le_trans (Nat.le_trans h.lo h.hi) (Nat.le_succ _)) (Nat.le_trans h.lo h.hi)
/-- one box old, one new. -/
theorem leaf_s6 (h : Lf q r wr B m5 a5 n5 p5 m6 a6 n6 p6 W) {g : Nat} {x0 x1 : Value} (b : Box2 g x0 x1 W) (hg : g < B) (hw : wr.heap.size ≤ g) : RdI q r wr (((W.setCell ⟨g, 0, none⟩ (.bool m5)).setCell ⟨g, 1, none⟩ (.slice a5 n5 p5)).alloc (Obj.cells #[.bool m6, .slice a6 n6 p6] 51)) g W.heap.size m5 a5 n5 p5 m6 a6 n6 p6 := by
  have hb := box2_at ((W.setCell ⟨g, 0, none⟩ (.bool m5)).setCell ⟨g, 1, none⟩ (.slice a5 n5 p5)) (.bool m6) (.slice a6 n6 p6)
  rw [set_size, set_size] at hb
  exact (((h.set hg hw _ _).set hg hw _ _).alloc _).fin ((b.two _ _).later _) hb hw (Nat.le_trans h.lo h.hi)
theorem leaf_s7 (h : Lf q r wr B m5 a5 n5 p5 m6 a6 n6 p6 W) {g : Nat} {x0 x1 : Value} (b : Box2 g x0 x1 W) (hg : g < B) (hw : wr.heap.size ≤ g) : RdI q r wr (((W.setCell ⟨g, 0, none⟩ (.bool m6)).setCell ⟨g, 1, none⟩ (.slice a6 n6 p6)).alloc (Obj.cells #[.bool m5, .slice a5 n5 p5] 51)) W.heap.size g m5 a5 n5 p5 m6 a6 n6 p6 := by
  have hb := box2_at ((W.setCell ⟨g, 0, none⟩ (.bool m6)).setCell ⟨g, 1, none⟩ (.slice a6 n6 p6)) (.bool m5) (.slice a5 n5 p5)
  rw [set_size, set_size] at hb
  exact (((h.set hg hw _ _).set hg hw _ _).alloc _).fin hb ((b.two _ _).later _) (Nat.le_trans h.lo h.hi) hw
/-- both old. -/
theorem leaf_67 (h : Lf q r wr B m5 a5 n5 p5 m6 a6 n6 p6 W) {g g' : Nat} {x0 x1 y0 y1 : Value} (b : Box2 g x0 x1 W) (b' : Box2 g' y0 y1 W) (hne : g ≠ g') (hg : g < B) (hw : wr.heap.size ≤ g) (hg' : g' < B) (hw' : wr.heap.size ≤ g') : RdI q r wr ((((W.setCell ⟨g, 0, none⟩ (.bool m5)).setCell ⟨g, 1, none⟩ (.slice a5 n5 p5)).setCell ⟨g', 0, none⟩ (.bool m6)).setCell ⟨g', 1, none⟩ (.slice a6 n6 p6)) g g' m5 a5 n5 p5 m6 a6 n6 p6 :=
  ((((h.set hg hw _ _).set hg hw _ _).set hg' hw' _ _).set hg' hw' _ _).fin (((b.two _ _).far hne).far hne) (((b'.far (Ne.symm hne)).far (Ne.symm hne)).two _ _) hw hw'
end
end Go.Proofs.YtkpoegdcmnjedaaDoor
