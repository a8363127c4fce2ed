import Derived.Test.YtkohpijpipcajaaE1
import Derived.OwnWalk
import Derived.RangeFuncOwn
import Derived.RangeFuncFrom
import Derived.Great.BuildSlice
import Derived.Great.FillDense
namespace Go.Proofs.Ytkohpijpipcajaa
open Go.RowKit
set_option linter.unusedVariables false
set_option linter.unusedSimpArgs false

theorem info79b : (Try.prog.info? 79).map (fun i => (i.zero.map (fun z => decide (z.cells.size = 257)), i.size, i.bytes)) = some (some true, 257, 257) := by kernel_rfl

theorem owns_below {w w' : World} {β : Nat} {e : TypeId} {k : Nat} {v : Value} {n : Nat} {xs : List Value} (h : w.ownsRow β e k v n xs) (hb : Below w.heap.size w w') : w'.ownsRow β e k v n xs := by
  refine h.kept (row := none) ⟨hb.os, hb.tape, hb.output, hb.size, fun k hk _ => hb.block k hk⟩ ?_
  cases hv : v.ownBlock with
  | none => exact Or.inl rfl
  | some k => exact Or.inr (by simp)

/-- one struct appended. -/
theorem wpList_appP {ops : Array Oper} {rest : List Oper} {o : Oper} {a : Act} {Q : Exit → Act → World → Prop} (hgd : o.guard = none) (s x : Operand)
    (ho : o.op = .call { callee := .builtin .append, args := #[s, x], argTypes := #[75, 75] }) (β : Nat) (V : World) (cs : Array Value) (hsz : cs.size = 257) (hone : cs.all (·.oneCell') = true)
    (v : Value) (n : Nat) (xs : List Value) (hs : a.eval s = v) (hx : a.eval x = .slice (some ⟨V.heap.size, 0, none⟩) 1 1) (hown : V.ownsRow β 79 257 v n xs) (hβ : β ≤ V.heap.size) (hn : n ≤ 200)
    (h : ∀ g c w', Below β V w' → w'.ownsRow β 79 257 (.slice (some ⟨g, 0, none⟩) (n + 1) c) (n + 1) (xs ++ cs.toList) → V.heap.size ≤ w'.heap.size → (∀ (k : Nat) (ob : Obj), V.heap[k]? = some ob → ob.isCells = false → w'.heap[k]? = some ob) → wpList Try.prog ops Q rest (a.put o.dst (.slice (some ⟨g, 0, none⟩) (n + 1) c)) w') :
    wpList Try.prog ops Q (o :: rest) a (V.alloc (Obj.cells cs 79)) := by
  obtain ⟨i0, hi, hinf⟩ := Option.map_eq_some_iff.1 info79b
  simp only [Prod.mk.injEq] at hinf
  obtain ⟨hz0, hz1, hz2⟩ := hinf
  obtain ⟨z, hz, hzc⟩ := Option.map_eq_some_iff.1 hz0
  have hzc' : z.cells.size = 257 := by simpa using hzc
  have hx0 : (V.alloc (Obj.cells cs 79)).heap[V.heap.size]? = some (.cells cs 79 (0, 0)) := heap_alloc_new V _
  refine wpList_append_own _ hgd s x 75 ho β 79 i0 z 257 257 Try.underlying75 hi hz hz1 hz2 hzc' (by decide) _ _ _ hs (hown.alloc _) ⟨V.heap.size, 0, none⟩ 1 1 cs.toList hx (by simpa using hsz) ?c1 ?c2 (by unfold maxLen; omega) (by omega) (by simp; omega) ?_
  case c1 =>
    intro j u hj
    have hadd : (⟨V.heap.size, 0, none⟩ : Addr).add j = ⟨V.heap.size, j, none⟩ := by unfold Addr.add; split <;> simp_all
    rw [hadd, cell_of_row _ _ _ _ _ _ hx0]
    simpa using hj
  case c2 =>
    intro u hu
    exact (Array.all_eq_true_iff_forall_mem.1 hone) u (by simpa using hu)
  intro v' w' hown' hg _
  have hb : Below β V w' := ((Below.refl β V).alloc hβ _).grown hg (by simp; omega) (fun k e => (hown.lt k e).1)
  obtain ⟨g, c, rfl⟩ : ∃ g c, v' = .slice (some ⟨g, 0, none⟩) (n + 1) c := by
    rcases hown'.2 with ⟨_, h0⟩ | ⟨g, cap, cur, hv, _⟩
    · omega
    · exact ⟨g, cap, hv⟩
  refine h g c w' hb hown' (by have := hg.size; simp at this; omega) ?_
  intro k ob hk hob
  have hlt : k < V.heap.size := lt_of_block hk
  rw [hg.block k (by simp; omega) ?_, Lib.alloc_old V _ k hlt]
  · exact hk
  · intro e
    rcases hown.2 with ⟨rfl, _⟩ | ⟨g', cap, cur, rfl, _, hg', _⟩
    · simp [Value.ownBlock] at e
    · simp only [Value.ownBlock, Option.some.injEq] at e
      subst e
      rw [hk] at hg'
      cases hg'
      simp [Obj.isCells] at hob

/-- the blocks of a new part. -/
theorem new_part (W : World) (cs : Array Value) (q : Value) :
    ∃ V, V = (W.alloc (Obj.cells cs 79)).alloc (Obj.cells #[q] 97) ∧ V.heap[W.heap.size]? = some (.cells cs 79 (0, 0)) ∧ V.heap.size = W.heap.size + 2 ∧ Below W.heap.size W V ∧ V.cell? ⟨W.heap.size + 1, 0, none⟩ = some q :=
  ⟨_, rfl, heap_alloc2_old _ _ _, by simp, ((Below.refl _ _).alloc (Nat.le_refl _) _).alloc (by simp) _, by rw [cell_of_row _ _ _ _ _ _ (heap_alloc2_new _ _ _)]; rfl⟩

theorem new_part3 (W : World) (cs : Array Value) (q s : Value) :
    ∃ V, V = ((W.alloc (Obj.cells cs 79)).alloc (Obj.cells #[q] 97)).alloc (Obj.cells #[s] 9) ∧ V.heap[W.heap.size]? = some (.cells cs 79 (0, 0)) ∧ V.heap.size = W.heap.size + 3 ∧ Below W.heap.size W V ∧ V.cell? ⟨W.heap.size + 1, 0, none⟩ = some q ∧ V.cell? ⟨W.heap.size + 1 + 1, 0, none⟩ = some s := by
  obtain ⟨A, rfl, h1, h2, h3, h4⟩ := new_part W cs q
  have hb : Below (W.heap.size + 2) ((W.alloc (Obj.cells cs 79)).alloc (Obj.cells #[q] 97)) (((W.alloc (Obj.cells cs 79)).alloc (Obj.cells #[q] 97)).alloc (Obj.cells #[s] 9)) := (Below.refl _ _).alloc (by rw [h2]; exact Nat.le_refl _) _
  refine ⟨_, rfl, (hb.block _ (by omega)).trans h1, by rw [World.size_alloc, h2], h3.trans (hb.mono (by omega)), (hb.cell (p := ⟨W.heap.size + 1, 0, none⟩) (by simp)).trans h4, ?_⟩
  have := heap_alloc_new ((W.alloc (Obj.cells cs 79)).alloc (Obj.cells #[q] 97)) (Obj.cells #[s] 9)
  rw [h2] at this
  rw [cell_of_row _ _ _ _ _ _ this]; rfl

/-- a store into the part's row. -/
theorem part_store {W V : World} {cs : Array Value} {g i : Nat} {v : Value} (hg : V.heap[g]? = some (.cells cs 79 (0, 0))) (hb : Below W.heap.size W V) (hgW : W.heap.size ≤ g) :
    (V.setCell ⟨g, i, none⟩ v).heap[g]? = some (.cells (cs.setIfInBounds i v) 79 (0, 0)) ∧ Below W.heap.size W (V.setCell ⟨g, i, none⟩ v) ∧ (V.setCell ⟨g, i, none⟩ v).heap.size = V.heap.size :=
  ⟨by rw [setCell_eq_setRow V g i cs 79 (0, 0) v hg, setRow_heap V g cs _ 79 (0, 0) hg], hb.setCell hgW _, by simp⟩

/-- the one struct laid anew for the append. -/
theorem wpList_buildP {ops : Array Oper} {rest : List Oper} {o : Oper} {a : Act} {w : World} {Q : Exit → Act → World → Prop} (hg : o.guard = none) (x : Operand) (ho : o.op = .buildSlice 75 1 #[(0, x)])
    (cs : Array Value) (hx : a.eval x = .agg cs) (hsz : cs.size = 257)
    (h : wpList Try.prog ops Q rest (a.put o.dst (.slice (some ⟨w.heap.size, 0, none⟩) 1 1)) (w.alloc (.cells cs 79))) : wpList Try.prog ops Q (o :: rest) a w := by
  obtain ⟨ie, hi, hinf⟩ := Option.map_eq_some_iff.1 info79b
  simp only [Prod.mk.injEq] at hinf
  obtain ⟨hz0, hz1, hz2⟩ := hinf
  obtain ⟨z, hz, hzc⟩ := Option.map_eq_some_iff.1 hz0
  refine wpList_buildSlice hg 75 79 1 #[(0, x)] ho cs ie z Try.underlying75 hi hz (by rw [hz1]; decide) (by rw [hz1]; decide) ?_ h
  rw [hz1]
  have := Go.Great.fill_whole (s := 257) (by decide) [.agg cs] ((Array.range (1 * 257)).map (z.cells[· % z.cells.size]!)) (by intro v hv; simp at hv; subst hv; exact hsz) (by simp)
  simp [hx] at this ⊢
  exact this

noncomputable def addp (pre : List (Fin 256)) : Array Value := pre.foldl (fun cs x => cs.setIfInBounds (1 + x.val) (.bool true)) Try.zeroCells79
theorem addp_snoc (pre : List (Fin 256)) (x : Fin 256) : addp (pre ++ [x]) = (addp pre).setIfInBounds (1 + x.val) (.bool true) := by simp [addp]
theorem foldl_set_size (pre : List (Fin 256)) : ∀ cs : Array Value, (pre.foldl (fun cs x => cs.setIfInBounds (1 + x.val) (.bool true)) cs).size = cs.size := by
  induction pre with
  | nil => intro cs; rfl
  | cons x l ih => intro cs; rw [List.foldl_cons, ih]; simp
theorem addp_size (pre : List (Fin 256)) : (addp pre).size = 257 := by unfold addp; rw [foldl_set_size, zc79]; simp

/-- what is known between the rounds of the range over the set. -/
def PartI (A : World) (f : Nat) (q : Value) (pre : List (Fin 256)) (W : World) : Prop :=
  W.heap[A.heap.size]? = some (.cells (addp pre) 79 (0, 0)) ∧ W.cell? ⟨A.heap.size + 1, 0, none⟩ = some q ∧ W.cell? ⟨f, 0, none⟩ = some (.bool false) ∧ Below A.heap.size A W

theorem partI_own (A : World) (f : Nat) (q : Value) (B : Nat) (hB : A.heap.size ≤ B) : OwnFrom B (PartI A f q) := by
  intro s W W' row h hg hr
  obtain ⟨h1, h2, h3, h4⟩ := h
  have hr' : ∀ r, row = some r → ∃ o : Obj, W.heap[r]? = some o ∧ o.isCells = false := fun r e => (hr r e).2
  exact ⟨(grownBy_keeps_cells hg hr' h1 rfl).trans h1, cell_kept h2 hg hr', cell_kept h3 hg hr', h4.grown hg h4.size (fun k e => Nat.le_trans hB (hr k e).1)⟩

theorem partI_put {A : World} {f : Nat} {q : Value} {pre : List (Fin 256)} {W : World} (h : PartI A f q pre W) (hf : f < A.heap.size) (x : Fin 256) : PartI A f q (pre ++ [x]) (W.setCell ⟨A.heap.size, 1 + x.val, none⟩ (.bool true)) := by
  obtain ⟨h1, h2, h3, h4⟩ := h
  refine ⟨?_, ?_, ?_, h4.setCell (Nat.le_refl _) _⟩
  · rw [addp_snoc, setCell_eq_setRow W _ _ _ 79 (0, 0) _ h1, setRow_heap W _ _ _ 79 (0, 0) h1]
  · rw [World.cell?_of_block (w := W) (heap_setCell_other _ _ _ _ (by simp))]; exact h2
  · rw [World.cell?_of_block (w := W) (heap_setCell_other _ _ _ _ (by simp; omega))]; exact h3
end Go.Proofs.Ytkohpijpipcajaa
