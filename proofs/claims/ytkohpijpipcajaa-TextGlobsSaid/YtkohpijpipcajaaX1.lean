import Derived.Test.YtkohpijpipcajaaW3
import Derived.Test.YtkohpijpipcajaaB1
import Derived.Maps.AppendAt
namespace Go.Proofs.Ytkohpijpipcajaa
open Go.RowKit
set_option linter.unusedVariables false
set_option linter.unusedSimpArgs false

def idxCells (l : List Nat) : List Value := l.map fun n : Nat => Value.int .i64 (n : Int)
/-- a row of 256 slices of indexes that the call owns, each in a block of its own. -/
def IdxRows (g B : Nat) (L : Nat → List Nat) (w : World) : Prop :=
  g < B ∧ B ≤ w.heap.size ∧ ∃ (cs : Array Value) (V : Nat → Value), w.heap[g]? = some (.cells cs 71 (0, 0)) ∧ cs.size = 256 ∧ (∀ c, c < 256 → cs[c]? = some (V c)) ∧
    (∀ c, c < 256 → w.ownsRow B 3 1 (V c) (L c).length (idxCells (L c))) ∧
    (∀ c d, c < 256 → d < 256 → c ≠ d → ∀ k, (V c).ownBlock = some k → (V d).ownBlock ≠ some k)

def updV (V : Nat → Value) (c : Nat) (v : Value) : Nat → Value := fun d => if d = c then v else V d
theorem updV_same (V : Nat → Value) (c : Nat) (v : Value) : updV V c v c = v := if_pos rfl
theorem updV_ne {V : Nat → Value} {c d : Nat} {v : Value} (h : d ≠ c) : updV V c v d = V d := if_neg h
def updL (L : Nat → List Nat) (c i : Nat) : Nat → List Nat := fun d => if d = c then L c ++ [i] else L d

theorem ownsRow_kept2 {w w' : World} {B n : Nat} {v : Value} {xs : List Value} {g c : Nat} {u : Value} {row : Option Nat} (h : w.ownsRow B 3 1 v n xs) (hg : w.grownBy w' row) (hne : v.ownBlock = none ∨ v.ownBlock ≠ row) (hgB : g < B) :
    (w'.setCell ⟨g, c, none⟩ u).ownsRow B 3 1 v n xs := by
  have h1 := h.kept hg hne
  refine ownsRow_setCell_other h1 (fun e => ?_) u
  have := (h1.lt _ e).1
  simp at this
  omega

theorem IdxRows.at {g B : Nat} {L : Nat → List Nat} {w : World} (h : IdxRows g B L w) {c : Nat} (hc : c < 256) :
    ∃ v, w.cell? ⟨g, c, none⟩ = some v ∧ w.ownsRow B 3 1 v (L c).length (idxCells (L c)) ∧
      ∀ (o : Obj) (w' : World) (v' : Value) (i : Nat), (w.alloc o).grownBy w' v.ownBlock → w'.ownsRow B 3 1 v' ((L c).length + 1) (idxCells (L c) ++ [.int .i64 i]) → (v'.ownBlock = v.ownBlock ∨ v'.ownBlock = some (w.alloc o).heap.size) →
        w'.cell? ⟨g, c, none⟩ = some v ∧ w'.frozen? ⟨g, c, none⟩ = false ∧ IdxRows g B (updL L c i) (w'.setCell ⟨g, c, none⟩ v') := by
  obtain ⟨hgB, hB, cs, V, hrow, hcs, hV, hown, hdis⟩ := h
  refine ⟨V c, by rw [cell_of_row _ _ _ _ _ _ hrow]; exact hV c hc, hown c hc, ?_⟩
  intro o w' v' i hg ho hb
  have hgw : g < w.heap.size := by omega
  have hgo : w.grownBy w' (V c).ownBlock := ⟨hg.os, hg.tape, hg.output, Nat.le_trans (by simp) hg.size, fun k hk hne => (hg.block k (by simp; omega) hne).trans (heap_alloc_old w o hk)⟩
  have hrow' : w'.heap[g]? = some (.cells cs 71 (0, 0)) := by
    rw [hgo.block g hgw (fun e => ?_)]
    · exact hrow
    · have := ((hown c hc).lt _ e.symm).1
      omega
  have hsz : (w'.setCell ⟨g, c, none⟩ v').heap.size = w'.heap.size := by simp
  refine ⟨by rw [cell_of_row _ _ _ _ _ _ hrow']; exact hV c hc, frozen_of_row _ _ _ _ _ hrow', hgB, by rw [hsz]; exact Nat.le_trans hB hgo.size, cs.setIfInBounds c v', updV V c v', row_setCell hrow', by simp [hcs], ?_, ?_, ?_⟩
  · intro d hd
    by_cases e : d = c
    · subst e
      rw [updV_same]
      simp [Array.getElem?_setIfInBounds, hcs, hd]
    · rw [Array.getElem?_setIfInBounds_ne (fun x => e x.symm), updV_ne e]
      exact hV d hd
  · intro d hd
    by_cases e : d = c
    · subst e
      have hx : idxCells (updL L d i d) = idxCells (L d) ++ [.int .i64 i] := by simp [updL, idxCells]
      have hl : (updL L d i d).length = (L d).length + 1 := by simp [updL]
      rw [hx, hl, updV_same]
      refine ownsRow_setCell_other ho (fun e => ?_) _
      have := (ho.lt _ e).1
      simp at this
      omega
    · have hx : updL L c i d = L d := by simp [updL, e]
      rw [hx, updV_ne e]
      refine ownsRow_kept2 (hown d hd) hgo ?_ hgB
      cases hk : (V d).ownBlock with
      | none => exact Or.inl rfl
      | some k => exact Or.inr fun e2 => hdis d c hd hc e k hk e2.symm
  · have hold : ∀ d, d < 256 → d ≠ c → ∀ k, (V d).ownBlock = some k → v'.ownBlock ≠ some k := by
      intro d hd e k hk e2
      rcases hb with h1 | h1
      · exact hdis d c hd hc e k hk (h1.symm.trans e2)
      · rw [e2] at h1
        have := ((hown d hd).lt _ hk).2
        have h3 : k = (w.alloc o).heap.size := by simpa using h1
        rw [h3] at this
        simp at this
        omega
    intro d d' hd hd' hne k hk
    by_cases e : d = c
    · subst e
      rw [updV_same] at hk
      rw [updV_ne (fun x => hne x.symm)]
      exact fun e2 => hold d' hd' (fun x => hne x.symm) k e2 hk
    · rw [updV_ne e] at hk
      by_cases e' : d' = c
      · subst e'
        rw [updV_same]
        exact hold d hd e k hk
      · rw [updV_ne e']
        exact hdis d d' hd hd' hne k hk
end Go.Proofs.Ytkohpijpipcajaa
