import Derived.Test.YtkohpijpipcajaaE4
namespace Go.Proofs.Ytkohpijpipcajaa
open Go.RowKit Go.Shelf
set_option linter.unusedVariables false
set_option linter.unusedSimpArgs false

/-- k bytes of the part that takes every byte are laid. -/
def QRow (A : World) (D k : Nat) (wr : World) : Prop := ∃ cs : Array Value, wr.heap[A.heap.size]? = some (.cells cs 79 (0, 0)) ∧ cs.size = 257 ∧ cs[0]? = some (.bool false) ∧ (∀ j, j < k → cs[1 + j]? = some (.bool true)) ∧
  (∀ (j : Nat) (u : Value), cs[j]? = some u → u.oneCell' = true) ∧ Below A.heap.size A wr ∧ wr.heap[D]? = some (.deferred (some []))

theorem QRow.start {A V : World} {D : Nat} (h : V.heap[A.heap.size]? = some (.cells Try.zeroCells79 79 (0, 0))) (hb : Below A.heap.size A V) (hD : A.heap[D]? = some (.deferred (some []))) : QRow A D 0 V := by
  refine ⟨_, h, by rw [zc79]; simp, by rw [zc79]; kernel_rfl, fun j hj => by omega, fun j u hu => ?_, hb, (hb.block D (lt_of_block hD)).trans hD⟩
  rw [zc79, Array.getElem?_replicate] at hu
  split at hu
  · cases hu; rfl
  · cases hu

theorem QRow.cell {A wr : World} {D k : Nat} (h : QRow A D k wr) (hk : k < 256) : ∃ v, wr.cell? ⟨A.heap.size, 1 + k, none⟩ = some v := by
  obtain ⟨cs, h1, h2, _⟩ := h
  exact ⟨_, (cell_of_row _ _ _ _ _ _ h1).trans (Array.getElem?_eq_getElem (by omega))⟩
theorem QRow.free {A wr : World} {D k : Nat} (h : QRow A D k wr) : wr.frozen? ⟨A.heap.size, 1 + k, none⟩ = false := by
  obtain ⟨cs, h1, h2, _⟩ := h
  exact frozen_of_row _ _ _ _ _ h1
theorem QRow.step {A wr : World} {D k : Nat} (h : QRow A D k wr) (hk : k < 256) (hD : D < A.heap.size) : QRow A D (k + 1) (wr.setCell ⟨A.heap.size, 1 + k, none⟩ (.bool true)) := by
  obtain ⟨cs, h1, h2, h3, h4, h5, h6, h7⟩ := h
  refine ⟨cs.setIfInBounds (1 + k) (.bool true), ?_, by simpa using h2, ?_, ?_, ?_, h6.setCell (Nat.le_refl _) _, ?_⟩
  · rw [setCell_eq_setRow wr _ _ cs 79 (0, 0) _ h1, setRow_heap wr _ cs _ 79 (0, 0) h1]
  · rw [Array.getElem?_setIfInBounds_ne (by omega)]; exact h3
  · intro j hj
    by_cases e : j = k
    · subst e; rw [Array.getElem?_setIfInBounds_self_of_lt (by omega)]
    · rw [Array.getElem?_setIfInBounds_ne (by omega)]; exact h4 j (by omega)
  · intro j u hu
    by_cases e : 1 + k = j
    · subst e; rw [Array.getElem?_setIfInBounds_self_of_lt (by omega)] at hu; cases hu; rfl
    · rw [Array.getElem?_setIfInBounds_ne e] at hu; exact h5 j u hu
  · rw [heap_setCell_other _ _ _ _ (by simp; omega)]; exact h7

/-- what the four parts are good for. -/
structure PartsAt (g : Nat) (W : World) : Prop where
  m0 : W.cell? ⟨g, 0, none⟩ = some (.bool false)
  m1 : W.cell? ⟨g, 257, none⟩ = some (.bool true)
  m2 : W.cell? ⟨g, 514, none⟩ = some (.bool false)
  m3 : W.cell? ⟨g, 771, none⟩ = some (.bool false)
  s0 : W.cell? ⟨g, 98, none⟩ = some (.bool true)
  s2 : W.cell? ⟨g, 637, none⟩ = some (.bool true)
  s3 : W.cell? ⟨g, 885, none⟩ = some (.bool true)
def PartsC (w : World) (e : Ending) (w' : World) : Prop :=
  ∃ g c, e = .returned (.tuple #[.slice (some ⟨g, 0, none⟩) 4 c, .bool true]) ∧ g < w'.heap.size ∧ Below w.heap.size w w' ∧ PartsAt g w'

theorem four_at {a b c d : List Value} (ha : a.length = 257) (hb : b.length = 257) (hc : c.length = 257) (j : Nat) :
    (j < 257 → (a ++ b ++ c ++ d)[j]? = a[j]?) ∧ (j < 257 → (a ++ b ++ c ++ d)[257 + j]? = b[j]?) ∧ (j < 257 → (a ++ b ++ c ++ d)[514 + j]? = c[j]?) ∧ ((a ++ b ++ c ++ d)[771 + j]? = d[j]?) := by
  refine ⟨fun h => ?_, fun h => ?_, fun h => ?_, ?_⟩
  · rw [List.append_assoc, List.append_assoc, List.getElem?_append_left (by omega)]
  · rw [List.append_assoc, List.append_assoc, List.getElem?_append_right (by omega), List.getElem?_append_left (by omega), ha, Nat.add_sub_cancel_left]
  · rw [List.append_assoc, List.append_assoc, List.getElem?_append_right (by omega), List.getElem?_append_right (by omega), List.getElem?_append_left (by omega), ha, hb, show 514 + j - 257 - 257 = j by omega]
  · rw [List.getElem?_append_right (by simp only [List.length_append]; omega)]
    rw [show 771 + j - (a ++ b ++ c).length = j by simp only [List.length_append]; omega]

theorem parts_end {w W : World} {g c β D : Nat} {cs0 cs1 cs2 cs3 : Array Value} (z0 : cs0.size = 257) (z1 : cs1.size = 257) (z2 : cs2.size = 257) (z3 : cs3.size = 257)
    (hown : W.ownsRow β 79 257 (.slice (some ⟨g, 0, none⟩) 4 c) 4 (cs0.toList ++ cs1.toList ++ cs2.toList ++ cs3.toList)) (k00 : cs0[0]? = some (.bool false)) (k01 : cs0[98]? = some (.bool true))
    (k10 : cs1[0]? = some (.bool true)) (k20 : cs2[0]? = some (.bool false)) (k21 : cs2[123]? = some (.bool true)) (k30 : cs3[0]? = some (.bool false)) (k31 : cs3[114]? = some (.bool true))
    (hD : W.heap[D]? = some (.deferred (some []))) (hb : Below w.heap.size w W) (hDw : w.heap.size ≤ D) :
    PartsC w (.returned (.tuple #[.slice (some ⟨g, 0, none⟩) 4 c, .bool true])) (W.putObj D (.deferred none)) := by
  have hne : g ≠ D := by
    rintro rfl
    rcases hown.2 with ⟨h, _⟩ | ⟨g', cap, cur, h, _, hg, _⟩
    · cases h
    · injection h with h1 h2 h3
      injection h1 with h1
      injection h1 with h1
      subst h1
      rw [hD] at hg
      cases hg
  have hg : g < W.heap.size := (hown.lt g rfl).2
  have hs : (W.putObj D (.deferred none)).heap.size = W.heap.size := by simp
  have hcell : ∀ j, j < 1028 → (W.putObj D (.deferred none)).cell? ⟨g, j, none⟩ = (cs0.toList ++ cs1.toList ++ cs2.toList ++ cs3.toList)[j]? := fun j hj => by
    rw [World.cell?_of_block (w := W) (World.putObj_heap_other hne)]
    exact hown.cellAt j hj
  have h4 := fun j => four_at (d := cs3.toList) (show cs0.toList.length = 257 by simpa using z0) (show cs1.toList.length = 257 by simpa using z1) (show cs2.toList.length = 257 by simpa using z2) j
  refine ⟨g, c, rfl, by rw [hs]; exact hg, hb.trans ((Below.refl _ W).grown (grownBy_putObj' W D _) hb.size (fun k e => by cases e; exact hDw)), ?_, ?_, ?_, ?_, ?_, ?_, ?_⟩
  · rw [hcell 0 (by omega), (h4 0).1 (by omega)]; simpa using k00
  · rw [hcell 257 (by omega), (h4 0).2.1 (by omega)]; simpa using k10
  · rw [hcell 514 (by omega), (h4 0).2.2.1 (by omega)]; simpa using k20
  · rw [hcell 771 (by omega), (h4 0).2.2.2]; simpa using k30
  · rw [hcell 98 (by omega), (h4 98).1 (by omega)]; simpa using k01
  · rw [hcell 637 (by omega), (h4 123).2.2.1 (by omega)]; simpa using k21
  · rw [hcell 885 (by omega), (h4 114).2.2.2]; simpa using k31
end Go.Proofs.Ytkohpijpipcajaa
