import Derived.Test.YtkohpijpipcajaaY1
namespace Go.Proofs.Ytkohpijpipcajaa
open Go.RowKit
set_option linter.unusedVariables false
set_option linter.unusedSimpArgs false

/-- what a cell of the row of slices reads, and what the slice holds. -/
def SliceAt (l : List Nat) (p : Addr) (W : World) : Prop :=
  ∃ bo cap, W.cell? p = some (.slice bo l.length cap) ∧ ∀ q (hq : q < l.length), ∃ k, bo = some ⟨k, 0, none⟩ ∧ W.cell? ⟨k, q, none⟩ = some (.int .i64 (l[q] : Nat))
theorem SliceAt.later {l : List Nat} {p : Addr} {W W' : World} (h : SliceAt l p W) (hb : Below W.heap.size W W') : SliceAt l p W' := by
  obtain ⟨bo, cap, h1, h2⟩ := h
  refine ⟨bo, cap, cell_later hb h1, fun q hq => ?_⟩
  obtain ⟨k, e, hc⟩ := h2 q hq
  exact ⟨k, e, cell_later hb hc⟩
theorem slice_of_owned {l : List Nat} {v : Value} {w : World} {B : Nat} (h : w.ownsRow B 3 1 v l.length (idxCells l)) :
    ∃ bo cap, v = .slice bo l.length cap ∧ ∀ q (hq : q < l.length), ∃ k, bo = some ⟨k, 0, none⟩ ∧ w.cell? ⟨k, q, none⟩ = some (.int .i64 (l[q] : Nat)) := by
  rcases h.2 with ⟨e, e0⟩ | ⟨k, cap, cur, e, _⟩
  · exact ⟨none, 0, by rw [e, e0], fun q hq => by omega⟩
  · refine ⟨some ⟨k, 0, none⟩, cap, e, fun q hq => ⟨k, rfl, ?_⟩⟩
    have := h.cells (g := k) (by rw [e]; rfl) q (.int .i64 (l[q] : Nat)) (by simp [idxCells, List.getElem?_eq_getElem hq])
    cases q with
    | zero => simpa [Addr.add] using this
    | succ q => simpa [Addr.add] using this
end Go.Proofs.Ytkohpijpipcajaa
