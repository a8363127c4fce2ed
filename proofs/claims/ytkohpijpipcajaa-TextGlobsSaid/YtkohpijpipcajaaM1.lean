import Derived.Test.YtkohpijpipcajaaH1
import Derived.Lib.ConvBytes
namespace Go.Proofs.Ytkohpijpipcajaa
open Go.RowKit
set_option linter.unusedVariables false
set_option linter.unusedSimpArgs false

/-- a block of bytes that the call has made out of a text; it reads xs. -/
def BytesRow (b : Nat) (xs : List Int) (w : World) : Prop :=
  ∃ cs : Array Value, w.heap[b]? = some (.cells cs 5 (cs.size, cs.size + 1)) ∧ xs.length ≤ cs.size ∧ ∀ j, j < xs.length → cs[j]? = some (.int .u8 (xs.getD j 0))

def numsB (s : ByteArray) : List Int := s.data.toList.map fun b => (b.toNat : Int)
theorem numsB_length (s : ByteArray) : (numsB s).length = s.size := by unfold numsB; rw [List.length_map, Array.length_toList]; rfl
theorem numsB_str (s : ByteArray) : strOfNums (numsB s) = s := by
  unfold numsB
  rw [strOfNums_bytes]
theorem numsB_le (s : ByteArray) : ∀ x ∈ numsB s, 0 ≤ x ∧ x ≤ 255 := by
  intro x hx
  unfold numsB at hx
  obtain ⟨b, _, rfl⟩ := List.mem_map.1 hx
  have := b.toNat_lt
  omega

theorem BytesRow.cell {b : Nat} {xs : List Int} {w : World} (h : BytesRow b xs w) {j : Nat} (hj : j < xs.length) : w.cell? ⟨b, j, none⟩ = some (.int .u8 (xs.getD j 0)) := by
  obtain ⟨cs, h1, h2, h3⟩ := h
  rw [cell_of_row _ _ _ _ _ _ h1]; exact h3 j hj
theorem BytesRow.free {b : Nat} {xs : List Int} {w : World} (h : BytesRow b xs w) {j : Nat} (hj : j < xs.length) : w.frozen? ⟨b, j, none⟩ = false := by
  obtain ⟨cs, h1, h2, h3⟩ := h
  have : ¬ cs.size ≤ j := by omega
  simp [World.frozen?, h1, this]
theorem BytesRow.set {b : Nat} {xs : List Int} {w : World} (h : BytesRow b xs w) {j : Nat} (hj : j < xs.length) (x : Int) : BytesRow b (xs.set j x) (w.setCell ⟨b, j, none⟩ (.int .u8 x)) := by
  obtain ⟨cs, h1, h2, h3⟩ := h
  refine ⟨cs.setIfInBounds j (.int .u8 x), ?_, by simpa using h2, ?_⟩
  · rw [setCell_eq_setRow w b j cs 5 _ _ h1, setRow_heap w b cs _ 5 _ h1]; simp
  · intro k hk
    rw [List.length_set] at hk
    by_cases e : j = k
    · subst e
      rw [Array.getElem?_setIfInBounds_self_of_lt (by omega)]
      simp [List.getD, hj]
    · rw [Array.getElem?_setIfInBounds_ne e, h3 k hk]
      simp [List.getD, List.getElem?_set_ne e]
theorem BytesRow.drew {b : Nat} {xs : List Int} {w : World} (h : BytesRow b xs w) : BytesRow b xs w.drew := h
theorem BytesRow.lt {b : Nat} {xs : List Int} {w : World} (h : BytesRow b xs w) : b < w.heap.size := by
  obtain ⟨cs, h1, _⟩ := h; exact lt_of_block h1
theorem BytesRow.text {b : Nat} {xs : List Int} {w : World} (h : BytesRow b xs w) (cap : Nat) : (convert 54 9 (.slice (some ⟨b, 0, none⟩) xs.length cap)).run Try.prog w = .ok (.string (strOfNums xs)) w :=
  run_convert_bytes_arg (P := Try.prog) w 54 5 Try.underlying54 Try.underlying5 b 0 xs.length cap xs rfl (fun i hi => by rw [Nat.zero_add]; exact h.cell hi) 9 Try.underlying9

/-- the bytes of a text. -/
theorem to_bytes (w : World) (s : ByteArray) : ∃ cap W, (convert 9 54 (.string s)).run Try.prog w = .ok (.slice (some ⟨w.heap.size, 0, none⟩) s.size cap) W ∧ BytesRow w.heap.size (numsB s) W ∧ Below w.heap.size w W := by
  refine ⟨_, _, Lib.run_convert_string_bytes w 9 54 5 s Try.underlying9 Try.underlying54 Try.underlying5, ⟨_, Lib.bytesWorld_at_new w 5 s, ?_, ?_⟩, ⟨?_, ?_, ?_, by rw [Lib.bytesWorld_size]; omega, fun k hk => Lib.bytesWorld_at_old w 5 s k hk⟩⟩
  · rw [numsB_length]
    unfold Lib.bytesCells
    simp only [Array.size_append, Array.size_map]
    have : s.data.size = s.size := rfl
    omega
  · intro j hj
    rw [numsB_length] at hj
    have h1 := Lib.bytesWorld_cell w 5 s j hj
    rw [cell_of_row _ _ _ _ _ _ (Lib.bytesWorld_at_new w 5 s)] at h1
    rw [h1]
    have hj' : j < s.data.toList.length := by rw [Array.length_toList]; exact hj
    simp [numsB, List.getElem?_eq_getElem hj', List.getD]
  · simp [Lib.bytesWorld, World.freeze]; rfl
  · simp [Lib.bytesWorld, World.freeze]
  · simp [Lib.bytesWorld, World.freeze]; rfl
end Go.Proofs.Ytkohpijpipcajaa
