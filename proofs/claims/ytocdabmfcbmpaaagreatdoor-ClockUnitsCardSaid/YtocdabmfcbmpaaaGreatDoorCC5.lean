import Derived.Test.YtocdabmfcbmpaaaGreatDoorCC4
import Derived.Laws.EntriesVeiled
namespace Go.Proofs.YtocdabmfcbmpaaaGreatDoor
open Go.RowKit
set_option linter.unusedVariables false
set_option linter.unusedSimpArgs false

def monthL : List ByteArray := [⟨#[74, 97, 110, 117, 97, 114, 121]⟩, ⟨#[70, 101, 98, 114, 117, 97, 114, 121]⟩, ⟨#[77, 97, 114, 99, 104]⟩, ⟨#[65, 112, 114, 105, 108]⟩, ⟨#[77, 97, 121]⟩, ⟨#[74, 117, 110, 101]⟩, ⟨#[74, 117, 108, 121]⟩, ⟨#[65, 117, 103, 117, 115, 116]⟩, ⟨#[83, 101, 112, 116, 101, 109, 98, 101, 114]⟩, ⟨#[79, 99, 116, 111, 98, 101, 114]⟩, ⟨#[78, 111, 118, 101, 109, 98, 101, 114]⟩, ⟨#[68, 101, 99, 101, 109, 98, 101, 114]⟩]
def dayL : List ByteArray := [⟨#[77, 111, 110, 100, 97, 121]⟩, ⟨#[84, 117, 101, 115, 100, 97, 121]⟩, ⟨#[87, 101, 100, 110, 101, 115, 100, 97, 121]⟩, ⟨#[84, 104, 117, 114, 115, 100, 97, 121]⟩, ⟨#[70, 114, 105, 100, 97, 121]⟩, ⟨#[83, 97, 116, 117, 114, 100, 97, 121]⟩, ⟨#[83, 117, 110, 100, 97, 121]⟩]
def strCells (l : List ByteArray) : Array Value := (l.map Value.string).toArray
theorem monthNames_any (w : World) : Calls Tryz.prog 86 #[] w fun e w' => e = .returned (.slice (some ⟨w.heap.size, 0, none⟩) 12 12) ∧ w' = w.alloc (.cells (strCells monthL) 9) := by
  go_enter Tryz.func86, Tryz.ntmps86
  go_wp2
  go_ret
  exact ⟨rfl, rfl⟩
theorem dayNames_any (w : World) : Calls Tryz.prog 88 #[] w fun e w' => e = .returned (.slice (some ⟨w.heap.size, 0, none⟩) 7 7) ∧ w' = w.alloc (.cells (strCells dayL) 9) := by
  go_enter Tryz.func88, Tryz.ntmps88
  go_wp2
  go_ret
  exact ⟨rfl, rfl⟩
def cut3 (s : ByteArray) : ByteArray := s.extract 0 3
/-- what stands in the row in the midst of the work. -/
def mid (l : List ByteArray) (k : Nat) : List ByteArray := (l.take k).map cut3 ++ l.drop k
theorem mid_length (l : List ByteArray) (k : Nat) (h : k ≤ l.length) : (mid l k).length = l.length := by
  unfold mid; simp; omega
theorem mid_at (l : List ByteArray) (k : Nat) (h : k < l.length) : (mid l k)[k]? = some l[k] := by
  unfold mid
  rw [List.getElem?_append_right (by simp; omega)]
  simp [List.length_take, Nat.min_eq_left (Nat.le_of_lt h)]
theorem mid_set (l : List ByteArray) (k : Nat) (h : k < l.length) : (mid l k).set k (cut3 l[k]) = mid l (k + 1) := by
  unfold mid
  rw [List.set_append_right _ _ (by simp; omega)]
  have e : k - ((l.take k).map cut3).length = 0 := by simp; omega
  have e2 : l.drop k = l[k] :: l.drop (k + 1) := List.drop_eq_getElem_cons h
  have e3 : l.take (k + 1) = l.take k ++ [l[k]] := List.take_succ_eq_append_getElem h
  rw [e, e3, e2, List.set_cons_zero, List.map_append, List.append_assoc]
  rfl
structure ShortI (b : Nat) (l : List ByteArray) (W wr : World) (k : Nat) : Prop where
  row : wr.heap[b]? = some (.cells (strCells (mid l k)) 9 (0, 0))
  bel : Below b W wr
  siz : wr.heap.size = W.heap.size
theorem strCells_at {l : List ByteArray} {k : Nat} {s : ByteArray} (h : l[k]? = some s) : (strCells l)[k]? = some (.string s) := by
  unfold strCells; simp [h]
theorem ShortI.cell {b : Nat} {l : List ByteArray} {W wr : World} {k : Nat} (h : ShortI b l W wr k) (hk : k < l.length) : wr.cell? ⟨b, k, none⟩ = some (.string l[k]) := by
  refine (cell_of_row _ _ _ _ _ _ h.row).trans ?_
  exact strCells_at (mid_at l k hk)
theorem ShortI.free {b : Nat} {l : List ByteArray} {W wr : World} {k : Nat} (h : ShortI b l W wr k) : wr.frozen? ⟨b, k, none⟩ = false := frozen_of_row _ _ _ _ _ h.row
theorem ShortI.next {b : Nat} {l : List ByteArray} {W wr : World} {k : Nat} (h : ShortI b l W wr k) (hk : k < l.length) : ShortI b l W (wr.setCell ⟨b, k, none⟩ (.string (cut3 l[k]))) (k + 1) := by
  refine ⟨?_, h.bel.setCell (Nat.le_refl _) _, by simp [h.siz]⟩
  rw [heap_setCell_same _ _ _ _ _ _ h.row]
  congr 2
  rw [← mid_set l k hk]
  unfold strCells
  simp
set_option maxHeartbeats 1000000 in
theorem short_any (b : Nat) (l : List ByteArray) (hl : ∀ k (h : k < l.length), 3 ≤ (l[k]).size) (hn : l.length ≤ 100) (w : World) (hw : w.heap[b]? = some (.cells (strCells l) 9 (0, 0))) :
    Calls Tryz.prog 87 #[.slice (some ⟨b, 0, none⟩) l.length l.length] w fun e w' => e = .returned (.slice (some ⟨b, 0, none⟩) l.length l.length) ∧ w'.heap[b]? = some (.cells (strCells (l.map cut3)) 9 (0, 0)) ∧ Below b w w' ∧ w'.heap.size = w.heap.size := by
  have HL := Lib.hid hl
  have HI : Hid (ShortI b l w w 0) := Lib.hid ⟨by simpa [mid] using hw, Below.refl _ _, rfl⟩
  clear hw hl
  go_enter Tryz.func87, Tryz.ntmps87
  go_wp2
  go_loopw [6] (fun i wr => ∃ k : Nat, i = .int .i64 k ∧ k ≤ l.length ∧ Hid (ShortI b l w wr k)) (fun i _ => l.length - (intOf i).toNat)
  case atStart => exact ⟨0, rfl, Nat.zero_le _, HI⟩
  case round =>
    obtain ⟨k, rfl, hk, hi⟩ := hrel
    by_cases hlt : k < l.length
    · have hc := hi.out.cell hlt
      have hf := hi.out.free
      have h3 := HL.out k hlt
      have HN := Lib.hid (hi.out.next hlt)
      go_wp2
      go_roundw
      case rel => exact ⟨k + 1, by go_num, by omega, HN⟩
      case measure => simp [intOf]; omega
    · obtain rfl : k = l.length := by omega
      go_wp2
      go_ret
      refine ⟨rfl, ?_, hi.out.bel, hi.out.siz⟩
      have := hi.out.row
      simpa [mid] using this
end Go.Proofs.YtocdabmfcbmpaaaGreatDoor
