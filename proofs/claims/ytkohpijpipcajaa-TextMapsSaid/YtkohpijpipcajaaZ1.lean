import Derived.Test.YtkohpijpipcajaaY2
import Derived.Test.YtkohpijpipcajaaD1
namespace Go.Proofs.Ytkohpijpipcajaa
open Go.RowKit
set_option linter.unusedVariables false
set_option linter.unusedSimpArgs false

theorem ws_big (B b : Nat) (O t : ByteArray) (w : World) (h : Lib.IsBuilder 62 5 B b (Lib.byteCells O.data.toList) w) (hlen : O.size ≤ 70000) (ht : t.size ≤ 1000) (hBw : B ≤ w.heap.size) :
    Calls Try.prog 63 #[.pointer (some ⟨b, 0, none⟩), .string t] w fun e w' => e = .returned (.tuple #[.int .i64 t.size, .nilIface]) ∧ Hid (Lib.IsBuilder 62 5 B b (Lib.byteCells (O ++ t).data.toList) w') ∧ Hid (Below B w w') := by
  refine (writeString_any B b _ t w h (by rw [Lib.byteCells_length, size_list]; omega) hBw).mono ?_
  rintro e w' ⟨rfl, h1, h2⟩
  exact ⟨rfl, Or.inr (by rw [ByteArray.data_append, Array.toList_append, ← bytes_app]; exact h1), h2⟩
theorem byte_piece {s : ByteArray} {k : Nat} (hk : k < s.size) : (s.extract k (k + 1)).data.toList = [s[k]] := by
  have hl : k < s.data.toList.length := by rw [size_list]; exact hk
  rw [extract_list, show k + 1 - k = 1 by omega, List.drop_eq_getElem_cons hl]
  rfl
theorem wb_big (B b : Nat) (O s : ByteArray) (k : Nat) (hk : k < s.size) (w : World) (h : Lib.IsBuilder 62 5 B b (Lib.byteCells O.data.toList) w) (hlen : O.size ≤ 70000) (hBw : B ≤ w.heap.size) :
    Calls Try.prog 70 #[.pointer (some ⟨b, 0, none⟩), .int .u8 (byteN s k)] w fun e w' => e = .returned .nilIface ∧ Hid (Lib.IsBuilder 62 5 B b (Lib.byteCells (O ++ s.extract k (k + 1)).data.toList) w') ∧ Hid (Below B w w') := by
  refine (writeByte_any B b _ (byteN s k) w h (by rw [Lib.byteCells_length, size_list]; omega) hBw).mono ?_
  rintro e w' ⟨rfl, h1, h2⟩
  refine ⟨rfl, Or.inr ?_, h2⟩
  rw [ByteArray.data_append, Array.toList_append, byte_piece hk]
  have : ((byteN s k : Nat) : Int) = (s[k].toNat : Int) := by rw [byteN_int, byte_num s hk]
  rw [this] at h1
  simpa [Lib.byteCells] using h1
theorem len_big (B b : Nat) (O : ByteArray) (w : World) (h : Lib.IsBuilder 62 5 B b (Lib.byteCells O.data.toList) w) :
    Calls Try.prog 68 #[.pointer (some ⟨b, 0, none⟩)] w fun e w' => e = .returned (.int .i64 O.size) ∧ w = w' :=
  len_any B b _ w h O.size (by rw [Lib.byteCells_length, size_list])
theorem str_big (B b : Nat) (O : ByteArray) (w : World) (h : Lib.IsBuilder 62 5 B b (Lib.byteCells O.data.toList) w) (hBw : B ≤ w.heap.size) :
    Calls Try.prog 64 #[.pointer (some ⟨b, 0, none⟩)] w fun e w' => e = .returned (.string O) ∧ Hid (Below B w w') := by
  refine (Try.Builder_String_any B b O.data.toList w h hBw).mono ?_
  rintro e w' ⟨rfl, hb⟩
  exact ⟨by simp, hb⟩
/-- an index of the byte's slice is a pair's. -/
theorem row_pair {ps : List ByteArray} {f : Bool} {c m p : Nat} (hp : p < (rowsL ps f m c).length) : ∃ j, (rowsL ps f m c)[p] = 2 * j ∧ j < m ∧ 0 < (keyM ps j).size := by
  obtain ⟨j, e, h, h0, _⟩ := (rows_is ps f c m _).1 (List.getElem_mem hp)
  exact ⟨j, e, h, h0⟩
/-- the byte there, and the indexes of the pairs whose keys may begin so. -/
theorem row_facts (ps : List ByteArray) (f : Bool) (s : ByteArray) (m : Nat) {k : Nat} (hk : k < s.size) : ∃ (X : Nat) (l : List Nat), (s[k].toNat : Int) = (X : Int) ∧ X < 256 ∧ rowsL ps f m X = l ∧ byteN s k = X ∧
    ((∀ (q : Nat) (hq : q < l.length) j, l[q] = 2 * j → keyAt f s (keyM ps j) k = false) → ∀ j, j < m → keyAt f s (keyM ps j) k = false) ∧
    (∀ (p : Nat) (hp : p < l.length) j0, l[p] = 2 * j0 → (∀ (q : Nat) (hq : q < l.length), q < p → ∀ j, l[q] = 2 * j → keyAt f s (keyM ps j) k = false) → ∀ j, j < j0 → keyAt f s (keyM ps j) k = false) ∧
    (∀ (p : Nat) (hp : p < l.length), ∃ j, l[p] = 2 * j ∧ j < m ∧ 0 < (keyM ps j).size) := by
  refine ⟨byteN s k, _, by rw [byte_num s hk, byteN_int], byteN_lt s k, rfl, rfl, fun h => rows_none fun j hj => ?_, fun p hp j0 e h => rows_first hp e fun q hq j e => h q (by omega) hq j e, fun p hp => row_pair hp⟩
  obtain ⟨q, hq, e⟩ := List.mem_iff_getElem.1 hj
  exact h q hq j e
end Go.Proofs.Ytkohpijpipcajaa
