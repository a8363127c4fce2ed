import Derived.Test.YtkohpijpipcajaaH1
namespace Go.Proofs.Ytkohpijpipcajaa
open Go.RowKit
set_option linter.unusedVariables false
set_option linter.unusedSimpArgs false

theorem empty_append (s : ByteArray) : (⟨#[]⟩ : ByteArray) ++ s = s := by
  apply ByteArray.ext
  simp

theorem replace_in (s t : ByteArray) (a b : Int) (f g : Nat) (w : World) (hs : s.size ≤ 400) (ht : t.size ≤ 400) (hm : max a 0 = f) (hn : min b (s.size - 1 : Int) = g) (hfg : f ≤ g) (hg : g < s.size) :
    Calls Try.prog 41 #[.string s, .int .i64 a, .int .i64 b, .string t] w fun e w' => e = .returned (.tuple #[.string (s.extract 0 f ++ t ++ s.extract (g + 1) s.size), .int .i64 0]) ∧ Below w.heap.size w w' := by
  go_enter Try.func41, Try.ntmps41
  go_wp2
  go_quiet (fail)
  go_wp2
  go_ret2
  exact ⟨rfl, rfl, rfl, rfl, Nat.le_refl _, fun _ _ => rfl⟩
theorem replace_out (s t : ByteArray) (a b : Int) (w : World) (hs : s.size ≤ 400) (ht : t.size ≤ 400) (hm : min b (s.size - 1 : Int) < max a 0) :
    Calls Try.prog 41 #[.string s, .int .i64 a, .int .i64 b, .string t] w fun e w' => e = .returned (.tuple #[.string s, .int .i64 0]) ∧ Below w.heap.size w w' := by
  have hle : s.size ≤ 65536 := by omega
  have he := Lib.hid (empty_append s)
  go_enter Try.func41, Try.ntmps41
  go_wp2
  go_quiet (fail)
  go_wp2
  go_ret2
  refine ⟨?_, rfl, rfl, rfl, Nat.le_refl _, fun _ _ => rfl⟩
  show Ending.returned (.tuple #[.string ((⟨#[]⟩ : ByteArray) ++ s), .int .i64 0]) = _
  rw [he.out]
theorem ref_replace_in (s t : ByteArray) (a b : Int) (f g : Nat) (w : World) (hs : s.size ≤ 400) (ht : t.size ≤ 400) (hm : max a 0 = f) (hn : min b (s.size - 1 : Int) = g) (hfg : f ≤ g) (hg : g < s.size) :
    Calls Try.prog 42 #[.string s, .int .i64 a, .int .i64 b, .string t] w fun e w' => e = .returned (.tuple #[.string (s.extract 0 f ++ t ++ s.extract (g + 1) s.size), .int .i64 0]) ∧ Below w.heap.size w w' := by
  have hz : (s.extract 0 f ++ t ++ s.extract (g + 1) s.size).size ≤ 65536 := by
    simp only [ByteArray.size_append, ByteArray.size_extract]
    omega
  go_enter Try.func42, Try.ntmps42
  go_wp2
  go_quiet ((go_at_call 66; exact Calls.quiet_of_same (long_ok _ _ hz)))
  go_wp2
  go_ret2
  exact ⟨rfl, rfl, rfl, rfl, Nat.le_refl _, fun _ _ => rfl⟩
theorem ref_replace_out (s t : ByteArray) (a b : Int) (w : World) (hs : s.size ≤ 400) (ht : t.size ≤ 400) (hm : min b (s.size - 1 : Int) < max a 0) :
    Calls Try.prog 42 #[.string s, .int .i64 a, .int .i64 b, .string t] w fun e w' => e = .returned (.tuple #[.string s, .int .i64 0]) ∧ Below w.heap.size w w' := by
  go_enter Try.func42, Try.ntmps42
  go_wp2_with (go_at_call 66; refine (long_ok _ _ (by omega)).mono ?_; rintro e w' ⟨rfl, rfl⟩)
  go_ret2
  exact ⟨rfl, Below.refl _ _⟩

/-- both Replaces tell the same text. -/
theorem replace_both (s t : ByteArray) (a b : Int) (hs : s.size ≤ 400) (ht : t.size ≤ 400) (h0 : -9223372036854775808 ≤ a) (h1 : a ≤ 9223372036854775807) (h2 : -9223372036854775808 ≤ b) (h3 : b ≤ 9223372036854775807) :
    ∃ r : ByteArray, (∀ w, Calls Try.prog 41 #[.string s, .int .i64 a, .int .i64 b, .string t] w fun e w' => e = .returned (.tuple #[.string r, .int .i64 0]) ∧ Below w.heap.size w w') ∧
      (∀ w, Calls Try.prog 42 #[.string s, .int .i64 a, .int .i64 b, .string t] w fun e w' => e = .returned (.tuple #[.string r, .int .i64 0]) ∧ Below w.heap.size w w') := by
  by_cases c : max a 0 ≤ min b (s.size - 1 : Int)
  · have hf : max a 0 = ((max a 0).toNat : Int) := by omega
    have hg : min b (s.size - 1 : Int) = ((min b (s.size - 1 : Int)).toNat : Int) := by omega
    exact ⟨_, fun w => replace_in s t a b _ _ w hs ht hf hg (by omega) (by omega), fun w => ref_replace_in s t a b _ _ w hs ht hf hg (by omega) (by omega)⟩
  · exact ⟨s, fun w => replace_out s t a b w hs ht (by omega), fun w => ref_replace_out s t a b w hs ht (by omega)⟩
end Go.Proofs.Ytkohpijpipcajaa
