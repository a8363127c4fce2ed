import Derived.Test.YtkohpijpipcajaaR1
import Derived.Test.YtkohpijpipcajaaO3
namespace Go.Proofs.Ytkohpijpipcajaa
open Go.RowKit
set_option linter.unusedVariables false
set_option linter.unusedSimpArgs false

/-- what a byte is worth in a base of at most sixteen; -1 if it is no digit. -/
def dv (b c : Int) : Int :=
  let v := if 48 ≤ c ∧ c ≤ 57 then c - 48 else if 97 ≤ c ∧ c ≤ 102 then c - 87 else if 65 ≤ c ∧ c ≤ 70 then c - 55 else -1
  if v < b then v else -1

theorem ret_int {k : IntKind} {a b : Int} (h : a = b) : Ending.returned (.int k a) = .returned (.int k b) := by rw [h]

theorem hexValue_any (c : Int) (w : World) (h0 : 0 ≤ c) (h1 : c ≤ 255) : Calls Try.prog 85 #[.int .u8 c] w fun e w' => e = .returned (.int .i64 (dv 16 c)) ∧ w = w' := by
  rcases (show c < 48 ∨ (48 ≤ c ∧ c ≤ 57) ∨ (57 < c ∧ c < 65) ∨ (65 ≤ c ∧ c ≤ 70) ∨ (70 < c ∧ c ≤ 90) ∨ (90 < c ∧ c < 97) ∨ (97 ≤ c ∧ c ≤ 102) ∨ 102 < c by omega) with h | ⟨h, k⟩ | ⟨h, k⟩ | ⟨h, k⟩ | ⟨h, k⟩ | ⟨h, k⟩ | ⟨h, k⟩ | h
  all_goals
    obtain ⟨v, hv⟩ : ∃ v, dv 16 c = v := ⟨_, rfl⟩
    have HV := Lib.hid hv
    have HV2 : Hid (dv 16 c = if 48 ≤ c ∧ c ≤ 57 then c - 48 else if 97 ≤ c ∧ c ≤ 102 then c - 87 else if 65 ≤ c ∧ c ≤ 70 then c - 55 else -1) := Lib.hid (by
      simp only [dv]
      split <;> split <;> (try split) <;> omega)
    clear hv
    go_enter Try.func85, Try.ntmps85
    go_wp2
    go_ret
    refine ⟨ret_int ?_, rfl⟩
    rw [HV2.out]
    (repeat' split) <;> omega

theorem digit_16 (c : Int) (w : World) (h0 : 0 ≤ c) (h1 : c ≤ 255) : Calls Try.prog 56 #[.int .u8 c, .int .i64 16] w fun e w' => e = .returned (.int .i64 (dv 16 c)) ∧ w = w' := by
  rcases (show c < 48 ∨ (48 ≤ c ∧ c < 56) ∨ (56 ≤ c ∧ c ≤ 57) ∨ (57 < c ∧ c < 65) ∨ (65 ≤ c ∧ c ≤ 70) ∨ (70 < c ∧ c ≤ 90) ∨ (90 < c ∧ c < 97) ∨ (97 ≤ c ∧ c ≤ 102) ∨ (102 < c ∧ c ≤ 122) ∨ 122 < c by omega) with h | ⟨h, k⟩ | ⟨h, k⟩ | ⟨h, k⟩ | ⟨h, k⟩ | ⟨h, k⟩ | ⟨h, k⟩ | ⟨h, k⟩ | ⟨h, k⟩ | h
  all_goals
    have HV2 : Hid (dv 16 c = if (if 48 ≤ c ∧ c ≤ 57 then c - 48 else if 97 ≤ c ∧ c ≤ 102 then c - 87 else if 65 ≤ c ∧ c ≤ 70 then c - 55 else -1) < 16 then (if 48 ≤ c ∧ c ≤ 57 then c - 48 else if 97 ≤ c ∧ c ≤ 102 then c - 87 else if 65 ≤ c ∧ c ≤ 70 then c - 55 else -1) else -1) := Lib.hid rfl
    go_enter Try.func56, Try.ntmps56
    go_wp2
    go_ret
    refine ⟨ret_int ?_, rfl⟩
    rw [HV2.out]
    (repeat' split) <;> omega

theorem digit_8 (c : Int) (w : World) (h0 : 0 ≤ c) (h1 : c ≤ 255) : Calls Try.prog 56 #[.int .u8 c, .int .i64 8] w fun e w' => e = .returned (.int .i64 (dv 8 c)) ∧ w = w' := by
  rcases (show c < 48 ∨ (48 ≤ c ∧ c < 56) ∨ (56 ≤ c ∧ c ≤ 57) ∨ (57 < c ∧ c < 65) ∨ (65 ≤ c ∧ c ≤ 70) ∨ (70 < c ∧ c ≤ 90) ∨ (90 < c ∧ c < 97) ∨ (97 ≤ c ∧ c ≤ 102) ∨ (102 < c ∧ c ≤ 122) ∨ 122 < c by omega) with h | ⟨h, k⟩ | ⟨h, k⟩ | ⟨h, k⟩ | ⟨h, k⟩ | ⟨h, k⟩ | ⟨h, k⟩ | ⟨h, k⟩ | ⟨h, k⟩ | h
  all_goals
    have HV2 : Hid (dv 8 c = if (if 48 ≤ c ∧ c ≤ 57 then c - 48 else if 97 ≤ c ∧ c ≤ 102 then c - 87 else if 65 ≤ c ∧ c ≤ 70 then c - 55 else -1) < 8 then (if 48 ≤ c ∧ c ≤ 57 then c - 48 else if 97 ≤ c ∧ c ≤ 102 then c - 87 else if 65 ≤ c ∧ c ≤ 70 then c - 55 else -1) else -1) := Lib.hid rfl
    go_enter Try.func56, Try.ntmps56
    go_wp2
    go_ret
    refine ⟨ret_int ?_, rfl⟩
    rw [HV2.out]
    (repeat' split) <;> omega
end Go.Proofs.Ytkohpijpipcajaa
