import Derived.Test.YtkohpijpipcajaaRows
import Derived.WalkKit
import Derived.ProofKit
import Derived.OpenShut
import Derived.Outline
import Derived.Lib.Hide
import Derived.IntWalk
import Derived.LoopN
import Derived.RegionTactic
import Derived.Deep.QuietTactic
import Derived.BigQuiet
import Derived.BigRegion
import Derived.ChangeAlike
namespace Go.Proofs.Ytkohpijpipcajaa
open Go.RowKit
set_option linter.unusedVariables false
set_option linter.unusedSimpArgs false

def btw (c a b : Int) : Bool := decide (a ≤ c ∧ c ≤ b)
theorem between_any (c a b : Int) (w : World) :
    Calls Try.prog 93 #[.int .u8 c, .int .u8 a, .int .u8 b] w fun e w' => e = .returned (.bool (btw c a b)) ∧ w = w' := by
  unfold btw
  by_cases h1 : a ≤ c
  all_goals by_cases h2 : c ≤ b
  all_goals
    go_enter Try.func93, Try.ntmps93
    go_wp2
    go_ret
    exact ⟨by simp; omega, rfl⟩

def sml (c : Int) : Int := if 65 ≤ c ∧ c ≤ 90 then c + 32 else c
def grt (c : Int) : Int := if 97 ≤ c ∧ c ≤ 122 then c - 32 else c
theorem small_any (c : Int) (w : World) (h0 : 0 ≤ c) (h1 : c ≤ 255) :
    Calls Try.prog 58 #[.int .u8 c] w fun e w' => e = .returned (.int .u8 (sml c)) ∧ w = w' := by
  unfold sml
  rcases (show (c < 65) ∨ (65 ≤ c ∧ c ≤ 90) ∨ 90 < c by omega) with h2 | ⟨h2, h3⟩ | h2
  all_goals
    go_enter Try.func58, Try.ntmps58
    go_wp2
    go_ret
    exact ⟨rfl, rfl⟩
theorem great_any (c : Int) (w : World) (h0 : 0 ≤ c) (h1 : c ≤ 255) :
    Calls Try.prog 60 #[.int .u8 c] w fun e w' => e = .returned (.int .u8 (grt c)) ∧ w = w' := by
  unfold grt
  rcases (show (c < 97) ∨ (97 ≤ c ∧ c ≤ 122) ∨ 122 < c by omega) with h2 | ⟨h2, h3⟩ | h2
  all_goals
    go_enter Try.func60, Try.ntmps60
    go_wp2
    go_ret
    exact ⟨rfl, rfl⟩
theorem alike_no (a b : ByteArray) (w : World) :
    Calls Try.prog 69 #[.string a, .string b, .bool false] w fun e w' => e = .returned (.bool (a.toList == b.toList)) ∧ w = w' := by
  go_enter Try.func69, Try.ntmps69
  go_wp2
  go_ret
  exact ⟨by simp, rfl⟩


theorem digits_1 (w : World) :
    Calls Try.prog 77 #[.string ⟨#[49]⟩] w fun e w' => e = .returned (.tuple #[.int .i64 1, .int .i64 1]) ∧ w = w' := by
  go_enter Try.func77, Try.ntmps77
  go_wp2
  refine wp_loop_rounds 2 ?_
  rw [rounds_succ]
  go_wp2_with (go_at_call 93; refine (between_any _ _ _ _).mono ?_; rintro e w' ⟨rfl, rfl⟩)
  rw [rounds_succ]
  go_wp2_with (go_at_call 93; refine (between_any _ _ _ _).mono ?_; rintro e w' ⟨rfl, rfl⟩)
  go_ret2
  exact ⟨rfl, rfl⟩

theorem prefix_c (w : World) :
    Calls Try.prog 76 #[.string ⟨#[101, 110, 100, 45, 49]⟩, .string ⟨#[101, 110, 100]⟩] w fun e w' => e = .returned (.bool true) ∧ w = w' := by
  have e1 : ((⟨#[101, 110, 100, 45, 49]⟩ : ByteArray).extract 0 3).toList == [101, 110, 100] := by kernel_rfl
  go_enter Try.func76, Try.ntmps76
  go_wp2
  go_ret
  exact ⟨by simp [e1], rfl⟩
theorem place_c (w : World) :
    Calls Try.prog 47 #[.string ⟨#[101, 110, 100, 45, 49]⟩, .int .i64 5] w fun e w' => e = .returned (.tuple #[.int .i64 3, .int .i64 0]) ∧ ∃ n, w' = w.drewN n := by
  have e1 : (⟨#[101, 110, 100, 45, 49]⟩ : ByteArray).extract 3 5 = ⟨#[45, 49]⟩ := by kernel_rfl
  have e2 : (⟨#[45, 49]⟩ : ByteArray).extract 1 2 = ⟨#[49]⟩ := by kernel_rfl
  go_enter Try.func47, Try.ntmps47
  go_wp2_with (go_at_call 76; refine (prefix_c _).mono ?_; rintro e w' ⟨rfl, rfl⟩)
  go_quiet (fail)
  go_wp2_with (go_at_call 77; refine (digits_1 _).mono ?_; rintro e w' ⟨rfl, rfl⟩)
  go_ret2
  exact ⟨rfl, _, rfl⟩
end Go.Proofs.Ytkohpijpipcajaa
