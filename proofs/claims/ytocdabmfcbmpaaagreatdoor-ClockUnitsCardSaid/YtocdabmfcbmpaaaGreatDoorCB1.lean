import Derived.Test.YtocdabmfcbmpaaaGreatDoorCA2
import Derived.Test.YtocdabmfcbmpaaaGreatDoorProg
import Derived.WalkKit
import Derived.ProofKit
import Derived.OpenShut
import Derived.Outline
import Derived.Lib.Hide
import Derived.IntWalk
import Derived.LoopN
import Derived.LoopTactic
import Derived.Laws.OwnMore
import Derived.Laws.AppendOwn
import Derived.Deep.QuietTactic
import Derived.BigQuiet
import Derived.RegionTactic
namespace Go.Proofs.YtocdabmfcbmpaaaGreatDoor
open Go.RowKit
set_option linter.unusedVariables false
set_option linter.unusedSimpArgs false

def inB (n lo hi : Int) : Bool := decide (lo ≤ n ∧ n ≤ hi)
def lpB (y : Int) : Bool := decide (y % 4 = 0 ∧ (y % 100 ≠ 0 ∨ y % 400 = 0))
theorem inB_yes {n lo hi : Int} (h1 : lo ≤ n) (h2 : n ≤ hi) : inB n lo hi = true := decide_eq_true ⟨h1, h2⟩
theorem inB_no {n lo hi : Int} (h : n < lo ∨ hi < n) : inB n lo hi = false := decide_eq_false (by omega)
theorem inB_iff {n lo hi : Int} : inB n lo hi = true ↔ lo ≤ n ∧ n ≤ hi := by unfold inB; exact decide_eq_true_iff
theorem lpB_yes {y : Int} (h : lpB y = true) : lpI y = 1 := by unfold lpB at h; unfold lpI; rw [if_pos (of_decide_eq_true h)]
theorem lpB_no {y : Int} (h : lpB y = false) : lpI y = 0 := by unfold lpB at h; unfold lpI; rw [if_neg (of_decide_eq_false h)]
abbrev I (n : Int) : Value := .int .i64 n
theorem ret_bool {a b : Bool} (h : a = b) : Ending.returned (.bool a) = .returned (.bool b) := by rw [h]
theorem ret_int {k : IntKind} {a b : Int} (h : a = b) : Ending.returned (.int k a) = .returned (.int k b) := by rw [h]

theorem in_any (n lo hi : Int) (w : World) : Calls Tryz.prog 29 #[I n, I lo, I hi] w fun e w' => e = .returned (.bool (inB n lo hi)) ∧ w = w' := by
  by_cases h1 : lo ≤ n
  · by_cases h2 : n ≤ hi
    · rw [inB_yes h1 h2]
      go_enter Tryz.func29, Tryz.ntmps29
      go_wp2
      go_ret
      exact ⟨rfl, rfl⟩
    · rw [inB_no (by omega)]
      have d : decide (n ≤ hi) = false := by simpa using h2
      go_enter Tryz.func29, Tryz.ntmps29
      go_wp2
      go_ret
      exact ⟨rfl, rfl⟩
  · rw [inB_no (by omega)]
    have d : decide (lo ≤ n) = false := by simpa using h1
    go_enter Tryz.func29, Tryz.ntmps29
    go_wp2
    go_ret
    exact ⟨rfl, rfl⟩
theorem isTime_any (n : Int) (w : World) : Calls Tryz.prog 25 #[I n] w fun e w' => e = .returned (.bool (inB n (-62135596800) 253402300799)) ∧ w = w' := by
  by_cases h1 : -62135596800 ≤ n
  · by_cases h2 : n ≤ 253402300799
    · rw [inB_yes h1 h2]
      go_enter Tryz.func25, Tryz.ntmps25
      go_wp2
      go_ret
      exact ⟨rfl, rfl⟩
    · rw [inB_no (by omega)]
      have d : decide (n ≤ 253402300799) = false := by simpa using h2
      go_enter Tryz.func25, Tryz.ntmps25
      go_wp2
      go_ret
      exact ⟨rfl, rfl⟩
  · rw [inB_no (by omega)]
    have d : decide (-62135596800 ≤ n) = false := by simpa using h1
    go_enter Tryz.func25, Tryz.ntmps25
    go_wp2
    go_ret
    exact ⟨rfl, rfl⟩
theorem isYear_any (n : Int) (w : World) : Calls Tryz.prog 57 #[I n] w fun e w' => e = .returned (.bool (inB n 1 9999)) ∧ w = w' := by
  by_cases h1 : 1 ≤ n
  · by_cases h2 : n ≤ 9999
    · rw [inB_yes h1 h2]
      go_enter Tryz.func57, Tryz.ntmps57
      go_wp2
      go_ret
      exact ⟨rfl, rfl⟩
    · rw [inB_no (by omega)]
      have d : decide (n ≤ 9999) = false := by simpa using h2
      go_enter Tryz.func57, Tryz.ntmps57
      go_wp2
      go_ret
      exact ⟨rfl, rfl⟩
  · rw [inB_no (by omega)]
    have d : decide (1 ≤ n) = false := by simpa using h1
    go_enter Tryz.func57, Tryz.ntmps57
    go_wp2
    go_ret
    exact ⟨rfl, rfl⟩
theorem small_any (n : Int) (w : World) : Calls Tryz.prog 138 #[I n] w fun e w' => e = .returned (.bool (inB n 0 99)) ∧ w = w' := by
  by_cases h1 : 0 ≤ n
  · by_cases h2 : n ≤ 99
    · rw [inB_yes h1 h2]
      go_enter Tryz.func138, Tryz.ntmps138
      go_wp2
      go_ret
      exact ⟨rfl, rfl⟩
    · rw [inB_no (by omega)]
      have d : decide (n ≤ 99) = false := by simpa using h2
      go_enter Tryz.func138, Tryz.ntmps138
      go_wp2
      go_ret
      exact ⟨rfl, rfl⟩
  · rw [inB_no (by omega)]
    have d : decide (0 ≤ n) = false := by simpa using h1
    go_enter Tryz.func138, Tryz.ntmps138
    go_wp2
    go_ret
    exact ⟨rfl, rfl⟩
theorem right_any (n : Int) (w : World) : Calls Tryz.prog 27 #[I n] w fun e w' => e = .returned (.bool (inB n (-62135596800) 253402300799)) ∧ w = w' := by
  go_enter Tryz.func27, Tryz.ntmps27
  go_wp2_with (go_at_call 29; refine (in_any _ _ _ _).mono ?_; rintro e w' ⟨rfl, rfl⟩)
  go_ret
  exact ⟨rfl, rfl⟩
theorem leap_any (y : Int) (w : World) (h0 : 0 ≤ y) (h1 : y ≤ 1000000) : Calls Tryz.prog 99 #[I y] w fun e w' => e = .returned (.bool (lpB y)) ∧ w = w' := by
  by_cases c1 : y % 4 = 0
  · by_cases c2 : y % 100 = 0
    · by_cases c3 : y % 400 = 0
      · rw [show lpB y = true by unfold lpB; exact decide_eq_true ⟨c1, Or.inr c3⟩]
        go_enter Tryz.func99, Tryz.ntmps99
        go_wp2
        go_ret
        exact ⟨rfl, rfl⟩
      · rw [show lpB y = false by unfold lpB; exact decide_eq_false (by omega)]
        go_enter Tryz.func99, Tryz.ntmps99
        go_wp2
        go_ret
        exact ⟨ret_bool (beq_eq_false_iff_ne.2 c3), rfl⟩
    · rw [show lpB y = true by unfold lpB; exact decide_eq_true ⟨c1, Or.inl c2⟩]
      go_enter Tryz.func99, Tryz.ntmps99
      go_wp2
      go_ret
      exact ⟨rfl, rfl⟩
  · rw [show lpB y = false by unfold lpB; exact decide_eq_false (by omega)]
    go_enter Tryz.func99, Tryz.ntmps99
    go_wp2
    go_ret
    exact ⟨rfl, rfl⟩
theorem ref_leap_any (y : Int) (w : World) (h0 : 0 ≤ y) (h1 : y ≤ 1000000) : Calls Tryz.prog 62 #[I y] w fun e w' => e = .returned (.bool (lpB y)) ∧ w = w' := by
  by_cases c1 : y % 4 = 0
  · by_cases c2 : y % 100 = 0
    · by_cases c3 : y % 400 = 0
      · rw [show lpB y = true by unfold lpB; exact decide_eq_true ⟨c1, Or.inr c3⟩]
        go_enter Tryz.func62, Tryz.ntmps62
        go_wp2
        go_ret
        exact ⟨rfl, rfl⟩
      · rw [show lpB y = false by unfold lpB; exact decide_eq_false (by omega)]
        go_enter Tryz.func62, Tryz.ntmps62
        go_wp2
        go_ret
        exact ⟨ret_bool (beq_eq_false_iff_ne.2 c3), rfl⟩
    · rw [show lpB y = true by unfold lpB; exact decide_eq_true ⟨c1, Or.inl c2⟩]
      go_enter Tryz.func62, Tryz.ntmps62
      go_wp2
      go_ret
      exact ⟨rfl, rfl⟩
  · have c3 : ¬ y % 400 = 0 := by omega
    rw [show lpB y = false by unfold lpB; exact decide_eq_false (by omega)]
    go_enter Tryz.func62, Tryz.ntmps62
    go_wp2
    go_ret
    exact ⟨ret_bool (beq_eq_false_iff_ne.2 c3), rfl⟩
theorem ml_2 {y : Int} : mlI y 2 = 28 + lpI y := by unfold mlI; rw [if_pos rfl]
theorem daysOf_any (y m : Int) (w : World) (h0 : 0 ≤ y) (h1 : y ≤ 1000000) : Calls Tryz.prog 60 #[I y, I m] w fun e w' => e = .returned (I (mlI y m)) ∧ w = w' := by
  by_cases c2 : m = 2
  · subst c2
    rw [ml_2]
    cases hl : lpB y
    · rw [lpB_no hl]
      have HL := Lib.hid hl
      clear hl
      go_enter Tryz.func60, Tryz.ntmps60
      go_wp2_with (go_at_call 99; refine (leap_any _ _ h0 h1).mono ?_; rintro e w' ⟨rfl, rfl⟩; rw [HL.out])
      go_ret
      exact ⟨rfl, rfl⟩
    · rw [lpB_yes hl]
      have HL := Lib.hid hl
      clear hl
      go_enter Tryz.func60, Tryz.ntmps60
      go_wp2_with (go_at_call 99; refine (leap_any _ _ h0 h1).mono ?_; rintro e w' ⟨rfl, rfl⟩; rw [HL.out])
      go_ret
      exact ⟨rfl, rfl⟩
  · by_cases c : m = 4 ∨ m = 6 ∨ m = 9 ∨ m = 11
    · rw [show mlI y m = 30 by unfold mlI; rw [if_neg c2, if_pos c]]
      rcases c with rfl | rfl | rfl | rfl
      all_goals
        clear c2
        go_enter Tryz.func60, Tryz.ntmps60
        go_wp2
        go_ret
        exact ⟨rfl, rfl⟩
    · rw [show mlI y m = 31 by unfold mlI; rw [if_neg c2, if_neg c]]
      have c4 : ¬ m = 4 := by omega
      have c6 : ¬ m = 6 := by omega
      have c9 : ¬ m = 9 := by omega
      have c11 : ¬ m = 11 := by omega
      clear c
      go_enter Tryz.func60, Tryz.ntmps60
      go_wp2
      go_ret
      exact ⟨rfl, rfl⟩
theorem length_any (y m : Int) (w : World) (h0 : 0 ≤ y) (h1 : y ≤ 1000000) : Calls Tryz.prog 31 #[I y, I m] w fun e w' => e = .returned (I (mlI y m)) ∧ w = w' := by
  by_cases c2 : m = 2
  · subst c2
    rw [ml_2]
    cases hl : lpB y
    · rw [lpB_no hl]
      have HL := Lib.hid hl
      clear hl
      go_enter Tryz.func31, Tryz.ntmps31
      go_wp2_with (go_at_call 62; refine (ref_leap_any _ _ h0 h1).mono ?_; rintro e w' ⟨rfl, rfl⟩; rw [HL.out])
      go_ret
      exact ⟨rfl, rfl⟩
    · rw [lpB_yes hl]
      have HL := Lib.hid hl
      clear hl
      go_enter Tryz.func31, Tryz.ntmps31
      go_wp2_with (go_at_call 62; refine (ref_leap_any _ _ h0 h1).mono ?_; rintro e w' ⟨rfl, rfl⟩; rw [HL.out])
      go_ret
      exact ⟨rfl, rfl⟩
  · by_cases c : m = 4 ∨ m = 6 ∨ m = 9 ∨ m = 11
    · rw [show mlI y m = 30 by unfold mlI; rw [if_neg c2, if_pos c]]
      rcases c with rfl | rfl | rfl | rfl
      all_goals
        clear c2
        go_enter Tryz.func31, Tryz.ntmps31
        go_wp2
        go_ret
        exact ⟨rfl, rfl⟩
    · rw [show mlI y m = 31 by unfold mlI; rw [if_neg c2, if_neg c]]
      have c4 : ¬ m = 4 := by omega
      have c6 : ¬ m = 6 := by omega
      have c9 : ¬ m = 9 := by omega
      have c11 : ¬ m = 11 := by omega
      clear c
      go_enter Tryz.func31, Tryz.ntmps31
      go_wp2
      go_ret
      exact ⟨rfl, rfl⟩
theorem whole_any (y : Int) (w : World) (h0 : 0 ≤ y) (h1 : y ≤ 1000000) : Calls Tryz.prog 61 #[I y] w fun e w' => e = .returned (I (whI y)) ∧ w = w' := by
  unfold whI
  cases hl : lpB y
  · rw [lpB_no hl]
    have HL := Lib.hid hl
    clear hl
    go_enter Tryz.func61, Tryz.ntmps61
    go_wp2_with (go_at_call 62; refine (ref_leap_any _ _ h0 h1).mono ?_; rintro e w' ⟨rfl, rfl⟩; rw [HL.out])
    go_ret
    exact ⟨rfl, rfl⟩
  · rw [lpB_yes hl]
    have HL := Lib.hid hl
    clear hl
    go_enter Tryz.func61, Tryz.ntmps61
    go_wp2_with (go_at_call 62; refine (ref_leap_any _ _ h0 h1).mono ?_; rintro e w' ⟨rfl, rfl⟩; rw [HL.out])
    go_ret
    exact ⟨rfl, rfl⟩
/-- Go's rounding down. -/
theorem floor_any (a b : Int) (w : World) (ha : -1000000000000000 ≤ a) (ha2 : a ≤ 1000000000000000) (hb : 1 ≤ b) (hb2 : b ≤ 1000000000) : Calls Tryz.prog 59 #[I a, I b] w fun e w' => e = .returned (I (a / b)) ∧ w = w' := by
  by_cases h0 : 0 ≤ a
  · by_cases h1 : a % b = 0
    · go_enter Tryz.func59, Tryz.ntmps59
      go_wp2
      go_ret
      exact ⟨rfl, rfl⟩
    · have d : decide (a < 0) = false := by simpa using h0
      go_enter Tryz.func59, Tryz.ntmps59
      go_wp2
      go_ret
      exact ⟨rfl, rfl⟩
  · obtain ⟨c, rfl⟩ : ∃ c : Int, a = -c := ⟨-a, by omega⟩
    have hc : 0 < c := by omega
    have q1 : (-c).tdiv b = -(c / b) := by rw [Int.neg_tdiv, Int.tdiv_eq_ediv_of_nonneg (by omega)]
    have q2 : (-c).tmod b = -(c % b) := by rw [Int.neg_tmod, Int.tmod_eq_emod_of_nonneg (by omega)]
    obtain ⟨q, HQ⟩ : ∃ q, Hid (c / b = q) := ⟨_, Lib.hid rfl⟩
    obtain ⟨r, HR⟩ : ∃ r, Hid (c % b = r) := ⟨_, Lib.hid rfl⟩
    have g1 : b * q + r = c := by have := Int.mul_ediv_add_emod c b; rw [HQ.out, HR.out] at this; exact this
    have g2 : 0 ≤ q := by rw [← HQ.out]; exact Int.ediv_nonneg (by omega) (by omega)
    have g3 : q ≤ 1000000000000000 := by rw [← HQ.out]; exact Int.le_trans (Int.ediv_le_self _ (by omega)) (by omega)
    have g4 : 0 ≤ r := by rw [← HR.out]; exact Int.emod_nonneg _ (by omega)
    have g5 : r < b := by rw [← HR.out]; exact Int.emod_lt_of_pos _ (by omega)
    rw [HQ.out] at q1
    rw [HR.out] at q2
    by_cases h1 : r = 0
    · have HE : Hid (-c / b = -q) := Lib.hid (by rw [← g1, h1, Int.add_zero, ← Int.mul_neg, Int.mul_ediv_cancel_left _ (by omega)])
      subst h1
      clear g1 HR
      go_enter Tryz.func59, Tryz.ntmps59
      go_wp2
      go_ret
      exact ⟨ret_int HE.out.symm, rfl⟩
    · have HE : Hid (-c / b = -q - 1) := Lib.hid (by
        rw [show -c = (b - r) + (-q - 1) * b by rw [← g1, Int.sub_mul, Int.neg_mul, Int.mul_comm q b]; omega, Int.add_mul_ediv_right _ _ (by omega), Int.ediv_eq_zero_of_lt (by omega) (by omega), Int.zero_add])
      have h2 : ¬ -r = 0 := by omega
      have h3 : (-r == 0) = false := beq_eq_false_iff_ne.2 h2
      have h4 : decide (-c < 0) = true := decide_eq_true (by omega)
      clear g1 HR
      go_enter Tryz.func59, Tryz.ntmps59
      go_wp2
      go_ret
      exact ⟨ret_int HE.out.symm, rfl⟩
end Go.Proofs.YtocdabmfcbmpaaaGreatDoor
