import Derived.Test.YtkpoegdcmnjedaaDoorMG3
namespace Go.Proofs.YtkpoegdcmnjedaaDoor
open Go.RowKit
set_option linter.unusedVariables false
set_option linter.unusedSimpArgs false

theorem within_any (x lo hi : Int) (w : World) : Calls Tryd.prog 147 #[.int .i64 x, .int .i64 lo, .int .i64 hi] w fun e w' => e = .returned (.bool (decide (lo ≤ x ∧ x ≤ hi))) ∧ w = w' := by
  by_cases h1 : lo ≤ x
  · by_cases h2 : x ≤ hi
    · rw [decide_eq_true (And.intro h1 h2)]
      go_enter Tryd.func147, Tryd.ntmps147
      go_wp2
      go_ret
      exact ⟨rfl, rfl⟩
    · have h2' : decide (x ≤ hi) = false := decide_eq_false h2
      rw [decide_eq_false (fun h : lo ≤ x ∧ x ≤ hi => h2 h.2)]
      clear h2
      go_enter Tryd.func147, Tryd.ntmps147
      go_wp2
      go_ret
      exact ⟨rfl, rfl⟩
  · have h1' : decide (lo ≤ x) = false := decide_eq_false h1
    rw [decide_eq_false (fun h : lo ≤ x ∧ x ≤ hi => h1 h.1)]
    clear h1
    go_enter Tryd.func147, Tryd.ntmps147
    go_wp2
    go_ret
    exact ⟨rfl, rfl⟩
def smN (c : Nat) : Nat := if 65 ≤ c ∧ c ≤ 90 then c + 32 else c
theorem within_nat (c : Nat) (lo hi : Nat) (w : World) : Calls Tryd.prog 147 #[.int .i64 (c : Int), .int .i64 (lo : Int), .int .i64 (hi : Int)] w fun e w' => e = .returned (.bool (decide (lo ≤ c ∧ c ≤ hi))) ∧ w = w' := by
  have h := within_any (c : Int) (lo : Int) (hi : Int) w
  have e : decide ((lo : Int) ≤ (c : Int) ∧ (c : Int) ≤ (hi : Int)) = decide (lo ≤ c ∧ c ≤ hi) := by
    by_cases hh : lo ≤ c ∧ c ≤ hi
    · rw [decide_eq_true hh]; exact decide_eq_true ⟨by omega, by omega⟩
    · rw [decide_eq_false hh]; exact decide_eq_false fun h => hh ⟨by omega, by omega⟩
  rwa [e] at h
theorem small_any (c : Nat) (w : World) (hc : c ≤ 255) : Calls Tryd.prog 148 #[.int .u8 c] w fun e w' => e = .returned (.int .u8 (smN c : Nat)) ∧ w = w' := by
  have HW : Hid (∀ w, Calls Tryd.prog 147 #[.int .i64 (c : Int), .int .i64 65, .int .i64 90] w fun e w' => e = .returned (.bool (decide (65 ≤ c ∧ c ≤ 90))) ∧ w = w') := Lib.hid fun w => within_nat c 65 90 w
  by_cases h : 65 ≤ c ∧ c ≤ 90
  · rw [decide_eq_true h] at HW
    have e : smN c = c + 32 := if_pos h
    rw [e]
    obtain ⟨h1, h2⟩ := h
    go_enter Tryd.func148, Tryd.ntmps148
    go_wp2_with (go_at_call 147; refine (HW.out _).mono ?_; rintro e w1 ⟨rfl, rfl⟩)
    go_ret
    exact ⟨by congr 1, rfl⟩
  · rw [decide_eq_false h] at HW
    have e : smN c = c := if_neg h
    rw [e]
    clear h
    go_enter Tryd.func148, Tryd.ntmps148
    go_wp2_with (go_at_call 147; refine (HW.out _).mono ?_; rintro e w1 ⟨rfl, rfl⟩)
    go_ret
    exact ⟨by congr 1, rfl⟩

/-- what Digit tells. -/
def rdg (c base : Nat) : Int := if dvN c < base then (dvN c : Int) else -1
theorem ref_digitB_any (c base : Nat) (w : World) (hc : c ≤ 255) (hb2 : 2 ≤ base) (hb : base ≤ 36) : Calls Tryd.prog 140 #[.int .u8 c, .int .i64 base] w fun e w' => e = .returned (.int .i64 (rdg c base)) ∧ w = w' := by
  have HW1 : Hid (∀ w, Calls Tryd.prog 147 #[.int .i64 (c : Int), .int .i64 48, .int .i64 57] w fun e w' => e = .returned (.bool (decide (48 ≤ c ∧ c ≤ 57))) ∧ w = w') := Lib.hid fun w => within_nat c 48 57 w
  have HS : Hid (∀ w, Calls Tryd.prog 148 #[.int .u8 c] w fun e w' => e = .returned (.int .u8 (smN c : Nat)) ∧ w = w') := Lib.hid fun w => small_any c w hc
  obtain ⟨k, hk⟩ : ∃ k, smN c = k := ⟨_, rfl⟩
  have hk255 : k ≤ 255 := by rw [← hk]; unfold smN; split <;> omega
  have HW2 : Hid (∀ w, Calls Tryd.prog 147 #[.int .i64 (k : Int), .int .i64 97, .int .i64 122] w fun e w' => e = .returned (.bool (decide (97 ≤ k ∧ k ≤ 122))) ∧ w = w') := Lib.hid fun w => within_nat k 97 122 w
  rw [hk] at HS
  obtain ⟨r, HR⟩ : ∃ r, Hid (rdg c base = r) := ⟨_, Lib.hid rfl⟩
  rw [HR.out]
  by_cases h1 : 48 ≤ c ∧ c ≤ 57
  · rw [decide_eq_true h1] at HW1
    have e : dvN c = c - 48 := if_pos h1
    have HE : Hid ((c : Int) - 48 = ((c - 48 : Nat) : Int)) := Lib.hid (by omega)
    by_cases hl : c - 48 < base
    · have hr : Hid (((c : Int) - 48) = r) := Lib.hid (by rw [← HR.out]; unfold rdg; rw [e, if_pos hl]; omega)
      obtain ⟨h2, h3⟩ := h1
      have hl2 : decide ((base : Int) ≤ (c : Int) - 48) = false := by rw [decide_eq_false_iff_not]; omega
      clear hk e hl
      go_enter Tryd.func140, Tryd.ntmps140
      go_wp2_with (go_at_call 147; refine (HW1.out _).mono ?_; rintro e w1 ⟨rfl, rfl⟩)
      go_ret
      exact ⟨by rw [← hr.out] <;> rfl, rfl⟩
    · have hr : Hid (-1 = r) := Lib.hid (by rw [← HR.out]; unfold rdg; rw [e, if_neg hl])
      obtain ⟨h2, h3⟩ := h1
      have hl2 : (base : Int) ≤ (c : Int) - 48 := by omega
      clear hk e hl
      go_enter Tryd.func140, Tryd.ntmps140
      go_wp2_with (go_at_call 147; refine (HW1.out _).mono ?_; rintro e w1 ⟨rfl, rfl⟩)
      go_ret
      exact ⟨by rw [← hr.out] <;> rfl, rfl⟩
  · rw [decide_eq_false h1] at HW1
    by_cases h2 : 97 ≤ k ∧ k ≤ 122
    · rw [decide_eq_true h2] at HW2
      have e : dvN c = k - 87 := by
        rw [← hk] at h2 ⊢
        unfold dvN smN at *
        rw [if_neg h1]
        split at h2
        · rename_i h3
          rw [if_neg (by omega), if_pos h3]; split <;> omega
        · rename_i h3
          rw [if_pos h2, if_neg h3]
      by_cases hl : k - 87 < base
      · have hr : Hid (((k : Int) - 97 + 10) = r) := Lib.hid (by rw [← HR.out]; unfold rdg; rw [e, if_pos hl]; omega)
        obtain ⟨h3, h4⟩ := h2
        have hl2 : decide ((base : Int) ≤ (k : Int) - 97 + 10) = false := by rw [decide_eq_false_iff_not]; omega
        clear hk e hl h1
        go_enter Tryd.func140, Tryd.ntmps140
        go_wp2_with (first | (go_at_call 147; (with_reducible refine (HW1.out _).mono ?_); rintro e w1 ⟨rfl, rfl⟩) | (go_at_call 147; (with_reducible refine (HW2.out _).mono ?_); rintro e w1 ⟨rfl, rfl⟩) | (go_at_call 148; refine (HS.out _).mono ?_; rintro e w1 ⟨rfl, rfl⟩))
        go_ret
        exact ⟨by rw [← hr.out] <;> rfl, rfl⟩
      · have hr : Hid (-1 = r) := Lib.hid (by rw [← HR.out]; unfold rdg; rw [e, if_neg hl])
        obtain ⟨h3, h4⟩ := h2
        have hl2 : (base : Int) ≤ (k : Int) - 97 + 10 := by omega
        clear hk e hl h1
        go_enter Tryd.func140, Tryd.ntmps140
        go_wp2_with (first | (go_at_call 147; (with_reducible refine (HW1.out _).mono ?_); rintro e w1 ⟨rfl, rfl⟩) | (go_at_call 147; (with_reducible refine (HW2.out _).mono ?_); rintro e w1 ⟨rfl, rfl⟩) | (go_at_call 148; refine (HS.out _).mono ?_; rintro e w1 ⟨rfl, rfl⟩))
        go_ret
        exact ⟨by rw [← hr.out] <;> rfl, rfl⟩
    · rw [decide_eq_false h2] at HW2
      have e : dvN c = 99 := by
        rw [← hk] at h2
        unfold dvN smN at *
        rw [if_neg h1]
        split at h2
        · rename_i h3
          omega
        · rename_i h3
          rw [if_neg h2, if_neg h3]
      have hr : Hid (-1 = r) := Lib.hid (by rw [← HR.out]; unfold rdg; rw [e, if_neg (by omega)])
      have hl2 : decide ((base : Int) ≤ -1) = false := by rw [decide_eq_false_iff_not]; omega
      clear hk e h1 h2
      go_enter Tryd.func140, Tryd.ntmps140
      go_wp2_with (first | (go_at_call 147; (with_reducible refine (HW1.out _).mono ?_); rintro e w1 ⟨rfl, rfl⟩) | (go_at_call 147; (with_reducible refine (HW2.out _).mono ?_); rintro e w1 ⟨rfl, rfl⟩) | (go_at_call 148; refine (HS.out _).mono ?_; rintro e w1 ⟨rfl, rfl⟩))
      go_ret
      exact ⟨by rw [← hr.out] <;> rfl, rfl⟩
theorem ref_Digit_any (c base : Nat) (w : World) (hc : c ≤ 255) (hb2 : 2 ≤ base) (hb : base ≤ 36) : Calls Tryd.prog 132 #[.int .u8 c, .int .i64 base] w fun e w' => e = .returned (.int .i64 (rdg c base)) ∧ w = w' := by
  go_enter Tryd.func132, Tryd.ntmps132
  go_wp2_with (go_at_call 140; refine (ref_digitB_any c base _ hc hb2 hb).mono ?_; rintro e w1 ⟨rfl, rfl⟩)
  go_ret
  exact ⟨rfl, rfl⟩
end Go.Proofs.YtkpoegdcmnjedaaDoor
