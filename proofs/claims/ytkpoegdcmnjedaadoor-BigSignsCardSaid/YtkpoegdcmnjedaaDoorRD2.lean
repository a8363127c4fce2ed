import Derived.Test.YtkpoegdcmnjedaaDoorMG3
namespace Go.Proofs.YtkpoegdcmnjedaaDoor
open Go.RowKit
set_option linter.unusedVariables false
set_option linter.unusedSimpArgs false

theorem within_any (x lo hi : Int) (w : World) : Calls Tryd.prog 147 #[.int .i64 x, .int .i64 lo, .int .i64 hi] w fun e w' => e = .returned (.bool (decide (lo ≤ x ∧ x ≤ hi))) ∧ w = w' := by
  by_cases h1 : lo ≤ x
  · by_cases h2 : x ≤ hi
    · rw [decide_eq_true (And.intro h1 h2)]
      go_enter Tryd.func147, Tryd.ntmps147
      go_wp2
      go_ret
      exact ⟨rfl, rfl⟩
    · have h2' : decide (x ≤ hi) = false := decide_eq_false h2
      rw [decide_eq_false (fun h : lo ≤ x ∧ x ≤ hi => h2 h.2)]
      clear h2
      go_enter Tryd.func147, Tryd.ntmps147
      go_wp2
      go_ret
      exact ⟨rfl, rfl⟩
  · have h1' : decide (lo ≤ x) = false := decide_eq_false h1
    rw [decide_eq_false (fun h : lo ≤ x ∧ x ≤ hi => h1 h.1)]
    clear h1
    go_enter Tryd.func147, Tryd.ntmps147
    go_wp2
    go_ret
    exact ⟨rfl, rfl⟩
def smN (c : Nat) : Nat := if 65 ≤ c ∧ c ≤ 90 then c + 32 else c
theorem within_nat (c : Nat) (lo hi : Nat) (w : World) : Calls Tryd.prog 147 #[.int .i64 (c : Int), .int .i64 (lo : Int), .int .i64 (hi : Int)] w fun e w' => e = .returned (.bool (decide (lo ≤ c ∧ c ≤ hi))) ∧ w = w' := by
  have h := within_any (c : Int) (lo : Int) (hi : Int) w
  have e : decide ((lo : Int) ≤ (c : Int) ∧ (c : Int) ≤ (hi : Int)) = decide (lo ≤ c ∧ c ≤ hi) := by
    by_cases hh : lo ≤ c ∧ c ≤ hi
    · rw [decide_eq_true hh]; exact decide_eq_true ⟨by omega, by omega⟩
    · rw [decide_eq_false hh]; exact decide_eq_false fun h => hh ⟨by omega, by omega⟩
  rwa [e] at h
theorem small_any (c : Nat) (w : World) (hc : c ≤ 255) : Calls Tryd.prog 148 #[.int .u8 c] w fun e w' => e = .returned (.int .u8 (smN c : Nat)) ∧ w = w' := by
  have HW : Hid (∀ w, Calls Tryd.prog 147 #[.int .i64 (c : Int), .int .i64 65, .int .i64 90] w fun e w' => e = .returned (.bool (decide (65 ≤ c ∧ c ≤ 90))) ∧ w = w') := Lib.hid fun w => within_nat c 65 90 w
  by_cases h : 65 ≤ c ∧ c ≤ 90
  · rw [decide_eq_true h] at HW
    have e : smN c = c + 32 := if_pos h
    rw [e]
    obtain ⟨h1, h2⟩ := h
    go_enter Tryd.func148, Tryd.ntmps148
    go_wp2_with (go_at_call 147; refine (HW.out _).mono ?_; rintro e w1 ⟨rfl, rfl⟩)
    go_ret
    exact ⟨by congr 1, rfl⟩
  · rw [decide_eq_false h] at HW
    have e : smN c = c := if_neg h
    rw [e]
    clear h
    go_enter Tryd.func148, Tryd.ntmps148
    go_wp2_with (go_at_call 147; refine (HW.out _).mono ?_; rintro e w1 ⟨rfl, rfl⟩)
    go_ret
    exact ⟨by congr 1, rfl⟩

/-- what Digit tells. -/
def rdg (c base : Nat) : Int := if dvN c < base then (dvN c : Int) else -1
theorem ref_digitB_any (c base : Nat) (w : World) (hc : c ≤ 255) (hb2 : 2 ≤ base) (hb : base ≤ 36) : Calls Tryd.prog 140 #[.int .u8 c, .int .i64 base] w fun e w' => e = .returned (.int .i64 (rdg c base)) ∧ w = w' := by
  have HW1 : Hid (∀ w, Calls Tryd.prog 147 #[.int .i64 (c : Int), .int .i64 48, .int .i64 57] w fun e w' => e = .returned (.bool (decide (48 ≤ c ∧ c ≤ 57))) ∧ w = w') := Lib.hid fun w => within_nat c 48 57 w
  have HS : Hid (∀ w, Calls Tryd.prog 148 #[.int .u8 c] w fun e w' => e = .returned (.int .u8 (smN c : Nat)) ∧ w = w') := Lib.hid fun w => small_any c w hc
  obtain ⟨k, hk⟩ : ∃ k, smN c = k := ⟨_, rfl⟩
  have hk255 : k ≤ 255 := by rw [← hk]; unfold smN; split <;> omega
  have HW2 : Hid (∀ w, Calls Tryd.prog 147 #[.int .i64 (k : Int), .int .i64 97, .int .i64 122] w fun e w' => e = .returned (.bool (decide (97 ≤ k ∧ k ≤ 122))) ∧ w = w') := Lib.hid fun w => within_nat k 97 122 w
  rw [hk] at HS
  obtain ⟨r, HR⟩ : ∃ r, Hid (rdg c base = r) := ⟨_, Lib.hid rfl⟩
  rw [HR.out]
  by_cases h1 : 48 ≤ c ∧ c ≤ 57
  · rw [decide_eq_true h1] at HW1
    have e : dvN c = c - 48 := if_pos h1
    have HE : Hid ((c : Int) - 48 = ((c - 48 : Nat) : Int)) := Lib.hid (by omega)
    by_cases hl : c - 48 < base
    · have hr : Hid (((c : Int) - 48) = r) := Lib.hid (by rw [← HR.out]; unfold rdg; rw [e, if_pos hl]; omega)
      obtain ⟨h2, h3⟩ := h1
      have hl2 : decide ((base : Int) ≤ (c : Int) - 48) = false := by rw [decide_eq_false_iff_not]; omega
      clear hk e hl
      go_enter Tryd.func140, Tryd.ntmps140
      go_wp2_with (go_at_call 147; refine (HW1.out _).mono ?_; rintro e w1 ⟨rfl, rfl⟩)
      go_ret
      exact ⟨by rw [← hr.out] <;> rfl, rfl⟩
    · have hr : Hid (-1 = r) := Lib.hid (by rw [← HR.out]; unfold rdg; rw [e, if_neg hl])
      obtain ⟨h2, h3⟩ := h1
      have hl2 : (base : Int) ≤ (c : Int) - 48 := by omega
      clear hk e hl
      go_enter Tryd.func140, Tryd.ntmps140
      go_wp2_with (go_at_call 147; refine (HW1.out _).mono ?_; rintro e w1 ⟨rfl, rfl⟩)
      go_ret
      exact ⟨by rw [← hr.out] <;> rfl, rfl⟩
  · rw [decide_eq_false h1] at HW1
    by_cases h2 : 97 ≤ k ∧ k ≤ 122
    · rw [decide_eq_true h2] at HW2
      have e : dvN c = k - 87 := by
        rw [← hk] at h2 ⊢
        unfold dvN smN at *
        rw [if_neg h1]
        split at h2
        · rename_i h3
          rw [if_neg (by omega), if_pos h3]; split <;> omega
        · rename_i h3
          rw [if_pos h2, if_neg h3]
      by_cases hl : k - 87 < base
      · have hr : Hid (((k : Int) - 97 + 10) = r) := Lib.hid (by rw [← HR.out]; unfold rdg; rw [e, if_pos hl]; omega)
        obtain ⟨h3, h4⟩ := h2
        have hl2 : decide ((base : Int) ≤ (k : Int) - 97 + 10) = false := by rw [decide_eq_false_iff_not]; omega
        clear hk e hl h1
        go_enter Tryd.func140, Tryd.ntmps140
        go_wp2_with (first | (go_at_call 147; (with_reducible refine (HW1.out _).mono ?_); rintro e w1 ⟨rfl, rfl⟩) | (go_at_call 147; (with_reducible refine (HW2.out _).mono ?_); rintro e w1 ⟨rfl, rfl⟩) | (go_at_call 148; refine (HS.out _).mono ?_; rintro e w1 ⟨rfl, rfl⟩))
        go_ret
        exact ⟨by rw [← hr.out] <;> rfl, rfl⟩
      · have hr : Hid (-1 = r) := Lib.hid (by rw [← HR.out]; unfold rdg; rw [e, if_neg hl])
        obtain ⟨h3, h4⟩ := h2
        have hl2 : (base : Int) ≤ (k : Int) - 97 + 10 := by omega
        clear hk e hl h1
        go_enter Tryd.func140, Tryd.ntmps140
        go_wp2_with (first | (go_at_call 147; (with_reducible refine (HW1.out _).mono ?_); rintro e w1 ⟨rfl, rfl⟩) | (go_at_call 147; (with_reducible refine (HW2.out _).mono ?_); rintro e w1 ⟨rfl, rfl⟩) | (go_at_call 148; refine (HS.out _).mono ?_; rintro e w1 ⟨rfl, rfl⟩))
        go_ret
        exact ⟨by rw [← hr.out] <;> rfl, rfl⟩
    · rw [decide_eq_false h2] at HW2
      have e : dvN c = 99 := by
        rw [← hk] at h2
        unfold dvN smN at *
        rw [if_neg h1]
        split at h2
        · rename_i h3
          omega
        · rename_i h3
          rw [if_neg h2, if_neg h3]
      have hr : Hid (-1 = r) := Lib.hid (by rw [← HR.out]; unfold rdg; rw [e, if_neg (by omega)])
      have hl2 : decide ((base : Int) ≤ -1) = false := by rw [decide_eq_false_iff_not]; omega
      clear hk e h1 h2
      go_enter Tryd.func140, Tryd.ntmps140
      go_wp2_with (first | (go_at_call 147; (with_reducible refine (HW1.out _).mono ?_); rintro e w1 ⟨rfl, rfl⟩) | (go_at_call 147; (with_reducible refine (HW2.out _).mono ?_); rintro e w1 ⟨rfl, rfl⟩) | (go_at_call 148; refine (HS.out _).mono ?_; rintro e w1 ⟨rfl, rfl⟩))
      go_ret
      exact ⟨by rw [← hr.out] <;> rfl, rfl⟩
theorem ref_Digit_any (c base : Nat) (w : World) (hc : c ≤ 255) (hb2 : 2 ≤ base) (hb : base ≤ 36) : Calls Tryd.prog 132 #[.int .u8 c, .int .i64 base] w fun e w' => e = .returned (.int .i64 (rdg c base)) ∧ w = w' := by
  go_enter Tryd.func132, Tryd.ntmps132
  go_wp2_with (go_at_call 140; refine (ref_digitB_any c base _ hc hb2 hb).mono ?_; rintro e w1 ⟨rfl, rfl⟩)
  go_ret
  exact ⟨rfl, rfl⟩
end Go.Proofs.YtkpoegdcmnjedaaDoor
namespace Go.Proofs.YtkpoegdcmnjedaaDoor
open Go.RowKit
set_option linter.unusedVariables false
set_option linter.unusedSimpArgs false

def hasS (s : ByteArray) (c : Nat) : Bool := (List.range s.size).any fun i => byteN s i == c
theorem hasS_no {s : ByteArray} {c : Nat} (h : ∀ j, j < s.size → byteN s j ≠ c) : hasS s c = false := by
  unfold hasS
  rw [List.any_eq_false]
  intro i hi
  have := h i (List.mem_range.1 hi)
  simpa using this
theorem hasS_yes {s : ByteArray} {c i : Nat} (hi : i < s.size) (h : byteN s i = c) : hasS s c = true := by
  unfold hasS
  rw [List.any_eq_true]
  exact ⟨i, List.mem_range.2 hi, by simpa using h⟩
set_option maxHeartbeats 400000 in
theorem has_any (s : ByteArray) (c : Nat) (w : World) (hs : s.size ≤ 2000000) (hc : c ≤ 255) : Calls Tryd.prog 141 #[.string s, .int .u8 c] w fun e w' => e = .returned (.bool (hasS s c)) ∧ w = w' := by
  obtain ⟨r, HR⟩ : ∃ r, Hid (hasS s c = r) := ⟨_, Lib.hid rfl⟩
  rw [HR.out]
  go_enter Tryd.func141, Tryd.ntmps141
  go_wp2
  go_loop [8] (fun iv => ∃ k : Nat, k ≤ s.size ∧ iv = .int .i64 k ∧ Hid (∀ j, j < k → byteN s j ≠ c)) (fun iv => s.size - (intOf iv).toNat)
  case atStart => exact ⟨0, Nat.zero_le _, rfl, Lib.hid fun j hj => absurd hj (Nat.not_lt_zero _)⟩
  case round =>
    obtain ⟨k, hk, rfl, hz⟩ := hrel
    by_cases hlt : k < s.size
    · have hbt := byte_at s hlt
      obtain ⟨d, HD⟩ : ∃ d, Hid (byteN s k = d) := ⟨_, Lib.hid rfl⟩
      rw [HD.out] at hbt
      by_cases he : d = c
      · have hr : Hid (true = r) := Lib.hid (by rw [← HR.out, hasS_yes hlt (HD.out.trans he)])
        subst he
        go_wp2
        go_ret
        exact ⟨by rw [← hr.out] <;> rfl, rfl⟩
      · have hne : ((d : Int) == (c : Int)) = false := by rw [beq_eq_false_iff_ne]; omega
        have HZ : Hid (∀ j, j < k + 1 → byteN s j ≠ c) := Lib.hid fun j hj => by
          by_cases e : j = k
          · rw [e, HD.out]; exact he
          · exact hz.out j (by omega)
        go_wp2
        go_round
        case rel => exact ⟨k + 1, by omega, by go_num, HZ⟩
        case measure => simp [intOf] <;> omega
    · obtain rfl : k = s.size := by omega
      have hr : Hid (false = r) := Lib.hid (by rw [← HR.out, hasS_no hz.out])
      go_wp2
      go_ret
      exact ⟨by rw [← hr.out] <;> rfl, rfl⟩
/-- the blanks. -/
abbrev blanks : ByteArray := ⟨#[9, 10, 11, 12, 13, 32]⟩
theorem hasS_blanks {c : Nat} (hc : c ≤ 255) : hasS blanks c = whB c := by
  have : ∀ c : Fin 256, hasS blanks c.val = whB c.val := by decide +kernel
  exact this ⟨c, by omega⟩
theorem has_blanks (c : Nat) (w : World) (hc : c ≤ 255) : Calls Tryd.prog 141 #[.string blanks, .int .u8 c] w fun e w' => e = .returned (.bool (whB c)) ∧ w = w' := by
  rw [← hasS_blanks hc]
  exact has_any blanks c w (by decide) hc

set_option maxRecDepth 100000 in
set_option maxHeartbeats 2000000 in
theorem trim_any (s : ByteArray) (W : World) (hs : s.size ≤ 2000000) :
    Calls Tryd.prog 133 #[.string s, .string blanks, .bool true, .bool true] W fun e w' => e = .returned (.string (ptext s)) ∧ W = w' := by
  have HWH : Hid (∀ (c : Nat), c ≤ 255 → ∀ w, Calls Tryd.prog 141 #[.string blanks, .int .u8 (c : Nat)] w fun e w' => e = .returned (.bool (whB c)) ∧ w = w') := Lib.hid fun c hc w => has_blanks c w hc
  obtain ⟨bl, HBL⟩ : ∃ b, Hid (blanks = b) := ⟨_, Lib.hid rfl⟩
  rw [HBL.out] at HWH ⊢
  obtain ⟨p, HP⟩ : ∃ p, Hid (ptext s = p) := ⟨_, Lib.hid rfl⟩
  rw [HP.out]
  go_enter Tryd.func133, Tryd.ntmps133
  go_upto_block 0 with (fail)
  go_cut [0] from 9 to 21 (fun sv wx => ∃ t : ByteArray, sv = .string t ∧ t.size ≤ s.size ∧ Hid (t = cutL s) ∧ wx = W)
  case first =>
    go_wp2
    go_loopw [0] (fun sv wr => ∃ (t : ByteArray), sv = .string t ∧ t.size ≤ s.size ∧ Hid (cutL t = cutL s) ∧ wr = W) (fun sv _ => match sv with | .string t => t.size | _ => 0)
    case atStart => exact ⟨s, rfl, Nat.le_refl _, Lib.hid rfl, rfl⟩
    case round =>
      obtain ⟨t, rfl, hlt, hct, rfl⟩ := hrel
      by_cases h0 : t.size = 0
      · have he3 : t.toList = [] := list_empty h0
        have he2 : t.toList.isEmpty = true := by rw [he3]; rfl
        have hct2 : Hid (t = cutL s) := Lib.hid ((cutL_no (Or.inl h0)).symm.trans hct.out)
        go_wp2_with fail
        go_meet
        exact ⟨t, rfl, hlt, hct2, rfl⟩
      · have hne : t.toList.isEmpty = false := list_full h0
        have hne2 : ¬ t.toList = [] := list_full2 h0
        have hbt := byte_at t (i := 0) (by omega)
        obtain ⟨wb, HWB⟩ : ∃ b, Hid (whB (byteN t 0) = b) := ⟨_, Lib.hid rfl⟩
        have HC : Hid (∀ w, Calls Tryd.prog 141 #[.string bl, .int .u8 (byteN t 0 : Nat)] w fun e w' => e = .returned (.bool wb) ∧ w = w') := Lib.hid (by rw [← HWB.out]; exact HWH.out _ (byteN_le t 0))
        cases wb
        · have hct2 : Hid (t = cutL s) := Lib.hid ((cutL_no (Or.inr HWB.out)).symm.trans hct.out)
          go_wp2_with (go_at_call 141; refine (HC.out _).mono ?_; rintro e w' ⟨rfl, rfl⟩)
          go_meet
          exact ⟨t, rfl, hlt, hct2, rfl⟩
        · have hct2 : Hid (cutL (t.extract 1 t.size) = cutL s) := Lib.hid ((cutL_yes (by omega) HWB.out).trans hct.out)
          go_wp2_with (go_at_call 141; refine (HC.out _).mono ?_; rintro e w' ⟨rfl, rfl⟩)
          exact ⟨⟨_, rfl, by rw [ByteArray.size_extract]; omega, hct2, trivial⟩, by simp [ByteArray.size_extract]; omega⟩
  case rest =>
    obtain ⟨t1, rfl, ht1, HT1, rfl⟩ := hcut
    go_wp2
    go_loopw [0] (fun sv wr => ∃ (t : ByteArray), sv = .string t ∧ t.size ≤ s.size ∧ Hid (cutR t = cutR (cutL s)) ∧ wr = wc) (fun sv _ => match sv with | .string t => t.size | _ => 0)
    case atStart => exact ⟨t1, rfl, ht1, Lib.hid (by rw [HT1.out]), rfl⟩
    case round =>
      obtain ⟨t, rfl, hlt, hct, rfl⟩ := hrel
      by_cases h0 : t.size = 0
      · have he3 : t.toList = [] := list_empty h0
        have he2 : t.toList.isEmpty = true := by rw [he3]; rfl
        have hct2 : Hid (t = p) := Lib.hid (((cutR_no (Or.inl h0)).symm.trans hct.out).trans HP.out)
        go_wp2_with fail
        go_ret
        exact ⟨by rw [← hct2.out] <;> rfl, rfl⟩
      · have hne : t.toList.isEmpty = false := list_full h0
        have hne2 : ¬ t.toList = [] := list_full2 h0
        have hbt := byte_at t (i := t.size - 1) (by omega)
        have hi1 : ((t.size : Int) - 1).toNat = t.size - 1 := by omega
        have hi2 : (t.size : Int) - 1 = ((t.size - 1 : Nat) : Int) := by omega
        obtain ⟨wb, HWB⟩ : ∃ b, Hid (whB (byteN t (t.size - 1)) = b) := ⟨_, Lib.hid rfl⟩
        have HC : Hid (∀ w, Calls Tryd.prog 141 #[.string bl, .int .u8 (byteN t (t.size - 1) : Nat)] w fun e w' => e = .returned (.bool wb) ∧ w = w') := Lib.hid (by rw [← HWB.out]; exact HWH.out _ (byteN_le t _))
        cases wb
        · have hct2 : Hid (t = p) := Lib.hid (((cutR_no (Or.inr HWB.out)).symm.trans hct.out).trans HP.out)
          go_wp2_with (go_at_call 141; refine (HC.out _).mono ?_; rintro e w' ⟨rfl, rfl⟩)
          go_ret
          exact ⟨by rw [← hct2.out] <;> rfl, rfl⟩
        · have hct2 : Hid (cutR (t.extract 0 (t.size - 1)) = cutR (cutL s)) := Lib.hid ((cutR_yes (by omega) HWB.out).trans hct.out)
          go_wp2_with (go_at_call 141; refine (HC.out _).mono ?_; rintro e w' ⟨rfl, rfl⟩)
          exact ⟨⟨_, rfl, by rw [ByteArray.size_extract]; omega, hct2, trivial⟩, by simp [ByteArray.size_extract]; omega⟩
theorem strip_any (s : ByteArray) (W : World) (hs : s.size ≤ 2000000) : Calls Tryd.prog 108 #[.string s] W fun e W' => e = .returned (.string (ptext s)) ∧ W = W' := by
  go_enter Tryd.func108, Tryd.ntmps108
  go_wp2_with (go_at_call 133; refine (trim_any s _ hs).mono ?_; rintro e w1 ⟨rfl, rfl⟩)
  go_ret
  exact ⟨rfl, rfl⟩
end Go.Proofs.YtkpoegdcmnjedaaDoor
