import Derived.Test.YtkpoegdcmnjedaaDoorRD1
namespace Go.Proofs.YtkpoegdcmnjedaaDoor
open Go.RowKit
set_option linter.unusedVariables false
set_option linter.unusedSimpArgs false

def hasS (s : ByteArray) (c : Nat) : Bool := (List.range s.size).any fun i => byteN s i == c
theorem hasS_no {s : ByteArray} {c : Nat} (h : ∀ j, j < s.size → byteN s j ≠ c) : hasS s c = false := by
  unfold hasS
  rw [List.any_eq_false]
  intro i hi
  have := h i (List.mem_range.1 hi)
  simpa using this
theorem hasS_yes {s : ByteArray} {c i : Nat} (hi : i < s.size) (h : byteN s i = c) : hasS s c = true := by
  unfold hasS
  rw [List.any_eq_true]
  exact ⟨i, List.mem_range.2 hi, by simpa using h⟩
set_option maxHeartbeats 400000 in
theorem has_any (s : ByteArray) (c : Nat) (w : World) (hs : s.size ≤ 2000000) (hc : c ≤ 255) : Calls Tryd.prog 141 #[.string s, .int .u8 c] w fun e w' => e = .returned (.bool (hasS s c)) ∧ w = w' := by
  obtain ⟨r, HR⟩ : ∃ r, Hid (hasS s c = r) := ⟨_, Lib.hid rfl⟩
  rw [HR.out]
  go_enter Tryd.func141, Tryd.ntmps141
  go_wp2
  go_loop [8] (fun iv => ∃ k : Nat, k ≤ s.size ∧ iv = .int .i64 k ∧ Hid (∀ j, j < k → byteN s j ≠ c)) (fun iv => s.size - (intOf iv).toNat)
  case atStart => exact ⟨0, Nat.zero_le _, rfl, Lib.hid fun j hj => absurd hj (Nat.not_lt_zero _)⟩
  case round =>
    obtain ⟨k, hk, rfl, hz⟩ := hrel
    by_cases hlt : k < s.size
    · have hbt := byte_at s hlt
      obtain ⟨d, HD⟩ : ∃ d, Hid (byteN s k = d) := ⟨_, Lib.hid rfl⟩
      rw [HD.out] at hbt
      by_cases he : d = c
      · have hr : Hid (true = r) := Lib.hid (by rw [← HR.out, hasS_yes hlt (HD.out.trans he)])
        subst he
        go_wp2
        go_ret
        exact ⟨by rw [← hr.out] <;> rfl, rfl⟩
      · have hne : ((d : Int) == (c : Int)) = false := by rw [beq_eq_false_iff_ne]; omega
        have HZ : Hid (∀ j, j < k + 1 → byteN s j ≠ c) := Lib.hid fun j hj => by
          by_cases e : j = k
          · rw [e, HD.out]; exact he
          · exact hz.out j (by omega)
        go_wp2
        go_round
        case rel => exact ⟨k + 1, by omega, by go_num, HZ⟩
        case measure => simp [intOf] <;> omega
    · obtain rfl : k = s.size := by omega
      have hr : Hid (false = r) := Lib.hid (by rw [← HR.out, hasS_no hz.out])
      go_wp2
      go_ret
      exact ⟨by rw [← hr.out] <;> rfl, rfl⟩
/-- the blanks. -/
abbrev blanks : ByteArray := ⟨#[9, 10, 11, 12, 13, 32]⟩
theorem hasS_blanks {c : Nat} (hc : c ≤ 255) : hasS blanks c = whB c := by
  have : ∀ c : Fin 256, hasS blanks c.val = whB c.val := by decide +kernel
  exact this ⟨c, by omega⟩
theorem has_blanks (c : Nat) (w : World) (hc : c ≤ 255) : Calls Tryd.prog 141 #[.string blanks, .int .u8 c] w fun e w' => e = .returned (.bool (whB c)) ∧ w = w' := by
  rw [← hasS_blanks hc]
  exact has_any blanks c w (by decide) hc

set_option maxRecDepth 100000 in
set_option maxHeartbeats 2000000 in
theorem trim_any (s : ByteArray) (W : World) (hs : s.size ≤ 2000000) :
    Calls Tryd.prog 133 #[.string s, .string blanks, .bool true, .bool true] W fun e w' => e = .returned (.string (ptext s)) ∧ W = w' := by
  have HWH : Hid (∀ (c : Nat), c ≤ 255 → ∀ w, Calls Tryd.prog 141 #[.string blanks, .int .u8 (c : Nat)] w fun e w' => e = .returned (.bool (whB c)) ∧ w = w') := Lib.hid fun c hc w => has_blanks c w hc
  obtain ⟨bl, HBL⟩ : ∃ b, Hid (blanks = b) := ⟨_, Lib.hid rfl⟩
  rw [HBL.out] at HWH ⊢
  obtain ⟨p, HP⟩ : ∃ p, Hid (ptext s = p) := ⟨_, Lib.hid rfl⟩
  rw [HP.out]
  go_enter Tryd.func133, Tryd.ntmps133
  go_upto_block 0 with (fail)
  go_cut [0] from 9 to 21 (fun sv wx => ∃ t : ByteArray, sv = .string t ∧ t.size ≤ s.size ∧ Hid (t = cutL s) ∧ wx = W)
  case first =>
    go_wp2
    go_loopw [0] (fun sv wr => ∃ (t : ByteArray), sv = .string t ∧ t.size ≤ s.size ∧ Hid (cutL t = cutL s) ∧ wr = W) (fun sv _ => match sv with | .string t => t.size | _ => 0)
    case atStart => exact ⟨s, rfl, Nat.le_refl _, Lib.hid rfl, rfl⟩
    case round =>
      obtain ⟨t, rfl, hlt, hct, rfl⟩ := hrel
      by_cases h0 : t.size = 0
      · have he3 : t.toList = [] := list_empty h0
        have he2 : t.toList.isEmpty = true := by rw [he3]; rfl
        have hct2 : Hid (t = cutL s) := Lib.hid ((cutL_no (Or.inl h0)).symm.trans hct.out)
        go_wp2_with fail
        go_meet
        exact ⟨t, rfl, hlt, hct2, rfl⟩
      · have hne : t.toList.isEmpty = false := list_full h0
        have hne2 : ¬ t.toList = [] := list_full2 h0
        have hbt := byte_at t (i := 0) (by omega)
        obtain ⟨wb, HWB⟩ : ∃ b, Hid (whB (byteN t 0) = b) := ⟨_, Lib.hid rfl⟩
        have HC : Hid (∀ w, Calls Tryd.prog 141 #[.string bl, .int .u8 (byteN t 0 : Nat)] w fun e w' => e = .returned (.bool wb) ∧ w = w') := Lib.hid (by rw [← HWB.out]; exact HWH.out _ (byteN_le t 0))
        cases wb
        · have hct2 : Hid (t = cutL s) := Lib.hid ((cutL_no (Or.inr HWB.out)).symm.trans hct.out)
          go_wp2_with (go_at_call 141; refine (HC.out _).mono ?_; rintro e w' ⟨rfl, rfl⟩)
          go_meet
          exact ⟨t, rfl, hlt, hct2, rfl⟩
        · have hct2 : Hid (cutL (t.extract 1 t.size) = cutL s) := Lib.hid ((cutL_yes (by omega) HWB.out).trans hct.out)
          go_wp2_with (go_at_call 141; refine (HC.out _).mono ?_; rintro e w' ⟨rfl, rfl⟩)
          exact ⟨⟨_, rfl, by rw [ByteArray.size_extract]; omega, hct2, trivial⟩, by simp [ByteArray.size_extract]; omega⟩
  case rest =>
    obtain ⟨t1, rfl, ht1, HT1, rfl⟩ := hcut
    go_wp2
    go_loopw [0] (fun sv wr => ∃ (t : ByteArray), sv = .string t ∧ t.size ≤ s.size ∧ Hid (cutR t = cutR (cutL s)) ∧ wr = wc) (fun sv _ => match sv with | .string t => t.size | _ => 0)
    case atStart => exact ⟨t1, rfl, ht1, Lib.hid (by rw [HT1.out]), rfl⟩
    case round =>
      obtain ⟨t, rfl, hlt, hct, rfl⟩ := hrel
      by_cases h0 : t.size = 0
      · have he3 : t.toList = [] := list_empty h0
        have he2 : t.toList.isEmpty = true := by rw [he3]; rfl
        have hct2 : Hid (t = p) := Lib.hid (((cutR_no (Or.inl h0)).symm.trans hct.out).trans HP.out)
        go_wp2_with fail
        go_ret
        exact ⟨by rw [← hct2.out] <;> rfl, rfl⟩
      · have hne : t.toList.isEmpty = false := list_full h0
        have hne2 : ¬ t.toList = [] := list_full2 h0
        have hbt := byte_at t (i := t.size - 1) (by omega)
        have hi1 : ((t.size : Int) - 1).toNat = t.size - 1 := by omega
        have hi2 : (t.size : Int) - 1 = ((t.size - 1 : Nat) : Int) := by omega
        obtain ⟨wb, HWB⟩ : ∃ b, Hid (whB (byteN t (t.size - 1)) = b) := ⟨_, Lib.hid rfl⟩
        have HC : Hid (∀ w, Calls Tryd.prog 141 #[.string bl, .int .u8 (byteN t (t.size - 1) : Nat)] w fun e w' => e = .returned (.bool wb) ∧ w = w') := Lib.hid (by rw [← HWB.out]; exact HWH.out _ (byteN_le t _))
        cases wb
        · have hct2 : Hid (t = p) := Lib.hid (((cutR_no (Or.inr HWB.out)).symm.trans hct.out).trans HP.out)
          go_wp2_with (go_at_call 141; refine (HC.out _).mono ?_; rintro e w' ⟨rfl, rfl⟩)
          go_ret
          exact ⟨by rw [← hct2.out] <;> rfl, rfl⟩
        · have hct2 : Hid (cutR (t.extract 0 (t.size - 1)) = cutR (cutL s)) := Lib.hid ((cutR_yes (by omega) HWB.out).trans hct.out)
          go_wp2_with (go_at_call 141; refine (HC.out _).mono ?_; rintro e w' ⟨rfl, rfl⟩)
          exact ⟨⟨_, rfl, by rw [ByteArray.size_extract]; omega, hct2, trivial⟩, by simp [ByteArray.size_extract]; omega⟩
theorem strip_any (s : ByteArray) (W : World) (hs : s.size ≤ 2000000) : Calls Tryd.prog 108 #[.string s] W fun e W' => e = .returned (.string (ptext s)) ∧ W = W' := by
  go_enter Tryd.func108, Tryd.ntmps108
  go_wp2_with (go_at_call 133; refine (trim_any s _ hs).mono ?_; rintro e w1 ⟨rfl, rfl⟩)
  go_ret
  exact ⟨rfl, rfl⟩
end Go.Proofs.YtkpoegdcmnjedaaDoor
