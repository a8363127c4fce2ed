import Derived.Test.YtkohpijpipcajaaO1
import Derived.WalkLawsBesides
namespace Go.Proofs.Ytkohpijpipcajaa
open Go.RowKit
set_option linter.unusedVariables false
set_option linter.unusedSimpArgs false

set_option maxRecDepth 100000 in
theorem ref_last_val (s t : ByteArray) (x : Int) (w : World) (hs : s.size ≤ 100000) (hts : t.size ≤ 100000) (h0 : -9223372036854775808 ≤ x) (h1 : x ≤ 9223372036854775807) :
    Calls Try.prog 18 #[.string t, .string s, .int .i64 x] w fun e w' => e = .returned (.int .i64 (lastP s t x)) ∧ w = w' := by
  by_cases c1 : t.size = 0
  · have ht := (empty_yes c1).1
    have ht2 := (empty_yes c1).2
    have HP := Lib.hid (isLast_one (lastP_is s t x) (Or.inl ⟨rfl, Or.inl c1⟩))
    clear c1
    go_enter Try.func18, Try.ntmps18
    go_wp2
    go_loop [7] (fun i => ∃ k : Nat, i = .int .i64 ((k : Int) - 1) ∧ k ≤ s.size) (fun i => (intOf i + 1).toNat)
    case atStart => exact ⟨s.size, rfl, by omega⟩
    case round =>
      obtain ⟨k, rfl, hk⟩ := hrel
      by_cases hlt : 0 < k
      · have h2 : 1 ≤ k := hlt
        go_wp2
        go_round
        case rel => exact ⟨k - 1, by congr 1; omega, by omega⟩
        case measure => simp [intOf]; omega
      · go_wp2
        go_ret
        exact ⟨by rw [HP.out]; rfl, rfl⟩
  · have hp : 0 < t.size := by omega
    have ht := (empty_no hp).1
    have ht2 := (empty_no hp).2
    clear c1
    go_enter Try.func18, Try.ntmps18
    go_wp2
    go_loop [7] (fun i => ∃ k : Nat, i = .int .i64 ((k : Int) - 1) ∧ k ≤ s.size ∧ Hid (∀ j : Nat, k ≤ j → (j : Int) ≤ x → occ s t j = false)) (fun i => (intOf i + 1).toNat)
    case atStart => exact ⟨s.size, rfl, by omega, Lib.hid fun j hj hx => by
      cases hc : occ s t j with
      | false => rfl
      | true => have := occ_in hc hp; omega⟩
    case round =>
      obtain ⟨k, rfl, hk, hno⟩ := hrel
      cases k with
      | zero =>
        have HP := Lib.hid (isLast_one (lastP_is s t x) (Or.inl ⟨rfl, Or.inr fun i hi => hno.out i (Nat.zero_le _) hi⟩))
        go_wp2
        go_ret
        exact ⟨by rw [HP.out]; rfl, rfl⟩
      | succ k =>
        rw [show ((k + 1 : Nat) : Int) - 1 = (k : Int) by omega]
        by_cases hx : (k : Int) ≤ x
        · cases hc : occ s t k with
          | false =>
            have HC := Lib.hid hc
            clear hc
            go_wp2_with (go_at_call 51; refine (stands_any s t k _ hs hts (by omega) hp).mono ?_; rintro e w' ⟨rfl, rfl⟩; rw [HC.out])
            go_round
            case rel => exact ⟨k, rfl, by omega, Lib.hid fun j hj hxj => by
              by_cases e : j = k
              · rw [e]; exact HC.out
              · exact hno.out j (by omega) hxj⟩
            case measure => simp [intOf]
          | true =>
            have HC := Lib.hid hc
            have HP := Lib.hid (isLast_one (lastP_is s t x) (Or.inr ⟨k, rfl, hp, occ_in hc hp, hx, hc, fun j hj hxj => hno.out j (by omega) hxj⟩))
            clear hc
            go_wp2_with (go_at_call 51; refine (stands_any s t k _ hs hts (by omega) hp).mono ?_; rintro e w' ⟨rfl, rfl⟩; rw [HC.out])
            go_ret
            exact ⟨by rw [HP.out]; rfl, rfl⟩
        · go_wp2
          go_round
          case rel => exact ⟨k, rfl, by omega, Lib.hid fun j hj hxj => hno.out j (by omega) hxj⟩
          case measure => simp [intOf]

theorem compare_is : ∀ a b : List UInt8, Lib.compareBytes a b = if Op.bytesLess a b = true then -1 else if a = b then 0 else 1
  | [], [] => rfl
  | [], _ :: _ => rfl
  | _ :: _, [] => by simp [Lib.compareBytes, Op.bytesLess]
  | a :: x, b :: y => by
    have ih := compare_is x y
    unfold Lib.compareBytes Op.bytesLess
    by_cases h1 : a < b
    · simp [h1]
    · by_cases h2 : b < a
      · have h3 : a ≠ b := fun e => by subst e; exact h1 h2
        simp [h1, h2, h3]
      · have h3 : a = b := by
          rw [UInt8.lt_iff_toNat_lt] at h1 h2
          exact UInt8.toNat_inj.1 (by omega)
        subst h3
        simp [ih]

theorem compare_val (a b : ByteArray) (w : World) : Calls Try.prog 11 #[.string a, .string b] w fun e w' => e = .returned (.int .i64 (Lib.compareBytes a.data.toList b.data.toList)) ∧ w' = w := by
  go_enter Try.func11, Try.ntmps11
  go_wp2_with (go_at_call 48; refine (Try.strings_Compare a b _).mono ?_; rintro e w' ⟨rfl, rfl⟩)
  go_ret
  exact ⟨rfl, rfl⟩
theorem ref_compare_val (a b : ByteArray) (w : World) : Calls Try.prog 12 #[.string a, .string b] w fun e w' => e = .returned (.int .i64 (Lib.compareBytes a.data.toList b.data.toList)) ∧ w' = w := by
  have hc := compare_is a.data.toList b.data.toList
  rw [← ByteArray.toList_eq, ← ByteArray.toList_eq] at hc ⊢
  by_cases h1 : Op.bytesLess a.toList b.toList = true
  · rw [if_pos h1] at hc
    have HC := Lib.hid hc
    clear hc
    go_enter Try.func12, Try.ntmps12
    go_wp2
    go_ret
    exact ⟨by rw [HC.out]; rfl, rfl⟩
  · rw [if_neg h1] at hc
    have h1' : Op.bytesLess a.toList b.toList = false := by simpa using h1
    by_cases h2 : a.toList = b.toList
    · rw [if_pos h2] at hc
      have HC := Lib.hid hc
      have h3 : (!a.toList == b.toList) = false := by simp [h2]
      clear hc h1 h2
      go_enter Try.func12, Try.ntmps12
      go_wp2
      go_ret
      exact ⟨by rw [HC.out]; rfl, rfl⟩
    · rw [if_neg h2] at hc
      have HC := Lib.hid hc
      have h3 : (!a.toList == b.toList) = true := by simp [h2]
      clear hc h1 h2
      go_enter Try.func12, Try.ntmps12
      go_wp2
      go_ret
      exact ⟨by rw [HC.out]; rfl, rfl⟩
end Go.Proofs.Ytkohpijpipcajaa
