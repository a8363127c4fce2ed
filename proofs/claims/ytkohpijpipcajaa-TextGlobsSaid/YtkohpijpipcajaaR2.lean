import Derived.Test.YtkohpijpipcajaaR1
import Derived.Test.YtkohpijpipcajaaO3
namespace Go.Proofs.Ytkohpijpipcajaa
open Go.RowKit
set_option linter.unusedVariables false
set_option linter.unusedSimpArgs false

def strLen : Value → Nat
  | .string A => A.size
  | _ => 0

theorem extract_whole (s : ByteArray) : s.extract 0 s.size = s := by
  apply ByteArray.ext
  apply Array.toList_inj.1
  rw [extract_list, List.drop_zero, Nat.sub_zero, List.take_of_length_le (by rw [size_list]; exact Nat.le_refl _)]
theorem extract_in {s : ByteArray} {a b c d : Nat} (h : a ≤ b) (hd : a + d ≤ b) : (s.extract a b).extract c d = s.extract (a + c) (a + d) := by
  apply ByteArray.ext
  apply Array.toList_inj.1
  rw [extract_list, extract_list, extract_list, List.drop_take, List.drop_drop, List.take_take]
  congr 1
  omega
theorem numsB_extract {s : ByteArray} {a b j : Nat} (hb : b ≤ s.size) (hj : a + j < b) : (numsB (s.extract a b)).getD j 0 = (numsB s).getD (a + j) 0 := by
  have h1 : j < (numsB (s.extract a b)).length := by rw [numsB_length, ByteArray.size_extract]; omega
  have h2 : a + j < (numsB s).length := by rw [numsB_length]; omega
  rw [List.getD_eq_getElem?_getD, List.getD_eq_getElem?_getD]
  congr 1
  unfold numsB
  rw [List.getElem?_map, List.getElem?_map, extract_list, List.getElem?_take, if_pos (by omega), List.getElem?_drop]

set_option maxRecDepth 100000 in
set_option maxHeartbeats 1000000 in
theorem ref_trim_false_false (s ch : ByteArray) (w : World) (hs : s.size ≤ 400) (hcs : ch.size ≤ 100000) :
    Calls Try.prog 34 #[.string s, .string ch, .bool false, .bool false] w fun e w' => e = .returned (.string (trimT s ch false false)) ∧ w = w' := by
  obtain ⟨f, hf0⟩ : ∃ f : Nat, f = 0 := ⟨0, rfl⟩
  have hf : f ≤ s.size := by omega
  have HF : Hid (trimF s ch false = f) := Lib.hid (by unfold trimF; rw [if_neg (by decide), hf0])
  have HA : Hid (s = s.extract f s.size) := Lib.hid (by rw [hf0, extract_whole])
  clear hf0
  go_enter Try.func34, Try.ntmps34
  go_wp2
  refine wp_loop_rounds 1 ?_
  rw [rounds_succ]
  go_wp2
  have HE : Hid (s = trimT s ch false false) := Lib.hid (by unfold trimT trimE; rw [HF.out, if_neg (by decide)]; exact HA.out)
  refine wp_loop_rounds 1 ?_
  rw [rounds_succ]
  go_wp2
  go_ret
  exact ⟨by rw [← HE.out]; rfl, rfl⟩

set_option maxRecDepth 100000 in
set_option maxHeartbeats 1000000 in
theorem ref_trim_false_true (s ch : ByteArray) (w : World) (hs : s.size ≤ 400) (hcs : ch.size ≤ 100000) :
    Calls Try.prog 34 #[.string s, .string ch, .bool false, .bool true] w fun e w' => e = .returned (.string (trimT s ch false true)) ∧ w = w' := by
  obtain ⟨f, hf0⟩ : ∃ f : Nat, f = 0 := ⟨0, rfl⟩
  have hf : f ≤ s.size := by omega
  have HF : Hid (trimF s ch false = f) := Lib.hid (by unfold trimF; rw [if_neg (by decide), hf0])
  have HA : Hid (s = s.extract f s.size) := Lib.hid (by rw [hf0, extract_whole])
  clear hf0
  go_enter Try.func34, Try.ntmps34
  go_wp2
  refine wp_loop_rounds 1 ?_
  rw [rounds_succ]
  go_wp2
  go_loop [0] (fun v => ∃ (m : Nat) (A : ByteArray), v = .string A ∧ m + f ≤ s.size ∧ Hid (A = s.extract f (s.size - m)) ∧ Hid (∀ j, j < m → inC ch ((numsB s).getD (s.size - 1 - j) 0) = true)) (fun v => strLen v)
  case atStart => exact ⟨0, s, rfl, by omega, HA, Lib.hid fun j hj => by omega⟩
  case round =>
    obtain ⟨m, A, rfl, hm, hA, hall⟩ := hrel
    have hAz : Hid (A.size = s.size - m - f) := Lib.hid (by rw [hA.out, ByteArray.size_extract]; omega)
    by_cases hne : m + f = s.size
    · have HE : Hid (A = trimT s ch false true) := Lib.hid (by unfold trimT trimE; rw [HF.out, if_pos rfl, trail_is hm hall.out (Or.inl hne)]; exact hA.out)
      have h0 := empty_yes (show A.size = 0 by rw [hAz.out]; omega)
      have h01 := h0.1
      have h02 := h0.2
      clear h0
      go_wp2
      go_ret
      exact ⟨by rw [← HE.out]; rfl, rfl⟩
    · have hAp : 0 < A.size := by rw [hAz.out]; omega
      have h0 := empty_no hAp
      have h01 := h0.1
      have h02 := h0.2
      have hx := byte_num A (k := A.size - 1) (by omega)
      have hy : Hid ((numsB A).getD (A.size - 1) 0 = (numsB s).getD (s.size - 1 - m) 0) := Lib.hid (by rw [hAz.out, hA.out, numsB_extract (by omega) (by omega)]; congr 1; omega)
      rw [hy.out] at hx
      have hb := numsB_at s (s.size - 1 - m)
      have q0 : A.size ≤ 400 := by rw [hAz.out]; omega
      have q1 : (1 : Int) ≤ (A.size : Int) := by omega
      have q2 : (0 : Int) ≤ (A.size : Int) - 1 := by omega
      have q3 : ((A.size : Int) - 1).toNat = A.size - 1 := by omega
      have q4 : A.size - 1 < A.size := by omega
      cases hc : inC ch ((numsB s).getD (s.size - 1 - m) 0) with
      | true =>
        have HC := Lib.hid hc
        have HXC := Lib.hid hc
        clear hc h0
        generalize (numsB s).getD (s.size - 1 - m) 0 = x at hx hb HC
        go_wp2_with (go_at_call 62; refine (has_any ch _ _ hcs hb.1 hb.2).mono ?_; rintro e w' ⟨rfl, rfl⟩; rw [HC.out])
        go_round
        case rel => exact ⟨m + 1, _, rfl, by omega, Lib.hid (by rw [show A.extract 0 (A.size - 1) = s.extract f (s.size - (m + 1)) by rw [hAz.out, hA.out, extract_in (by omega) (by omega)]; congr 1; omega]), Lib.hid fun j hj => by
          by_cases e : j = m
          · rw [e]; exact HXC.out
          · exact hall.out j (by omega)⟩
        case measure => show (A.extract 0 (A.size - 1)).size < A.size; rw [ByteArray.size_extract]; omega
      | false =>
        have HE : Hid (A = trimT s ch false true) := Lib.hid (by unfold trimT trimE; rw [HF.out, if_pos rfl, trail_is hm hall.out (Or.inr hc)]; exact hA.out)
        have HC := Lib.hid hc
        clear hc h0
        generalize (numsB s).getD (s.size - 1 - m) 0 = x at hx hb HC
        go_wp2_with (go_at_call 62; refine (has_any ch _ _ hcs hb.1 hb.2).mono ?_; rintro e w' ⟨rfl, rfl⟩; rw [HC.out])
        go_ret
        exact ⟨by rw [← HE.out]; rfl, rfl⟩

set_option maxRecDepth 100000 in
set_option maxHeartbeats 1000000 in
theorem ref_trim_true_false (s ch : ByteArray) (w : World) (hs : s.size ≤ 400) (hcs : ch.size ≤ 100000) :
    Calls Try.prog 34 #[.string s, .string ch, .bool true, .bool false] w fun e w' => e = .returned (.string (trimT s ch true false)) ∧ w = w' := by
  go_enter Try.func34, Try.ntmps34
  go_wp2
  go_loop [0] (fun v => ∃ (k : Nat) (A : ByteArray), v = .string A ∧ k ≤ s.size ∧ Hid (A = s.extract k s.size) ∧ Hid (∀ j, j < k → inC ch ((numsB s).getD j 0) = true)) (fun v => strLen v)
  case atStart => exact ⟨0, s, rfl, Nat.zero_le _, Lib.hid (by rw [extract_whole]), Lib.hid fun j hj => by omega⟩
  case round =>
    obtain ⟨f, A0, rfl, hf, HA, hall⟩ := hrel
    have hAz : Hid (A0.size = s.size - f) := Lib.hid (by rw [HA.out, ByteArray.size_extract]; omega)
    by_cases hne : f = s.size
    · have HF : Hid (trimF s ch true = f) := Lib.hid (by unfold trimF; rw [if_pos rfl]; exact lead_is hf hall.out (Or.inl hne))
      have h0 := empty_yes (show A0.size = 0 by rw [hAz.out]; omega)
      have h01 := h0.1
      have h02 := h0.2
      clear h0
      go_wp2
      have HE : Hid (A0 = trimT s ch true false) := Lib.hid (by unfold trimT trimE; rw [HF.out, if_neg (by decide)]; exact HA.out)
      refine wp_loop_rounds 1 ?_
      rw [rounds_succ]
      go_wp2
      go_ret
      exact ⟨by rw [← HE.out]; rfl, rfl⟩

    · have hAp : 0 < A0.size := by rw [hAz.out]; omega
      have h0 := empty_no hAp
      have h01 := h0.1
      have h02 := h0.2
      have hx := byte_num A0 (k := 0) hAp
      have hy : Hid ((numsB A0).getD 0 0 = (numsB s).getD f 0) := Lib.hid (by rw [HA.out, numsB_extract (by omega) (by omega)]; rfl)
      rw [hy.out] at hx
      have hb := numsB_at s f
      have q0 : A0.size ≤ 400 := by rw [hAz.out]; omega
      have q1 : (1 : Int) ≤ (A0.size : Int) := by omega
      cases hc : inC ch ((numsB s).getD f 0) with
      | true =>
        have HC := Lib.hid hc
        have HXC := Lib.hid hc
        clear hc h0
        generalize (numsB s).getD f 0 = x at hx hb HC
        go_wp2_with (go_at_call 62; refine (has_any ch _ _ hcs hb.1 hb.2).mono ?_; rintro e w' ⟨rfl, rfl⟩; rw [HC.out])
        go_round
        case rel => exact ⟨f + 1, _, rfl, by omega, Lib.hid (by rw [show A0.extract 1 A0.size = s.extract (f + 1) s.size by rw [hAz.out, HA.out, extract_in (by omega) (by omega)]; congr 1; omega]), Lib.hid fun j hj => by
          by_cases e : j = f
          · rw [e]; exact HXC.out
          · exact hall.out j (by omega)⟩
        case measure => show (A0.extract 1 A0.size).size < A0.size; rw [ByteArray.size_extract]; omega
      | false =>
        have HF : Hid (trimF s ch true = f) := Lib.hid (by unfold trimF; rw [if_pos rfl]; exact lead_is hf hall.out (Or.inr hc))
        have HC := Lib.hid hc
        clear hc h0
        generalize (numsB s).getD f 0 = x at hx hb HC
        go_wp2_with (go_at_call 62; refine (has_any ch _ _ hcs hb.1 hb.2).mono ?_; rintro e w' ⟨rfl, rfl⟩; rw [HC.out])
        clear hx hb HC h01 h02
        have HE : Hid (A0 = trimT s ch true false) := Lib.hid (by unfold trimT trimE; rw [HF.out, if_neg (by decide)]; exact HA.out)
        refine wp_loop_rounds 1 ?_
        rw [rounds_succ]
        go_wp2
        go_ret
        exact ⟨by rw [← HE.out]; rfl, rfl⟩


set_option maxRecDepth 100000 in
set_option maxHeartbeats 1000000 in
theorem ref_trim_true_true (s ch : ByteArray) (w : World) (hs : s.size ≤ 400) (hcs : ch.size ≤ 100000) :
    Calls Try.prog 34 #[.string s, .string ch, .bool true, .bool true] w fun e w' => e = .returned (.string (trimT s ch true true)) ∧ w = w' := by
  go_enter Try.func34, Try.ntmps34
  go_wp2
  go_loop [0] (fun v => ∃ (k : Nat) (A : ByteArray), v = .string A ∧ k ≤ s.size ∧ Hid (A = s.extract k s.size) ∧ Hid (∀ j, j < k → inC ch ((numsB s).getD j 0) = true)) (fun v => strLen v)
  case atStart => exact ⟨0, s, rfl, Nat.zero_le _, Lib.hid (by rw [extract_whole]), Lib.hid fun j hj => by omega⟩
  case round =>
    obtain ⟨f, A0, rfl, hf, HA, hall⟩ := hrel
    have hAz : Hid (A0.size = s.size - f) := Lib.hid (by rw [HA.out, ByteArray.size_extract]; omega)
    by_cases hne : f = s.size
    · have HF : Hid (trimF s ch true = f) := Lib.hid (by unfold trimF; rw [if_pos rfl]; exact lead_is hf hall.out (Or.inl hne))
      have h0 := empty_yes (show A0.size = 0 by rw [hAz.out]; omega)
      have h01 := h0.1
      have h02 := h0.2
      clear h0
      go_wp2
      go_loop [0] (fun v => ∃ (m : Nat) (A : ByteArray), v = .string A ∧ m + f ≤ s.size ∧ Hid (A = s.extract f (s.size - m)) ∧ Hid (∀ j, j < m → inC ch ((numsB s).getD (s.size - 1 - j) 0) = true)) (fun v => strLen v)
      case atStart => exact ⟨0, A0, rfl, by omega, HA, Lib.hid fun j hj => by omega⟩
      case round =>
        obtain ⟨m, A, rfl, hm, hA, hall⟩ := hrel
        have hAz : Hid (A.size = s.size - m - f) := Lib.hid (by rw [hA.out, ByteArray.size_extract]; omega)
        by_cases hne : m + f = s.size
        · have HE : Hid (A = trimT s ch true true) := Lib.hid (by unfold trimT trimE; rw [HF.out, if_pos rfl, trail_is hm hall.out (Or.inl hne)]; exact hA.out)
          have h0 := empty_yes (show A.size = 0 by rw [hAz.out]; omega)
          have h01 := h0.1
          have h02 := h0.2
          clear h0
          go_wp2
          go_ret
          exact ⟨by rw [← HE.out]; rfl, rfl⟩
        · have hAp : 0 < A.size := by rw [hAz.out]; omega
          have h0 := empty_no hAp
          have h01 := h0.1
          have h02 := h0.2
          have hx := byte_num A (k := A.size - 1) (by omega)
          have hy : Hid ((numsB A).getD (A.size - 1) 0 = (numsB s).getD (s.size - 1 - m) 0) := Lib.hid (by rw [hAz.out, hA.out, numsB_extract (by omega) (by omega)]; congr 1; omega)
          rw [hy.out] at hx
          have hb := numsB_at s (s.size - 1 - m)
          have q0 : A.size ≤ 400 := by rw [hAz.out]; omega
          have q1 : (1 : Int) ≤ (A.size : Int) := by omega
          have q2 : (0 : Int) ≤ (A.size : Int) - 1 := by omega
          have q3 : ((A.size : Int) - 1).toNat = A.size - 1 := by omega
          have q4 : A.size - 1 < A.size := by omega
          cases hc : inC ch ((numsB s).getD (s.size - 1 - m) 0) with
          | true =>
            have HC := Lib.hid hc
            have HXC := Lib.hid hc
            clear hc h0
            generalize (numsB s).getD (s.size - 1 - m) 0 = x at hx hb HC
            go_wp2_with (go_at_call 62; refine (has_any ch _ _ hcs hb.1 hb.2).mono ?_; rintro e w' ⟨rfl, rfl⟩; rw [HC.out])
            go_round
            case rel => exact ⟨m + 1, _, rfl, by omega, Lib.hid (by rw [show A.extract 0 (A.size - 1) = s.extract f (s.size - (m + 1)) by rw [hAz.out, hA.out, extract_in (by omega) (by omega)]; congr 1; omega]), Lib.hid fun j hj => by
              by_cases e : j = m
              · rw [e]; exact HXC.out
              · exact hall.out j (by omega)⟩
            case measure => show (A.extract 0 (A.size - 1)).size < A.size; rw [ByteArray.size_extract]; omega
          | false =>
            have HE : Hid (A = trimT s ch true true) := Lib.hid (by unfold trimT trimE; rw [HF.out, if_pos rfl, trail_is hm hall.out (Or.inr hc)]; exact hA.out)
            have HC := Lib.hid hc
            clear hc h0
            generalize (numsB s).getD (s.size - 1 - m) 0 = x at hx hb HC
            go_wp2_with (go_at_call 62; refine (has_any ch _ _ hcs hb.1 hb.2).mono ?_; rintro e w' ⟨rfl, rfl⟩; rw [HC.out])
            go_ret
            exact ⟨by rw [← HE.out]; rfl, rfl⟩

    · have hAp : 0 < A0.size := by rw [hAz.out]; omega
      have h0 := empty_no hAp
      have h01 := h0.1
      have h02 := h0.2
      have hx := byte_num A0 (k := 0) hAp
      have hy : Hid ((numsB A0).getD 0 0 = (numsB s).getD f 0) := Lib.hid (by rw [HA.out, numsB_extract (by omega) (by omega)]; rfl)
      rw [hy.out] at hx
      have hb := numsB_at s f
      have q0 : A0.size ≤ 400 := by rw [hAz.out]; omega
      have q1 : (1 : Int) ≤ (A0.size : Int) := by omega
      cases hc : inC ch ((numsB s).getD f 0) with
      | true =>
        have HC := Lib.hid hc
        have HXC := Lib.hid hc
        clear hc h0
        generalize (numsB s).getD f 0 = x at hx hb HC
        go_wp2_with (go_at_call 62; refine (has_any ch _ _ hcs hb.1 hb.2).mono ?_; rintro e w' ⟨rfl, rfl⟩; rw [HC.out])
        go_round
        case rel => exact ⟨f + 1, _, rfl, by omega, Lib.hid (by rw [show A0.extract 1 A0.size = s.extract (f + 1) s.size by rw [hAz.out, HA.out, extract_in (by omega) (by omega)]; congr 1; omega]), Lib.hid fun j hj => by
          by_cases e : j = f
          · rw [e]; exact HXC.out
          · exact hall.out j (by omega)⟩
        case measure => show (A0.extract 1 A0.size).size < A0.size; rw [ByteArray.size_extract]; omega
      | false =>
        have HF : Hid (trimF s ch true = f) := Lib.hid (by unfold trimF; rw [if_pos rfl]; exact lead_is hf hall.out (Or.inr hc))
        have HC := Lib.hid hc
        clear hc h0
        generalize (numsB s).getD f 0 = x at hx hb HC
        go_wp2_with (go_at_call 62; refine (has_any ch _ _ hcs hb.1 hb.2).mono ?_; rintro e w' ⟨rfl, rfl⟩; rw [HC.out])
        clear hx hb HC h01 h02
        go_loop [0] (fun v => ∃ (m : Nat) (A : ByteArray), v = .string A ∧ m + f ≤ s.size ∧ Hid (A = s.extract f (s.size - m)) ∧ Hid (∀ j, j < m → inC ch ((numsB s).getD (s.size - 1 - j) 0) = true)) (fun v => strLen v)
        case atStart => exact ⟨0, A0, rfl, by omega, HA, Lib.hid fun j hj => by omega⟩
        case round =>
          obtain ⟨m, A, rfl, hm, hA, hall⟩ := hrel
          have hAz : Hid (A.size = s.size - m - f) := Lib.hid (by rw [hA.out, ByteArray.size_extract]; omega)
          by_cases hne : m + f = s.size
          · have HE : Hid (A = trimT s ch true true) := Lib.hid (by unfold trimT trimE; rw [HF.out, if_pos rfl, trail_is hm hall.out (Or.inl hne)]; exact hA.out)
            have h0 := empty_yes (show A.size = 0 by rw [hAz.out]; omega)
            have h01 := h0.1
            have h02 := h0.2
            clear h0
            go_wp2
            go_ret
            exact ⟨by rw [← HE.out]; rfl, rfl⟩
          · have hAp : 0 < A.size := by rw [hAz.out]; omega
            have h0 := empty_no hAp
            have h01 := h0.1
            have h02 := h0.2
            have hx := byte_num A (k := A.size - 1) (by omega)
            have hy : Hid ((numsB A).getD (A.size - 1) 0 = (numsB s).getD (s.size - 1 - m) 0) := Lib.hid (by rw [hAz.out, hA.out, numsB_extract (by omega) (by omega)]; congr 1; omega)
            rw [hy.out] at hx
            have hb := numsB_at s (s.size - 1 - m)
            have q0 : A.size ≤ 400 := by rw [hAz.out]; omega
            have q1 : (1 : Int) ≤ (A.size : Int) := by omega
            have q2 : (0 : Int) ≤ (A.size : Int) - 1 := by omega
            have q3 : ((A.size : Int) - 1).toNat = A.size - 1 := by omega
            have q4 : A.size - 1 < A.size := by omega
            cases hc : inC ch ((numsB s).getD (s.size - 1 - m) 0) with
            | true =>
              have HC := Lib.hid hc
              have HXC := Lib.hid hc
              clear hc h0
              generalize (numsB s).getD (s.size - 1 - m) 0 = x at hx hb HC
              go_wp2_with (go_at_call 62; refine (has_any ch _ _ hcs hb.1 hb.2).mono ?_; rintro e w' ⟨rfl, rfl⟩; rw [HC.out])
              go_round
              case rel => exact ⟨m + 1, _, rfl, by omega, Lib.hid (by rw [show A.extract 0 (A.size - 1) = s.extract f (s.size - (m + 1)) by rw [hAz.out, hA.out, extract_in (by omega) (by omega)]; congr 1; omega]), Lib.hid fun j hj => by
                by_cases e : j = m
                · rw [e]; exact HXC.out
                · exact hall.out j (by omega)⟩
              case measure => show (A.extract 0 (A.size - 1)).size < A.size; rw [ByteArray.size_extract]; omega
            | false =>
              have HE : Hid (A = trimT s ch true true) := Lib.hid (by unfold trimT trimE; rw [HF.out, if_pos rfl, trail_is hm hall.out (Or.inr hc)]; exact hA.out)
              have HC := Lib.hid hc
              clear hc h0
              generalize (numsB s).getD (s.size - 1 - m) 0 = x at hx hb HC
              go_wp2_with (go_at_call 62; refine (has_any ch _ _ hcs hb.1 hb.2).mono ?_; rintro e w' ⟨rfl, rfl⟩; rw [HC.out])
              go_ret
              exact ⟨by rw [← HE.out]; rfl, rfl⟩


end Go.Proofs.Ytkohpijpipcajaa
