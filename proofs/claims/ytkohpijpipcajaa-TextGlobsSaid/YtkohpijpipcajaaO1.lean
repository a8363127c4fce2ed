import Derived.Test.YtkohpijpipcajaaL2
import Derived.LoopTactic
namespace Go.Proofs.Ytkohpijpipcajaa
open Go.RowKit
set_option linter.unusedVariables false
set_option linter.unusedSimpArgs false

theorem within_any (n a b : Int) (w : World) : Calls Try.prog 49 #[.int .i64 n, .int .i64 a, .int .i64 b] w fun e w' => e = .returned (.bool (decide (a ≤ n ∧ n ≤ b))) ∧ w = w' := by
  by_cases h1 : a ≤ n
  all_goals by_cases h2 : n ≤ b
  all_goals
    go_enter Try.func49, Try.ntmps49
    go_wp2
    go_ret
    exact ⟨by simp; omega, rfl⟩

theorem first_exists (s t : ByteArray) (x : Int) : ∃ p, IsFirst s t x p := by
  by_cases c1 : t.size = 0
  · exact ⟨-1, Or.inl ⟨rfl, Or.inl c1⟩⟩
  · have hp : 0 < t.size := by omega
    obtain ⟨f, hf⟩ : ∃ f : Nat, max x 0 = f := ⟨(max x 0).toNat, by omega⟩
    by_cases c2 : f ≤ s.size
    · rcases first_index hf c2 hp with ⟨_, h⟩ | ⟨i, _, _, h⟩
      · exact ⟨_, h⟩
      · exact ⟨_, h⟩
    · exact ⟨-1, Or.inl ⟨rfl, Or.inr fun i hi => by
        cases hc : occ s t i with
        | false => rfl
        | true => have := occ_in hc hp; omega⟩⟩
theorem last_exists (s t : ByteArray) (x : Int) : ∃ p, IsLast s t x p := by
  by_cases c1 : t.size = 0
  · exact ⟨-1, Or.inl ⟨rfl, Or.inl c1⟩⟩
  · have hp : 0 < t.size := by omega
    by_cases c2 : x < 0
    · exact ⟨-1, Or.inl ⟨rfl, Or.inr fun i hi => by omega⟩⟩
    · obtain ⟨m, rfl⟩ : ∃ m : Nat, x = m := ⟨x.toNat, by omega⟩
      by_cases c3 : m + t.size < s.size
      · exact ⟨_, last_index_cut c3 hp⟩
      · exact ⟨_, last_index_all (s := s) (t := t) (x := m) (by omega) hp⟩
noncomputable def firstP (s t : ByteArray) (x : Int) : Int := Classical.choose (first_exists s t x)
theorem firstP_is (s t : ByteArray) (x : Int) : IsFirst s t x (firstP s t x) := Classical.choose_spec (first_exists s t x)
noncomputable def lastP (s t : ByteArray) (x : Int) : Int := Classical.choose (last_exists s t x)
theorem lastP_is (s t : ByteArray) (x : Int) : IsLast s t x (lastP s t x) := Classical.choose_spec (last_exists s t x)

theorem first_val (s t : ByteArray) (x : Int) (w : World) (hs : s.size ≤ 100000) (h0 : -9223372036854775808 ≤ x) (h1 : x ≤ 9223372036854775807) (hm : HasMax w) :
    Calls Try.prog 15 #[.string t, .string s, .int .i64 x] w fun e w' => e = .returned (.int .i64 (firstP s t x)) ∧ w' = w :=
  (first_any s t x w hs h0 h1 hm).mono fun e w' ⟨p, hp, he, hw⟩ => ⟨by rw [isFirst_one (firstP_is s t x) hp]; exact he, hw⟩
theorem last_val (s t : ByteArray) (x : Int) (w : World) (hs : s.size ≤ 100000) (hts : t.size ≤ 100000) (h0 : -9223372036854775808 ≤ x) (h1 : x ≤ 9223372036854775807) :
    Calls Try.prog 17 #[.string t, .string s, .int .i64 x] w fun e w' => e = .returned (.int .i64 (lastP s t x)) ∧ w' = w :=
  (last_any s t x w hs hts h0 h1).mono fun e w' ⟨p, hp, he, hw⟩ => ⟨by rw [isLast_one (lastP_is s t x) hp]; exact he, hw⟩

theorem ext_occ {s t : ByteArray} {i : Nat} (h : i + t.size ≤ s.size) : ((s.extract i (i + t.size)).toList == t.toList) = occ s t i := by
  rw [ByteArray.toList_eq, ByteArray.toList_eq, ByteArray.data_extract, Array.toList_extract, List.extract_eq_take_drop, Nat.add_sub_cancel_left]
  unfold occ Lib.occAt
  rw [Bool.eq_iff_iff, List.isPrefixOf_iff_prefix, List.prefix_iff_eq_take, size_list, beq_iff_eq]
  exact ⟨fun h => h.symm, fun h => h.symm⟩

theorem stands_any (s t : ByteArray) (i : Nat) (w : World) (hs : s.size ≤ 100000) (ht : t.size ≤ 100000) (hi : i ≤ 100000) (hp : 0 < t.size) :
    Calls Try.prog 51 #[.string t, .string s, .int .i64 i] w fun e w' => e = .returned (.bool (occ s t i)) ∧ w = w' := by
  by_cases c : i + t.size ≤ s.size
  · have HE := Lib.hid (ext_occ c)
    have c2 : (i : Int) + t.size ≤ s.size := by omega
    have c3 : (i : Int) ≤ (i : Int) + t.size := by omega
    have c4 : ((i : Int) + t.size).toNat = i + t.size := by omega
    go_enter Try.func51, Try.ntmps51
    go_wp2
    go_ret
    exact ⟨by rw [← HE.out]; rfl, rfl⟩
  · have HE := Lib.hid (show occ s t i = false by
      cases hc : occ s t i with
      | false => rfl
      | true => exact absurd (occ_in hc hp) c)
    go_enter Try.func51, Try.ntmps51
    go_wp2
    go_ret
    exact ⟨by rw [HE.out]; rfl, rfl⟩

set_option maxRecDepth 100000 in
theorem ref_first_val (s t : ByteArray) (x : Int) (w : World) (hs : s.size ≤ 100000) (hts : t.size ≤ 100000) (h0 : -9223372036854775808 ≤ x) (h1 : x ≤ 9223372036854775807) :
    Calls Try.prog 16 #[.string t, .string s, .int .i64 x] w fun e w' => e = .returned (.int .i64 (firstP s t x)) ∧ w = w' := by
  by_cases c1 : t.size = 0
  · have ht := (empty_yes c1).1
    have ht2 := (empty_yes c1).2
    have HP := Lib.hid (isFirst_one (firstP_is s t x) (Or.inl ⟨rfl, Or.inl c1⟩))
    clear c1
    go_enter Try.func16, Try.ntmps16
    go_wp2
    go_loop [10] (fun i => ∃ k : Nat, i = .int .i64 k ∧ k ≤ s.size) (fun i => s.size - (intOf i).toNat)
    case atStart => exact ⟨0, rfl, by omega⟩
    case round =>
      obtain ⟨k, rfl, hk⟩ := hrel
      by_cases hlt : k < s.size
      · go_wp2
        go_round
        case rel => exact ⟨k + 1, by go_num, by omega⟩
        case measure => simp [intOf]; omega
      · go_wp2
        go_ret
        exact ⟨by rw [HP.out]; rfl, rfl⟩
  · have hp : 0 < t.size := by omega
    have ht := (empty_no hp).1
    have ht2 := (empty_no hp).2
    clear c1
    go_enter Try.func16, Try.ntmps16
    go_wp2
    go_loop [10] (fun i => ∃ k : Nat, i = .int .i64 k ∧ k ≤ s.size ∧ Hid (∀ j : Nat, j < k → x ≤ j → occ s t j = false)) (fun i => s.size - (intOf i).toNat)
    case atStart => exact ⟨0, rfl, by omega, Lib.hid fun j hj => by omega⟩
    case round =>
      obtain ⟨k, rfl, hk, hno⟩ := hrel
      by_cases hlt : k < s.size
      · by_cases hx : x ≤ k
        · cases hc : occ s t k with
          | false =>
            have HC := Lib.hid hc
            clear hc
            go_wp2_with (go_at_call 51; refine (stands_any s t k _ hs hts (by omega) hp).mono ?_; rintro e w' ⟨rfl, rfl⟩; rw [HC.out])
            go_round
            case rel => exact ⟨k + 1, by go_num, by omega, Lib.hid fun j hj hxj => by
              by_cases e : j = k
              · rw [e]; exact HC.out
              · exact hno.out j (by omega) hxj⟩
            case measure => simp [intOf]; omega
          | true =>
            have HC := Lib.hid hc
            have HP := Lib.hid (isFirst_one (firstP_is s t x) (Or.inr ⟨k, rfl, hp, occ_in hc hp, hx, hc, hno.out⟩))
            clear hc
            go_wp2_with (go_at_call 51; refine (stands_any s t k _ hs hts (by omega) hp).mono ?_; rintro e w' ⟨rfl, rfl⟩; rw [HC.out])
            go_ret
            exact ⟨by rw [HP.out]; rfl, rfl⟩
        · go_wp2
          go_round
          case rel => exact ⟨k + 1, by go_num, by omega, Lib.hid fun j hj hxj => hno.out j (by omega) hxj⟩
          case measure => simp [intOf]; omega
      · have HP := Lib.hid (isFirst_one (firstP_is s t x) (Or.inl ⟨rfl, Or.inr fun i hi => by
          cases hc : occ s t i with
          | false => rfl
          | true => have := occ_in hc hp; exact hc.symm.trans (hno.out i (by omega) hi)⟩))
        go_wp2
        go_ret
        exact ⟨by rw [HP.out]; rfl, rfl⟩
end Go.Proofs.Ytkohpijpipcajaa
