import Derived.Test.YtkohpijpipcajaaO2
import Derived.Lib.CountLaws
namespace Go.Proofs.Ytkohpijpipcajaa
open Go.RowKit
set_option linter.unusedVariables false
set_option linter.unusedSimpArgs false

theorem extract_list (s : ByteArray) (a b : Nat) : (s.extract a b).data.toList = (s.data.toList.drop a).take (b - a) := by
  rw [ByteArray.data_extract, Array.toList_extract, List.extract_eq_take_drop]
theorem extract_none (s : ByteArray) {a b : Nat} (h : b ≤ a) : s.extract a b = ⟨#[]⟩ := by
  apply ByteArray.ext
  apply Array.toList_inj.1
  rw [extract_list, show b - a = 0 by omega]; rfl
theorem extract_one (s : ByteArray) {a b : Nat} (h : a ≤ b) (hb : b < s.size) : s.extract a b ++ s.extract b (b + 1) = s.extract a (b + 1) := by
  apply ByteArray.ext
  apply Array.toList_inj.1
  rw [ByteArray.data_append, Array.toList_append, extract_list, extract_list, extract_list, show b + 1 - a = (b - a) + 1 by omega, Nat.add_sub_cancel_left]
  have hl : b - a < (s.data.toList.drop a).length := by rw [List.length_drop, size_list]; omega
  rw [List.take_succ_eq_append_getElem hl]
  congr 1
  have hl2 : b < s.data.toList.length := by rw [size_list]; exact hb
  rw [List.drop_eq_getElem_cons hl2, List.getElem_drop]
  simp
  congr 1
  omega

set_option maxRecDepth 100000 in
theorem ref_range_val (s : ByteArray) (a b : Int) (w : World) (hs : s.size ≤ 100000) (h0 : -9223372036854775808 ≤ a) (h1 : a ≤ 9223372036854775807) (h2 : -9223372036854775808 ≤ b) (h3 : b ≤ 9223372036854775807) :
    Calls Try.prog 14 #[.string s, .int .i64 a, .int .i64 b] w fun e w' => e = .returned (.string (rangeT s a b)) ∧ w = w' := by
  obtain ⟨f, hf⟩ : ∃ f : Nat, f = (max a 0).toNat := ⟨_, rfl⟩
  obtain ⟨h, hh⟩ : ∃ h : Nat, h = (min b (s.size - 1 : Int) + 1).toNat := ⟨_, rfl⟩
  have hhs : h ≤ s.size := by omega
  have HE : Hid (rangeT s a b = s.extract f h) := Lib.hid (by
    unfold rangeT
    by_cases c : max a 0 ≤ min b (s.size - 1 : Int)
    · rw [if_pos c, ← hf, show (min b (s.size - 1 : Int)).toNat + 1 = h by omega]
    · rw [if_neg c, extract_none s (by omega)])
  have HW : Hid (∀ k : Nat, k < s.size → ((a ≤ k ∧ (k : Int) ≤ b) ↔ (f ≤ k ∧ k < h))) := Lib.hid (fun k hk => by omega)
  have HZ := Lib.hid (extract_none s (a := f) (b := 0) (Nat.zero_le _))
  clear hf hh
  go_enter Try.func14, Try.ntmps14
  go_wp2
  go_loop [7, 11] (fun v i => ∃ (k : Nat) (A : ByteArray), i = .int .i64 k ∧ v = .string A ∧ k ≤ s.size ∧ Hid (A = s.extract f (min k h))) (fun _ i => s.size - (intOf i).toNat)
  case atStart => exact ⟨0, _, rfl, rfl, by omega, Lib.hid (by rw [Nat.zero_min, HZ.out])⟩
  case round =>
    obtain ⟨k, A, rfl, rfl, hk, hA⟩ := hrel
    have hAz : A.size ≤ 100000 := by rw [hA.out, ByteArray.size_extract]; omega
    by_cases hlt : k < s.size
    · have hw := HW.out k hlt
      have k1 : (k : Int) + 1 ≤ s.size := by omega
      have k2 : (k : Int) ≤ (k : Int) + 1 := by omega
      have k3 : ((k : Int) + 1).toNat = k + 1 := by omega
      by_cases hin : f ≤ k ∧ k < h
      · have HD := Lib.hid (show decide (a ≤ (k : Int) ∧ (k : Int) ≤ b) = true by simpa using hw.2 hin)
        have HS : Hid (A ++ s.extract k (k + 1) = s.extract f (min (k + 1) h)) := Lib.hid (by
          rw [hA.out, show min k h = k by omega, show min (k + 1) h = k + 1 by omega]
          exact extract_one s hin.1 hlt)
        clear hw hin
        go_wp2_with (go_at_call 49; refine (within_any _ _ _ _).mono ?_; rintro e w' ⟨rfl, rfl⟩; rw [HD.out])
        go_round
        case rel => exact ⟨k + 1, _, by go_num, rfl, by omega, HS⟩
        case measure => simp [intOf]; omega
      · have HD := Lib.hid (show decide (a ≤ (k : Int) ∧ (k : Int) ≤ b) = false by simpa using fun h1 h2 => hin (hw.1 ⟨h1, h2⟩))
        have HS : Hid (A = s.extract f (min (k + 1) h)) := Lib.hid (by
          rw [hA.out]
          by_cases c : k < f
          · rw [extract_none s (by omega), extract_none s (by omega)]
          · rw [show min k h = min (k + 1) h by omega])
        clear hw hin
        go_wp2_with (go_at_call 49; refine (within_any _ _ _ _).mono ?_; rintro e w' ⟨rfl, rfl⟩; rw [HD.out])
        go_round
        case rel => exact ⟨k + 1, _, by go_num, rfl, by omega, HS⟩
        case measure => simp [intOf]; omega
    · have HS : Hid (A = s.extract f h) := Lib.hid (by rw [hA.out, show min k h = h by omega])
      go_wp2
      go_ret
      exact ⟨by rw [HE.out, ← HS.out]; rfl, rfl⟩

theorem count_val (s t : ByteArray) (w : World) (hs : s.size ≤ 100000) (hm : HasMax w) (hp : 0 < t.size) :
    Calls Try.prog 19 #[.string t, .string s] w fun e w' => e = .returned (.int .i64 (Lib.countB s t)) ∧ w' = w := by
  have ht := (empty_no hp).1
  obtain ⟨m, hm⟩ := hm
  have HC := Lib.hid (Try.strings_Count_any s t m w (by omega) hm hp)
  clear hm
  go_enter Try.func19, Try.ntmps19
  go_wp2_with (go_at_call 53; refine HC.out.mono ?_; rintro e w' ⟨rfl, rfl⟩)
  go_ret
  exact ⟨rfl, rfl⟩
theorem count_none (s t : ByteArray) (w : World) (h0 : t.size = 0) :
    Calls Try.prog 19 #[.string t, .string s] w fun e w' => e = .returned (.int .i64 0) ∧ w' = w := by
  have ht := (empty_yes h0).1
  clear h0
  go_enter Try.func19, Try.ntmps19
  go_wp2
  go_ret
  exact ⟨rfl, rfl⟩
end Go.Proofs.Ytkohpijpipcajaa
