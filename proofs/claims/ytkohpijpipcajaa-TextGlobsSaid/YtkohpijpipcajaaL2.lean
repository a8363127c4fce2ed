import Derived.Test.YtkohpijpipcajaaL1
namespace Go.Proofs.Ytkohpijpipcajaa
open Go.RowKit
set_option linter.unusedVariables false
set_option linter.unusedSimpArgs false

theorem last_any (s t : ByteArray) (x : Int) (w : World) (hs : s.size ≤ 100000) (hts : t.size ≤ 100000) (h0 : -9223372036854775808 ≤ x) (h1 : x ≤ 9223372036854775807) :
    Calls Try.prog 17 #[.string t, .string s, .int .i64 x] w (LastPost s t x w) := by
  by_cases c1 : t.size = 0
  · have ht := (empty_yes c1).1
    have HP := Lib.hid (show IsLast s t x (-1) from Or.inl ⟨rfl, Or.inl c1⟩)
    clear c1
    go_enter Try.func17, Try.ntmps17
    go_wp2
    go_ret
    exact ⟨_, HP.out, rfl, rfl⟩
  · have hp : 0 < t.size := by omega
    have ht := (empty_no hp).1
    by_cases c2 : x < 0
    · have HP := Lib.hid (show IsLast s t x (-1) from Or.inl ⟨rfl, Or.inr fun i hi => by omega⟩)
      clear c1
      go_enter Try.func17, Try.ntmps17
      go_wp2
      go_ret
      exact ⟨_, HP.out, rfl, rfl⟩
    · obtain ⟨m, rfl⟩ : ∃ m : Nat, x = m := ⟨x.toNat, by omega⟩
      by_cases c3 : m + t.size < s.size
      · have hcut := last_index_cut c3 hp
        rw [head_data] at hcut
        have HP := Lib.hid hcut
        clear hcut
        have HI := Lib.hid (Try.strings_LastIndex (s.extract 0 (m + t.size)) t (by rw [ByteArray.size_extract]; omega) w)
        clear c1
        go_enter Try.func17, Try.ntmps17
        go_wp2_with (go_at_call 52; refine HI.out.mono ?_; rintro e w' ⟨rfl, rfl⟩)
        go_ret
        exact ⟨_, HP.out, rfl, rfl⟩
      · have HP := Lib.hid (last_index_all (s := s) (t := t) (x := m) (by omega) hp)
        have HI := Lib.hid (Try.strings_LastIndex s t (by omega) w)
        clear c1
        go_enter Try.func17, Try.ntmps17
        go_wp2_with (go_at_call 52; refine HI.out.mono ?_; rintro e w' ⟨rfl, rfl⟩)
        go_ret
        exact ⟨_, HP.out, rfl, rfl⟩

/-- the bytes between two indexes. -/
def rangeT (s : ByteArray) (a b : Int) : ByteArray := if max a 0 ≤ min b (s.size - 1 : Int) then s.extract (max a 0).toNat ((min b (s.size - 1 : Int)).toNat + 1) else ⟨#[]⟩
set_option maxRecDepth 100000 in
theorem range_any (s : ByteArray) (a b : Int) (w : World) (hs : s.size ≤ 100000) (h0 : -9223372036854775808 ≤ a) (h1 : a ≤ 9223372036854775807) (h2 : -9223372036854775808 ≤ b) (h3 : b ≤ 9223372036854775807) :
    Calls Try.prog 13 #[.string s, .int .i64 a, .int .i64 b] w fun e w' => e = .returned (.string (rangeT s a b)) ∧ w' = w := by
  by_cases c : max a 0 ≤ min b (s.size - 1 : Int)
  · obtain ⟨f, hf⟩ : ∃ f : Nat, max a 0 = f := ⟨(max a 0).toNat, by omega⟩
    obtain ⟨g, hg⟩ : ∃ g : Nat, min b (s.size - 1 : Int) = g := ⟨(min b (s.size - 1 : Int)).toNat, by omega⟩
    have HE := Lib.hid (show rangeT s a b = s.extract f (g + 1) by unfold rangeT; rw [if_pos c, hf, hg]; rfl)
    have hfg : f ≤ g := by omega
    have hgs : g + 1 ≤ s.size := by omega
    have hfg1 : f ≤ g + 1 := by omega
    have hfg2 : (f : Int) ≤ (g : Int) + 1 := by omega
    have hgs2 : (g : Int) + 1 ≤ (s.size : Int) := by omega
    have hto : ((g : Int) + 1).toNat = g + 1 := by omega
    clear c h0 h1 h2 h3
    go_enter Try.func13, Try.ntmps13
    go_wp2
    go_ret
    exact ⟨by rw [HE.out]; rfl, rfl⟩
  · have HE := Lib.hid (show rangeT s a b = ⟨#[]⟩ by unfold rangeT; rw [if_neg c])
    have c' : min b (s.size - 1 : Int) < max a 0 := by omega
    clear c h0 h1 h2 h3
    go_enter Try.func13, Try.ntmps13
    go_wp2
    go_ret
    exact ⟨by rw [HE.out]; rfl, rfl⟩
end Go.Proofs.Ytkohpijpipcajaa
