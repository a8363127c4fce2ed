import Derived.Test.YtkohpijpipcajaaQ1
import Derived.Test.YtkohpijpipcajaaH3
import Derived.Deep.RegionHeld3
namespace Go.Proofs.Ytkohpijpipcajaa
open Go.RowKit
set_option linter.unusedVariables false
set_option linter.unusedSimpArgs false

noncomputable def titleT (s : ByteArray) : ByteArray := if s.size = 0 then ⟨#[]⟩ else strOfNums ((numsB (s.extract 0 1)).map grt) ++ strOfNums ((numsB (s.extract 1 s.size)).map sml)

set_option maxRecDepth 100000 in
set_option maxHeartbeats 1000000 in
theorem title_any (s : ByteArray) (w : World) (hs : s.size ≤ 400) :
    Calls Try.prog 29 #[.string s] w fun e w' => e = .returned (.string (titleT s)) ∧ Below w.heap.size w w' := by
  by_cases c : s.size = 0
  · have ht := (empty_yes c).1
    have HE := Lib.hid (show titleT s = ⟨#[]⟩ by unfold titleT; rw [if_pos c])
    clear c
    go_enter Try.func29, Try.ntmps29
    go_wp2
    go_ret
    exact ⟨by rw [HE.out]; rfl, Below.refl _ _⟩
  · have hp : 0 < s.size := by omega
    have ht := (empty_no hp).1
    have z1 : (s.extract 0 1).size ≤ 100000 := by rw [ByteArray.size_extract]; omega
    have z2 : (s.extract 1 s.size).size ≤ 100000 := by rw [ByteArray.size_extract]; omega
    have z3 : (strOfNums ((numsB (s.extract 0 1)).map grt)).size ≤ 400 := by rw [strOfNums_size, List.length_map, numsB_length, ByteArray.size_extract]; omega
    have z4 : (strOfNums ((numsB (s.extract 1 s.size)).map sml)).size ≤ 400 := by rw [strOfNums_size, List.length_map, numsB_length, ByteArray.size_extract]; omega
    have HE := Lib.hid (show titleT s = strOfNums ((numsB (s.extract 0 1)).map grt) ++ strOfNums ((numsB (s.extract 1 s.size)).map sml) by unfold titleT; rw [if_neg c])
    have hu := fun w => upper_any (s.extract 0 1) w z1
    have hl := fun w => lower_any (s.extract 1 s.size) w z2
    generalize strOfNums ((numsB (s.extract 0 1)).map grt) = U at HE hu z3
    generalize strOfNums ((numsB (s.extract 1 s.size)).map sml) = L at HE hl z4
    have HU := Lib.hid hu
    have HLo := Lib.hid hl
    have y1 : (1 : Int) ≤ (s.size : Int) := by omega
    have y2 : (0 : Int) ≤ (1 : Int) := by omega
    have z5 := fun W : World => run_string_add_sum (P := Try.prog) W U L (by omega)
    have z6 : ¬ 9223372036854775807 < U.size + L.size := by omega
    have z7 : U.size + L.size ≤ 9223372036854775807 := by omega
    clear c z1 z2 hu hl
    go_enter Try.func29, Try.ntmps29
    go_wp2_with fail
    go_region_held3 (fun w' => Below w.heap.size w w') (first | exact (Below.refl _ _).drew | exact ((Below.refl _ _).drew).trans hb1 | exact (((Below.refl _ _).drew).trans hb1).trans (hb2.mono hb1.size)) (first | (go_at_call 27; refine (HU.out _).mono ?_; rintro e w1 ⟨rfl, hb1⟩) | (go_at_call 25; refine (HLo.out _).mono ?_; rintro e w2 ⟨rfl, hb2⟩))
    all_goals
      have hfin : Below w.heap.size w w2 := (((Below.refl _ _).drew).trans hb1).trans (hb2.mono hb1.size)
      clear hb1 hb2
      go_wp2
      go_ret
      exact ⟨by rw [HE.out]; rfl, hfin⟩
set_option maxRecDepth 100000 in
set_option maxHeartbeats 1000000 in
theorem ref_title_any (s : ByteArray) (w : World) (hs : s.size ≤ 400) :
    Calls Try.prog 30 #[.string s] w fun e w' => e = .returned (.string (titleT s)) ∧ Below w.heap.size w w' := by
  by_cases c : s.size = 0
  · have ht := (empty_yes c).1
    have HE := Lib.hid (show titleT s = ⟨#[]⟩ by unfold titleT; rw [if_pos c])
    clear c
    go_enter Try.func30, Try.ntmps30
    go_wp2
    go_ret
    exact ⟨by rw [HE.out]; rfl, Below.refl _ _⟩
  · have hp : 0 < s.size := by omega
    have ht := (empty_no hp).1
    have z1 : (s.extract 0 1).size ≤ 100000 := by rw [ByteArray.size_extract]; omega
    have z2 : (s.extract 1 s.size).size ≤ 100000 := by rw [ByteArray.size_extract]; omega
    have z3 : (strOfNums ((numsB (s.extract 0 1)).map grt)).size ≤ 400 := by rw [strOfNums_size, List.length_map, numsB_length, ByteArray.size_extract]; omega
    have z4 : (strOfNums ((numsB (s.extract 1 s.size)).map sml)).size ≤ 400 := by rw [strOfNums_size, List.length_map, numsB_length, ByteArray.size_extract]; omega
    have HE := Lib.hid (show titleT s = strOfNums ((numsB (s.extract 0 1)).map grt) ++ strOfNums ((numsB (s.extract 1 s.size)).map sml) by unfold titleT; rw [if_neg c])
    have hu := fun w => ref_upper_any (s.extract 0 1) w z1
    have hl := fun w => ref_lower_any (s.extract 1 s.size) w z2
    generalize strOfNums ((numsB (s.extract 0 1)).map grt) = U at HE hu z3
    generalize strOfNums ((numsB (s.extract 1 s.size)).map sml) = L at HE hl z4
    have HU := Lib.hid hu
    have HLo := Lib.hid hl
    have y1 : (1 : Int) ≤ (s.size : Int) := by omega
    have y2 : (0 : Int) ≤ (1 : Int) := by omega
    have z5 := fun W : World => run_string_add_sum (P := Try.prog) W U L (by omega)
    have z6 : ¬ 9223372036854775807 < U.size + L.size := by omega
    have z7 : U.size + L.size ≤ 9223372036854775807 := by omega
    clear c z1 z2 hu hl
    go_enter Try.func30, Try.ntmps30
    go_wp2_with fail
    go_region_held3 (fun w' => Below w.heap.size w w') (first | exact (Below.refl _ _).drew | exact ((Below.refl _ _).drew).trans hb1 | exact (((Below.refl _ _).drew).trans hb1).trans (hb2.mono hb1.size)) (first | (go_at_call 28; refine (HU.out _).mono ?_; rintro e w1 ⟨rfl, hb1⟩) | (go_at_call 26; refine (HLo.out _).mono ?_; rintro e w2 ⟨rfl, hb2⟩))
    all_goals
      have hfin : Below w.heap.size w w2 := (((Below.refl _ _).drew).trans hb1).trans (hb2.mono hb1.size)
      clear hb1 hb2
      go_wp2
      go_ret
      exact ⟨by rw [HE.out]; rfl, hfin⟩

def detailT (s : ByteArray) : ByteArray := s.extract 0 (min s.size 40)
theorem detail_any (s : ByteArray) (w : World) (hs : s.size ≤ 400) : Calls Try.prog 37 #[.string s] w fun e w' => e = .returned (.string (detailT s)) ∧ w = w' := by
  obtain ⟨m, hm⟩ : ∃ m : Nat, m = min s.size 40 := ⟨_, rfl⟩
  have HE := Lib.hid (show detailT s = s.extract 0 m by unfold detailT; rw [hm])
  have h1 : min (s.size : Int) 40 = (m : Int) := by omega
  have h2 : m ≤ s.size := by omega
  clear hm
  go_enter Try.func37, Try.ntmps37
  go_wp2
  go_ret
  exact ⟨by rw [HE.out]; rfl, rfl⟩
theorem ref_detail_any (s : ByteArray) (w : World) (hs : s.size ≤ 400) : Calls Try.prog 38 #[.string s] w fun e w' => e = .returned (.string (detailT s)) ∧ w = w' := by
  obtain ⟨m, hm⟩ : ∃ m : Nat, m = min s.size 40 := ⟨_, rfl⟩
  have HE := Lib.hid (show detailT s = s.extract 0 m by unfold detailT; rw [hm])
  have h1 : min (s.size : Int) 40 = (m : Int) := by omega
  have h2 : m ≤ s.size := by omega
  clear hm
  go_enter Try.func38, Try.ntmps38
  go_wp2
  go_ret
  exact ⟨by rw [HE.out]; rfl, rfl⟩
end Go.Proofs.Ytkohpijpipcajaa
