import Derived.Test.YtocdabmfcbmpaaaGreatDoorUA5
import Derived.Test.YtocdabmfcbmpaaaGreatDoorUA3
namespace Go.Proofs.YtocdabmfcbmpaaaGreatDoor
open Go.RowKit
set_option linter.unusedVariables false
set_option linter.unusedSimpArgs false

/-! ### the reference's Start -/
theorem rStart_far {t : Int} (s : ByteArray) (hi : inT' t = false) (w : World) : Calls Tryz.prog 13 #[I t, .string s] w fun e w' => e = .returned (.tuple #[I 0, E 7]) ∧ w = w' := by
  have H27 := Lib.hid (fun w => right_h hi w)
  clear hi
  go_enter Tryz.func13, Tryz.ntmps13
  go_wp2_with (go_at_call 27; (with_reducible refine (H27.out _).mono ?_); rintro e w' ⟨rfl, rfl⟩)
  go_ret2
  exact ⟨rfl, rfl⟩
theorem rStart_name {t : Int} {s : ByteArray} (hi : inT' t = true) (hu : unF s unitL 0 = none) (w : World) : Calls Tryz.prog 13 #[I t, .string s] w fun e w' => e = .returned (.tuple #[I 0, E 5]) ∧ w = w' := by
  have H27 := Lib.hid (fun w => right_h hi w)
  have H28 := Lib.hid (fun w => ru_no hu w)
  clear hi hu
  go_enter Tryz.func13, Tryz.ntmps13
  go_wp2_with (first | (go_at_call 27; (with_reducible refine (H27.out _).mono ?_); rintro e w' ⟨rfl, rfl⟩) | (go_at_call 28; (with_reducible refine (H28.out _).mono ?_); rintro e w' ⟨rfl, rfl⟩))
  go_ret2
  exact ⟨rfl, rfl⟩
set_option maxRecDepth 100000 in
theorem rStart_small {t : Int} {s : ByteArray} {u : Nat} (hi : inT' t = true) (hu : unF s unitL 0 = some u) (h5 : u < 5) (w : World) : Calls Tryz.prog 13 #[I t, .string s] w fun e w' => e = .returned (.tuple #[I (stI t u), E 0]) ∧ Below w.heap.size w w' := by
  have ht := inB_iff.1 hi
  have hl := len_bd u
  have HE : Hid (stI t u = t - (t + 62135596800) % lenI u) := Lib.hid (by unfold stI; rw [if_pos h5])
  have hbd := st_bd (t := t) (u := u) (by omega) ht.1 ht.2
  have H27 := Lib.hid (fun w => right_h hi w)
  have H28 := Lib.hid (fun w => ru_yes hu w)
  rw [show rlI u = lenI u by unfold rlI; rw [if_pos h5]] at H28
  have HD := Lib.hid (fun w => ref_date_any t w ht.1 ht.2)
  have hs := un_short hu h5
  have cy : (s.toList == [121, 101, 97, 114]) = false := by have := bytes_ne hs.2; rw [show ByteArray.toList ⟨#[121, 101, 97, 114]⟩ = [121, 101, 97, 114] from by simp [ByteArray.toList_eq]] at this; exact this
  have cm : (s.toList == [109, 111, 110, 116, 104]) = false := by have := bytes_ne hs.1; rw [show ByteArray.toList ⟨#[109, 111, 110, 116, 104]⟩ = [109, 111, 110, 116, 104] from by simp [ByteArray.toList_eq]] at this; exact this
  rw [HE.out] at hbd ⊢
  clear hi hu HE hs
  generalize lenI u = l at *
  have hl0 : l ≠ 0 := by omega
  obtain ⟨r, hr⟩ : ∃ r, (t + 62135596800) % l = r := ⟨_, rfl⟩
  rw [hr] at hbd ⊢
  have hr0 : 0 ≤ r := by rw [← hr]; exact Int.emod_nonneg _ hl0
  have hsub : t - -62135596800 = t + 62135596800 := by omega
  have htm : (t + 62135596800).tmod l = r := by rw [Int.tmod_eq_emod_of_nonneg (by omega)]; exact hr
  go_enter Tryz.func13, Tryz.ntmps13
  go_wp2_with (first | (go_at_call 27; (with_reducible refine (H27.out _).mono ?_); rintro e w' ⟨rfl, rfl⟩) | (go_at_call 28; (with_reducible refine (H28.out _).mono ?_); rintro e w' ⟨rfl, rfl⟩) | (go_at_call 30; (with_reducible refine (HD.out _).mono ?_); rintro e W1 ⟨rfl, hb1⟩; have HB1 := Lib.hid hb1; clear hb1))
  go_ret2
  exact ⟨rfl, HB1.out.alloc HB1.out.size _⟩
theorem nu_tm {y m : Int} (h1 : 1 ≤ m) (h2 : m ≤ 12) : -62135596800 + nuI y m 1 * 86400 = tmI y m 1 0 0 0 := by
  unfold tmI; rw [dn_nu h1 h2]; omega
set_option maxRecDepth 100000 in
theorem rStart_m5 {t : Int} (hi : inT' t = true) (w : World) : Calls Tryz.prog 13 #[I t, .string ⟨#[109, 111, 110, 116, 104]⟩] w fun e w' => e = .returned (.tuple #[I (stI t 5), E 0]) ∧ Below w.heap.size w w' := by
  have ht := inB_iff.1 hi
  have hp := parts_bd ht.1 ht.2
  have HE : Hid (stI t 5 = -62135596800 + nuI (dYI (t / 86400)) (dMI (t / 86400)) 1 * 86400) := Lib.hid (by rw [nu_tm (by omega) (by omega)]; unfold stI; rw [if_neg (by decide), if_pos rfl])
  have hnb := nu_bd hp.1 (dt_one (y := dYI (t / 86400)) (m := dMI (t / 86400)) (by omega) (by omega))
  have H27 := Lib.hid (fun w => right_h hi w)
  have H28 := Lib.hid (fun w => ru_yes un_5 w)
  have HD := Lib.hid (fun w => ref_date_any t w ht.1 ht.2)
  rw [show dateV t = D6 (dYI (t / 86400)) (dMI (t / 86400)) (dDI (t / 86400)) (t % 86400 / 3600) (t % 86400 / 60 % 60) (t % 86400 % 60) from rfl] at HD
  rw [HE.out]
  clear hi HE
  generalize dYI (t / 86400) = Y0 at *
  generalize dMI (t / 86400) = M0 at *
  generalize dDI (t / 86400) = D at *
  generalize t % 86400 / 3600 = x3 at *
  generalize t % 86400 / 60 % 60 = x4 at *
  generalize t % 86400 % 60 = x5 at *
  have HN := Lib.hid (fun w => number_any Y0 M0 1 w (by omega) (by omega) (by omega) (by omega) (by omega) (by omega))
  generalize nuI Y0 M0 1 = n at *
  go_enter Tryz.func13, Tryz.ntmps13
  go_wp2_with (first | (go_at_call 27; (with_reducible refine (H27.out _).mono ?_); rintro e w' ⟨rfl, rfl⟩) | (go_at_call 28; (with_reducible refine (H28.out _).mono ?_); rintro e w' ⟨rfl, rfl⟩) | (go_at_call 30; (with_reducible refine (HD.out _).mono ?_); rintro e W1 ⟨rfl, hb1⟩; have HB1 := Lib.hid hb1; clear hb1) | (go_at_call 35; (with_reducible refine (HN.out _).mono ?_); rintro e w' ⟨rfl, rfl⟩))
  go_ret2
  exact ⟨rfl, HB1.out.alloc HB1.out.size _⟩
set_option maxRecDepth 100000 in
theorem rStart_m6 {t : Int} (hi : inT' t = true) (w : World) : Calls Tryz.prog 13 #[I t, .string ⟨#[121, 101, 97, 114]⟩] w fun e w' => e = .returned (.tuple #[I (stI t 6), E 0]) ∧ Below w.heap.size w w' := by
  have ht := inB_iff.1 hi
  have hp := parts_bd ht.1 ht.2
  have HE : Hid (stI t 6 = -62135596800 + nuI (dYI (t / 86400)) 1 1 * 86400) := Lib.hid (by rw [nu_tm (by omega) (by omega)]; unfold stI; rw [if_neg (by decide), if_neg (by decide)])
  have hnb := nu_bd hp.1 (dt_one (y := dYI (t / 86400)) (m := 1) (by omega) (by omega))
  have H27 := Lib.hid (fun w => right_h hi w)
  have H28 := Lib.hid (fun w => ru_yes un_6 w)
  have HD := Lib.hid (fun w => ref_date_any t w ht.1 ht.2)
  rw [show dateV t = D6 (dYI (t / 86400)) (dMI (t / 86400)) (dDI (t / 86400)) (t % 86400 / 3600) (t % 86400 / 60 % 60) (t % 86400 % 60) from rfl] at HD
  rw [HE.out]
  clear hi HE
  generalize dYI (t / 86400) = Y0 at *
  generalize dMI (t / 86400) = M0 at *
  generalize dDI (t / 86400) = D at *
  generalize t % 86400 / 3600 = x3 at *
  generalize t % 86400 / 60 % 60 = x4 at *
  generalize t % 86400 % 60 = x5 at *
  have HN := Lib.hid (fun w => number_any Y0 1 1 w (by omega) (by omega) (by omega) (by omega) (by omega) (by omega))
  generalize nuI Y0 1 1 = n at *
  go_enter Tryz.func13, Tryz.ntmps13
  go_wp2_with (first | (go_at_call 27; (with_reducible refine (H27.out _).mono ?_); rintro e w' ⟨rfl, rfl⟩) | (go_at_call 28; (with_reducible refine (H28.out _).mono ?_); rintro e w' ⟨rfl, rfl⟩) | (go_at_call 30; (with_reducible refine (HD.out _).mono ?_); rintro e W1 ⟨rfl, hb1⟩; have HB1 := Lib.hid hb1; clear hb1) | (go_at_call 35; (with_reducible refine (HN.out _).mono ?_); rintro e w' ⟨rfl, rfl⟩))
  go_ret2
  exact ⟨rfl, HB1.out.alloc HB1.out.size _⟩
theorem rStart_any (t : Int) (s : ByteArray) (w : World) : Calls Tryz.prog 13 #[I t, .string s] w fun e w' => e = .returned (.tuple #[I (stX t s).1, E (stX t s).2]) ∧ Below w.heap.size w w' := by
  cases hi : inT' t
  · rw [show stX t s = (0, 7) by unfold stX; rw [if_neg (by rw [hi]; decide)]]
    exact (rStart_far s hi w).mono fun e w' ⟨he, hw⟩ => ⟨he, hw ▸ Below.refl _ _⟩
  cases hu : unF s unitL 0 with
  | none =>
    rw [show stX t s = (0, 5) by unfold stX; rw [if_pos hi, hu]]
    exact (rStart_name hi hu w).mono fun e w' ⟨he, hw⟩ => ⟨he, hw ▸ Below.refl _ _⟩
  | some u =>
    rw [show stX t s = (stI t u, 0) by unfold stX; rw [if_pos hi, hu]]
    have hl : u < 7 := by simpa [unitL] using unF_lt s unitL 0 u hu
    by_cases h5 : u < 5
    · exact rStart_small hi hu h5 w
    · have : u = 5 ∨ u = 6 := by omega
      rcases this with rfl | rfl
      · rw [un_month hu]; exact rStart_m5 hi w
      · rw [un_year hu]; exact rStart_m6 hi w
end Go.Proofs.YtocdabmfcbmpaaaGreatDoor
