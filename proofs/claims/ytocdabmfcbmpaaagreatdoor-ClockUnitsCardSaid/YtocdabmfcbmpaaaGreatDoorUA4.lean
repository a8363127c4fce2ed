import Derived.Test.YtocdabmfcbmpaaaGreatDoorUA2
namespace Go.Proofs.YtocdabmfcbmpaaaGreatDoor
open Go.RowKit
set_option linter.unusedVariables false
set_option linter.unusedSimpArgs false

/-! ### the reference's Add -/
abbrev inN (n : Int) : Bool := inB n (-400000000000) 400000000000
theorem rAdd_far {t : Int} (n : Int) (s : ByteArray) (hi : inT' t = false) (w : World) : Calls Tryz.prog 9 #[I t, I n, .string s] w fun e w' => e = .returned (.tuple #[I 0, E 7]) ∧ w = w' := by
  have H27 := Lib.hid (fun w => right_h hi w)
  go_enter Tryz.func9, Tryz.ntmps9
  go_wp2_with (go_at_call 27; (with_reducible refine (H27.out _).mono ?_); rintro e w' ⟨rfl, rfl⟩)
  go_ret2
  exact ⟨rfl, rfl⟩
theorem rAdd_name {t : Int} (n : Int) {s : ByteArray} (hi : inT' t = true) (hu : unF s unitL 0 = none) (w : World) : Calls Tryz.prog 9 #[I t, I n, .string s] w fun e w' => e = .returned (.tuple #[I 0, E 5]) ∧ w = w' := by
  have H27 := Lib.hid (fun w => right_h hi w)
  have H28 := Lib.hid (fun w => ru_no hu w)
  clear hi hu
  go_enter Tryz.func9, Tryz.ntmps9
  go_wp2_with (first | (go_at_call 27; (with_reducible refine (H27.out _).mono ?_); rintro e w' ⟨rfl, rfl⟩) | (go_at_call 28; (with_reducible refine (H28.out _).mono ?_); rintro e w' ⟨rfl, rfl⟩))
  go_ret2
  exact ⟨rfl, rfl⟩
theorem rAdd_step {t n : Int} {s : ByteArray} {u : Nat} (hi : inT' t = true) (hu : unF s unitL 0 = some u) (hn : inN n = false) (w : World) : Calls Tryz.prog 9 #[I t, I n, .string s] w fun e w' => e = .returned (.tuple #[I 0, E 7]) ∧ w = w' := by
  have H27 := Lib.hid (fun w => right_h hi w)
  have H28 := Lib.hid (fun w => ru_yes hu w)
  have H29 := Lib.hid (fun w => in_h hn w)
  clear hi hu hn
  go_enter Tryz.func9, Tryz.ntmps9
  go_wp2_with (first | (go_at_call 27; (with_reducible refine (H27.out _).mono ?_); rintro e w' ⟨rfl, rfl⟩) | (go_at_call 28; (with_reducible refine (H28.out _).mono ?_); rintro e w' ⟨rfl, rfl⟩) | (go_at_call 29; (with_reducible refine (H29.out _).mono ?_); rintro e w' ⟨rfl, rfl⟩))
  go_ret2
  exact ⟨rfl, rfl⟩
theorem rAdd_small {t n : Int} {s : ByteArray} {u : Nat} (hi : inT' t = true) (hu : unF s unitL 0 = some u) (hn : inN n = true) (h5 : u < 5) (w : World) : Calls Tryz.prog 9 #[I t, I n, .string s] w fun e w' => e = .returned (.tuple #[I (addX t n s).1, E (addX t n s).2]) ∧ w = w' := by
  have hl := len_bd u
  have hn' := inB_iff.1 hn
  have hi' := inB_iff.1 hi
  have hp1 : n * lenI u ≤ 400000000000 * 604800 := by
    by_cases h0 : 0 ≤ n
    · exact Int.mul_le_mul (by omega) hl.2 (by omega) (by omega)
    · have := Int.mul_nonneg (show 0 ≤ -n by omega) (show 0 ≤ lenI u by omega)
      rw [Int.neg_mul] at this; omega
  have hp2 : -(400000000000 * 604800) ≤ n * lenI u := by
    by_cases h0 : 0 ≤ n
    · have := Int.mul_nonneg h0 (show 0 ≤ lenI u by omega); omega
    · have := Int.mul_le_mul (show -n ≤ 400000000000 by omega) hl.2 (by omega) (by omega)
      rw [Int.neg_mul] at this; omega
  have hge : ∀ m : Int, 0 ≤ m → m ≤ m * lenI u := fun m hm => by
    have := Int.mul_le_mul_of_nonneg_left (show 1 ≤ lenI u by omega) hm
    omega
  have HA : Hid (addX t n s = if inT' (t + n * lenI u) = true then (t + n * lenI u, 0) else (0, 7)) := Lib.hid (by
    unfold addX
    rw [if_pos hi, hu]
    simp only
    rw [add_less h5]
    by_cases hr : inT' (t + n * lenI u) = true
    · have hb := inB_iff.1 hr
      rw [if_pos hr, if_pos]
      refine ⟨?_, ?_, hb.1, hb.2⟩
      · by_cases h0 : 0 ≤ n
        · have := hge n h0; omega
        · omega
      · by_cases h0 : 0 ≤ -n
        · have := hge (-n) h0; rw [Int.neg_mul] at this; omega
        · omega
    · rw [if_neg hr, if_neg]
      intro hc
      exact hr (inB_iff.2 ⟨hc.2.2.1, hc.2.2.2⟩))
  have hr5 : rlI u = lenI u := by unfold rlI; rw [if_pos h5]
  have H27 := Lib.hid (fun w => right_h hi w)
  have H28 := Lib.hid (fun w => ru_yes hu w)
  rw [hr5] at H28
  have H29 := Lib.hid (fun w => in_h hn w)
  clear hge hu hn hr5 hi
  generalize lenI u = l at *
  obtain ⟨p, hp⟩ : ∃ p, n * l = p := ⟨_, rfl⟩
  rw [hp] at hp1 hp2 HA
  have hl0 : (0 : Int) < l := by omega
  have w1 : IntKind.i64.wrap p = p := IntWalk.i64_in _ (by omega)
  have w2 : IntKind.i64.wrap (t + p) = t + p := IntWalk.i64_in _ (by omega)
  rw [HA.out]
  clear HA
  cases hr : inT' (t + p)
  · have H27b := Lib.hid (fun w => right_h hr w)
    rw [if_neg (by decide)]
    clear hr
    go_enter Tryz.func9, Tryz.ntmps9
    go_wp2_with (first | (go_at_call 27; (with_reducible refine (H27.out _).mono ?_); rintro e w' ⟨rfl, rfl⟩) | (go_at_call 28; (with_reducible refine (H28.out _).mono ?_); rintro e w' ⟨rfl, rfl⟩) | (go_at_call 29; (with_reducible refine (H29.out _).mono ?_); rintro e w' ⟨rfl, rfl⟩) | (go_at_call 27; (with_reducible refine (H27b.out _).mono ?_); rintro e w' ⟨rfl, rfl⟩))
    go_ret2
    exact ⟨rfl, rfl⟩
  · have H27b := Lib.hid (fun w => right_h hr w)
    rw [if_pos rfl]
    clear hr
    go_enter Tryz.func9, Tryz.ntmps9
    go_wp2_with (first | (go_at_call 27; (with_reducible refine (H27.out _).mono ?_); rintro e w' ⟨rfl, rfl⟩) | (go_at_call 28; (with_reducible refine (H28.out _).mono ?_); rintro e w' ⟨rfl, rfl⟩) | (go_at_call 29; (with_reducible refine (H29.out _).mono ?_); rintro e w' ⟨rfl, rfl⟩) | (go_at_call 27; (with_reducible refine (H27b.out _).mono ?_); rintro e w' ⟨rfl, rfl⟩))
    go_ret2
    exact ⟨rfl, rfl⟩
set_option maxRecDepth 100000 in
set_option maxHeartbeats 2000000 in
theorem rAdd_m5 {t n : Int} (hi : inT' t = true) (hn : inN n = true) (w : World) : Calls Tryz.prog 9 #[I t, I n, .string ⟨#[109, 111, 110, 116, 104]⟩] w fun e w' => e = .returned (.tuple #[I (addX t n ⟨#[109, 111, 110, 116, 104]⟩).1, E (addX t n ⟨#[109, 111, 110, 116, 104]⟩).2]) ∧ Below w.heap.size w w' := by
  have hn' := inB_iff.1 hn
  have hi' := inB_iff.1 hi
  have H27 := Lib.hid (fun w => right_h hi w)
  have H28 := Lib.hid (fun w => ru_yes un_5 w)
  rw [show rlI 5 = 0 from rfl] at H28
  have H29 := Lib.hid (fun w => in_h hn w)
  have hp := parts_bd hi'.1 hi'.2
  have hm := mi_bd hi'.1 hi'.2
  have HD := Lib.hid (fun w => ref_date_any t w hi'.1 hi'.2)
  have hmi : miI t = dYI (t / 86400) * 12 + dMI (t / 86400) - 1 := rfl
  have hday := day_pos (t / 86400)
  obtain ⟨i, HI⟩ : ∃ i, Hid (miI t + n * 1 = i) := ⟨_, Lib.hid rfl⟩
  have hii := HI.out
  have HA : Hid (addX t n ⟨#[109, 111, 110, 116, 104]⟩ = if 12 ≤ i ∧ i < 120000 then (moT t i, 0) else (0, 7)) := Lib.hid (by
    unfold addX
    rw [if_pos hi, un_5]
    simp only
    rw [add_5, HI.out]
    by_cases hc : 12 ≤ i ∧ i < 120000
    · rw [if_pos hc, if_pos (by omega)]
    · rw [if_neg hc, if_neg (by omega)])
  rw [HA.out]
  by_cases hv : 12 ≤ i ∧ i < 120000
  · rw [if_pos hv]
    obtain ⟨Q, HQ⟩ : ∃ Q, Hid (i / 12 = Q) := ⟨_, Lib.hid rfl⟩
    obtain ⟨M, HM⟩ : ∃ M, Hid (i % 12 + 1 = M) := ⟨_, Lib.hid rfl⟩
    have hQ := HQ.out
    have hM := HM.out
    have m0 : 1 ≤ M := by omega
    have m1 : M ≤ 12 := by omega
    have q0 : 1 ≤ Q := by omega
    have q1 : Q ≤ 9999 := by omega
    have hml := ml_bd Q M
    have hdt := mo_dt (t := t) (i := i) hday
    rw [hQ, hM] at hdt
    have hMo : Hid (moT t i = tmI Q M (min (dDI (t / 86400)) (mlI Q M)) (t % 86400 / 3600) (t % 86400 / 60 % 60) (t % 86400 % 60)) := Lib.hid (by unfold moT; rw [HQ.out, HM.out])
    rw [show dateV t = D6 (dYI (t / 86400)) (dMI (t / 86400)) (dDI (t / 86400)) (t % 86400 / 3600) (t % 86400 / 60 % 60) (t % 86400 % 60) from rfl] at HD
    generalize dYI (t / 86400) = Y0 at *
    generalize dMI (t / 86400) = M0 at *
    generalize dDI (t / 86400) = D at *
    generalize t % 86400 / 3600 = x3 at *
    generalize t % 86400 / 60 % 60 = x4 at *
    generalize t % 86400 % 60 = x5 at *
    have e1 : 12 * Y0 + M0 - 1 + n = i := by omega
    have H31 := Lib.hid (fun w => length_any Q M w (by omega) (by omega))
    obtain ⟨Dm, HDm⟩ : ∃ Dm, Hid (min D (mlI Q M) = Dm) := ⟨_, Lib.hid rfl⟩
    have hvd : vdB Q M Dm x3 x4 x5 = true := decide_eq_true (by rw [← HDm.out]; exact ⟨⟨q0, q1⟩, hdt, by omega, by omega, by omega⟩)
    have H32 := Lib.hid (fun w => rTime_ok hvd w)
    rw [HDm.out] at hMo
    rw [← hMo.out] at H32
    have t12 : i.tdiv 12 = Q := by rw [Int.tdiv_eq_ediv_of_nonneg (by omega)]; exact hQ
    have m12 : i.tmod 12 + 1 = M := by rw [Int.tmod_eq_emod_of_nonneg (by omega)]; exact hM
    have m13 : i % 12 + 1 = M := HM.out
    have c1 : decide (i < 12) = false := decide_eq_false (by omega)
    have c2 : decide (120000 ≤ i) = false := decide_eq_false (by omega)
    generalize moT t i = R at *
    clear HA hMo hmi hQ hM hm hdt hvd hi hn
    have hmin := HDm.out
    generalize mlI Q M = ml at *
    go_enter Tryz.func9, Tryz.ntmps9
    go_upto_region 20 with (first | (go_at_call 27; (with_reducible refine (H27.out _).mono ?_); rintro e w' ⟨rfl, rfl⟩) | (go_at_call 28; (with_reducible refine (H28.out _).mono ?_); rintro e w' ⟨rfl, rfl⟩) | (go_at_call 29; (with_reducible refine (H29.out _).mono ?_); rintro e w' ⟨rfl, rfl⟩) | (go_at_call 30; (with_reducible refine (HD.out _).mono ?_); rintro e W1 ⟨rfl, hb1⟩; have HB1 := Lib.hid hb1; clear hb1))
    go_region_with ((go_at_call 31; (with_reducible refine (H31.out _).mono ?_); rintro e w' ⟨rfl, rfl⟩))
    clear hmin
    all_goals
      go_wp2_with ((go_at_call 32; (with_reducible refine (H32.out _).mono ?_); rintro e W2 ⟨rfl, hb2⟩))
      go_ret2
      exact ⟨rfl, below_draw HB1.out hb2⟩
  · rw [if_neg hv]
    rw [show dateV t = D6 (dYI (t / 86400)) (dMI (t / 86400)) (dDI (t / 86400)) (t % 86400 / 3600) (t % 86400 / 60 % 60) (t % 86400 % 60) from rfl] at HD
    generalize dYI (t / 86400) = Y0 at *
    generalize dMI (t / 86400) = M0 at *
    generalize dDI (t / 86400) = D at *
    generalize t % 86400 / 3600 = x3 at *
    generalize t % 86400 / 60 % 60 = x4 at *
    generalize t % 86400 % 60 = x5 at *
    have e1 : 12 * Y0 + M0 - 1 + n = i := by omega
    clear HA hmi hm hi hn
    by_cases hlo : i < 12
    · go_enter Tryz.func9, Tryz.ntmps9
      go_wp2_with (first | (go_at_call 27; (with_reducible refine (H27.out _).mono ?_); rintro e w' ⟨rfl, rfl⟩) | (go_at_call 28; (with_reducible refine (H28.out _).mono ?_); rintro e w' ⟨rfl, rfl⟩) | (go_at_call 29; (with_reducible refine (H29.out _).mono ?_); rintro e w' ⟨rfl, rfl⟩) | (go_at_call 30; (with_reducible refine (HD.out _).mono ?_); rintro e W1 ⟨rfl, hb1⟩; have HB1 := Lib.hid hb1; clear hb1))
      go_ret2
      exact ⟨rfl, HB1.out.alloc HB1.out.size _⟩
    · have c1 : decide (i < 12) = false := decide_eq_false (by omega)
      have c2 : 120000 ≤ i := by omega
      go_enter Tryz.func9, Tryz.ntmps9
      go_wp2_with (first | (go_at_call 27; (with_reducible refine (H27.out _).mono ?_); rintro e w' ⟨rfl, rfl⟩) | (go_at_call 28; (with_reducible refine (H28.out _).mono ?_); rintro e w' ⟨rfl, rfl⟩) | (go_at_call 29; (with_reducible refine (H29.out _).mono ?_); rintro e w' ⟨rfl, rfl⟩) | (go_at_call 30; (with_reducible refine (HD.out _).mono ?_); rintro e W1 ⟨rfl, hb1⟩; have HB1 := Lib.hid hb1; clear hb1))
      go_ret2
      exact ⟨rfl, HB1.out.alloc HB1.out.size _⟩
set_option maxRecDepth 100000 in
set_option maxHeartbeats 2000000 in
theorem rAdd_m6 {t n : Int} (hi : inT' t = true) (hn : inN n = true) (w : World) : Calls Tryz.prog 9 #[I t, I n, .string ⟨#[121, 101, 97, 114]⟩] w fun e w' => e = .returned (.tuple #[I (addX t n ⟨#[121, 101, 97, 114]⟩).1, E (addX t n ⟨#[121, 101, 97, 114]⟩).2]) ∧ Below w.heap.size w w' := by
  have hn' := inB_iff.1 hn
  have hi' := inB_iff.1 hi
  have H27 := Lib.hid (fun w => right_h hi w)
  have H28 := Lib.hid (fun w => ru_yes un_6 w)
  rw [show rlI 6 = 0 from rfl] at H28
  have H29 := Lib.hid (fun w => in_h hn w)
  have hp := parts_bd hi'.1 hi'.2
  have hm := mi_bd hi'.1 hi'.2
  have HD := Lib.hid (fun w => ref_date_any t w hi'.1 hi'.2)
  have hmi : miI t = dYI (t / 86400) * 12 + dMI (t / 86400) - 1 := rfl
  have hday := day_pos (t / 86400)
  obtain ⟨i, HI⟩ : ∃ i, Hid (miI t + n * 12 = i) := ⟨_, Lib.hid rfl⟩
  have hii := HI.out
  have HA : Hid (addX t n ⟨#[121, 101, 97, 114]⟩ = if 12 ≤ i ∧ i < 120000 then (moT t i, 0) else (0, 7)) := Lib.hid (by
    unfold addX
    rw [if_pos hi, un_6]
    simp only
    rw [add_6, HI.out]
    by_cases hc : 12 ≤ i ∧ i < 120000
    · rw [if_pos hc, if_pos (by omega)]
    · rw [if_neg hc, if_neg (by omega)])
  rw [HA.out]
  by_cases hv : 12 ≤ i ∧ i < 120000
  · rw [if_pos hv]
    obtain ⟨Q, HQ⟩ : ∃ Q, Hid (i / 12 = Q) := ⟨_, Lib.hid rfl⟩
    obtain ⟨M, HM⟩ : ∃ M, Hid (i % 12 + 1 = M) := ⟨_, Lib.hid rfl⟩
    have hQ := HQ.out
    have hM := HM.out
    have m0 : 1 ≤ M := by omega
    have m1 : M ≤ 12 := by omega
    have q0 : 1 ≤ Q := by omega
    have q1 : Q ≤ 9999 := by omega
    have hml := ml_bd Q M
    have hdt := mo_dt (t := t) (i := i) hday
    rw [hQ, hM] at hdt
    have hMo : Hid (moT t i = tmI Q M (min (dDI (t / 86400)) (mlI Q M)) (t % 86400 / 3600) (t % 86400 / 60 % 60) (t % 86400 % 60)) := Lib.hid (by unfold moT; rw [HQ.out, HM.out])
    rw [show dateV t = D6 (dYI (t / 86400)) (dMI (t / 86400)) (dDI (t / 86400)) (t % 86400 / 3600) (t % 86400 / 60 % 60) (t % 86400 % 60) from rfl] at HD
    generalize dYI (t / 86400) = Y0 at *
    generalize dMI (t / 86400) = M0 at *
    generalize dDI (t / 86400) = D at *
    generalize t % 86400 / 3600 = x3 at *
    generalize t % 86400 / 60 % 60 = x4 at *
    generalize t % 86400 % 60 = x5 at *
    have e1 : 12 * Y0 + M0 - 1 + n * 12 = i := by omega
    have H31 := Lib.hid (fun w => length_any Q M w (by omega) (by omega))
    obtain ⟨Dm, HDm⟩ : ∃ Dm, Hid (min D (mlI Q M) = Dm) := ⟨_, Lib.hid rfl⟩
    have hvd : vdB Q M Dm x3 x4 x5 = true := decide_eq_true (by rw [← HDm.out]; exact ⟨⟨q0, q1⟩, hdt, by omega, by omega, by omega⟩)
    have H32 := Lib.hid (fun w => rTime_ok hvd w)
    rw [HDm.out] at hMo
    rw [← hMo.out] at H32
    have t12 : i.tdiv 12 = Q := by rw [Int.tdiv_eq_ediv_of_nonneg (by omega)]; exact hQ
    have m12 : i.tmod 12 + 1 = M := by rw [Int.tmod_eq_emod_of_nonneg (by omega)]; exact hM
    have m13 : i % 12 + 1 = M := HM.out
    have c1 : decide (i < 12) = false := decide_eq_false (by omega)
    have c2 : decide (120000 ≤ i) = false := decide_eq_false (by omega)
    generalize moT t i = R at *
    clear HA hMo hmi hQ hM hm hdt hvd hi hn
    have hmin := HDm.out
    generalize mlI Q M = ml at *
    go_enter Tryz.func9, Tryz.ntmps9
    go_upto_region 20 with (first | (go_at_call 27; (with_reducible refine (H27.out _).mono ?_); rintro e w' ⟨rfl, rfl⟩) | (go_at_call 28; (with_reducible refine (H28.out _).mono ?_); rintro e w' ⟨rfl, rfl⟩) | (go_at_call 29; (with_reducible refine (H29.out _).mono ?_); rintro e w' ⟨rfl, rfl⟩) | (go_at_call 30; (with_reducible refine (HD.out _).mono ?_); rintro e W1 ⟨rfl, hb1⟩; have HB1 := Lib.hid hb1; clear hb1))
    go_region_with ((go_at_call 31; (with_reducible refine (H31.out _).mono ?_); rintro e w' ⟨rfl, rfl⟩))
    clear hmin
    all_goals
      go_wp2_with ((go_at_call 32; (with_reducible refine (H32.out _).mono ?_); rintro e W2 ⟨rfl, hb2⟩))
      go_ret2
      exact ⟨rfl, below_draw HB1.out hb2⟩
  · rw [if_neg hv]
    rw [show dateV t = D6 (dYI (t / 86400)) (dMI (t / 86400)) (dDI (t / 86400)) (t % 86400 / 3600) (t % 86400 / 60 % 60) (t % 86400 % 60) from rfl] at HD
    generalize dYI (t / 86400) = Y0 at *
    generalize dMI (t / 86400) = M0 at *
    generalize dDI (t / 86400) = D at *
    generalize t % 86400 / 3600 = x3 at *
    generalize t % 86400 / 60 % 60 = x4 at *
    generalize t % 86400 % 60 = x5 at *
    have e1 : 12 * Y0 + M0 - 1 + n * 12 = i := by omega
    clear HA hmi hm hi hn
    by_cases hlo : i < 12
    · go_enter Tryz.func9, Tryz.ntmps9
      go_wp2_with (first | (go_at_call 27; (with_reducible refine (H27.out _).mono ?_); rintro e w' ⟨rfl, rfl⟩) | (go_at_call 28; (with_reducible refine (H28.out _).mono ?_); rintro e w' ⟨rfl, rfl⟩) | (go_at_call 29; (with_reducible refine (H29.out _).mono ?_); rintro e w' ⟨rfl, rfl⟩) | (go_at_call 30; (with_reducible refine (HD.out _).mono ?_); rintro e W1 ⟨rfl, hb1⟩; have HB1 := Lib.hid hb1; clear hb1))
      go_ret2
      exact ⟨rfl, HB1.out.alloc HB1.out.size _⟩
    · have c1 : decide (i < 12) = false := decide_eq_false (by omega)
      have c2 : 120000 ≤ i := by omega
      go_enter Tryz.func9, Tryz.ntmps9
      go_wp2_with (first | (go_at_call 27; (with_reducible refine (H27.out _).mono ?_); rintro e w' ⟨rfl, rfl⟩) | (go_at_call 28; (with_reducible refine (H28.out _).mono ?_); rintro e w' ⟨rfl, rfl⟩) | (go_at_call 29; (with_reducible refine (H29.out _).mono ?_); rintro e w' ⟨rfl, rfl⟩) | (go_at_call 30; (with_reducible refine (HD.out _).mono ?_); rintro e W1 ⟨rfl, hb1⟩; have HB1 := Lib.hid hb1; clear hb1))
      go_ret2
      exact ⟨rfl, HB1.out.alloc HB1.out.size _⟩
/-- the reference's Add tells the same. -/
theorem rAdd_any (t n : Int) (s : ByteArray) (w : World) : Calls Tryz.prog 9 #[I t, I n, .string s] w fun e w' => e = .returned (.tuple #[I (addX t n s).1, E (addX t n s).2]) ∧ Below w.heap.size w w' := by
  cases hi : inT' t
  · rw [show addX t n s = (0, 7) by unfold addX; rw [if_neg (by rw [hi]; decide)]]
    exact (rAdd_far n s hi w).mono fun e w' ⟨he, hw⟩ => ⟨he, hw ▸ Below.refl _ _⟩
  cases hu : unF s unitL 0 with
  | none =>
    rw [show addX t n s = (0, 5) by unfold addX; rw [if_pos hi, hu]]
    exact (rAdd_name n hi hu w).mono fun e w' ⟨he, hw⟩ => ⟨he, hw ▸ Below.refl _ _⟩
  | some u =>
    cases hn : inN n
    · have hi' := inB_iff.1 hi
      have hn' := not_in hn
      have : addI t n u = none := by
        by_cases h5 : u < 5
        · rw [add_less h5, if_neg (by omega)]
        · rw [add_big h5, if_neg (by omega)]
      rw [show addX t n s = (0, 7) by unfold addX; rw [if_pos hi, hu]; simp only; rw [this]]
      exact (rAdd_step hi hu hn w).mono fun e w' ⟨he, hw⟩ => ⟨he, hw ▸ Below.refl _ _⟩
    · have hl : u < 7 := by simpa [unitL] using unF_lt s unitL 0 u hu
      by_cases h5 : u < 5
      · exact (rAdd_small hi hu hn h5 w).mono fun e w' ⟨he, hw⟩ => ⟨he, hw ▸ Below.refl _ _⟩
      · have : u = 5 ∨ u = 6 := by omega
        rcases this with rfl | rfl
        · rw [un_month hu]; exact rAdd_m5 hi hn w
        · rw [un_year hu]; exact rAdd_m6 hi hn w
end Go.Proofs.YtocdabmfcbmpaaaGreatDoor
