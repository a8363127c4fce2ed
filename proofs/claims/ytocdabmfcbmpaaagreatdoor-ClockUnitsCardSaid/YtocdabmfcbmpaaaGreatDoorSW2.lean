import Derived.Test.YtocdabmfcbmpaaaGreatDoorSW1
namespace Go.Proofs.YtocdabmfcbmpaaaGreatDoor
open Go.RowKit
set_option linter.unusedVariables false
set_option linter.unusedSimpArgs false

theorem field_y (a0 a1 a2 a3 a4 a5 : Int) (w : World) : (Instr.field 41 (D6 a0 a1 a2 a3 a4 a5) 0).run Tryz.prog w = .ok (I a0) w := by kernel_rfl
set_option maxHeartbeats 1000000 in
theorem yearday_any (t : Int) (w : World) (t0 : -400000000000 ≤ t) (t1 : t ≤ 400000000000) : Calls Tryz.prog 80 #[I t] w fun e w' => e = .returned (I (ydI t)) ∧ Below w.heap.size w w' := by
  obtain ⟨N, HN⟩ : ∃ N, Hid (t / 86400 = N) := ⟨_, Lib.hid rfl⟩
  have n0 : -4700000 ≤ N := by rw [← HN.out]; omega
  have n1 : N ≤ 4700000 := by rw [← HN.out]; omega
  have hy := dYI_bd n0 n1
  have H1 : Hid (∀ w, Calls Tryz.prog 59 #[I t, I 86400] w fun e w' => e = .returned (I N) ∧ w = w') := Lib.hid fun w => by
    have := floor_any t 86400 w (by omega) (by omega) (by decide) (by decide)
    rwa [HN.out] at this
  have H2 := Lib.hid (fun w => dateOf_any t w (by omega) (by omega))
  have H3 := Lib.hid (fun w => dayNumber_any (dYI N) 1 1 (I 0) (I 0) (I 0) w hy.1 hy.2 (by omega) (by omega) (by omega) (by omega))
  have hb := yd_bd t
  have HE : Hid (ydI t = N - dnI (dYI N) 1 1 + 1) := Lib.hid (by unfold ydI; rw [HN.out])
  have hdn := dn_bd (y := dYI N) (m := 1) (d := 1) hy.1 hy.2 (by omega) (by omega) (by omega) (by omega)
  generalize dnI (dYI N) 1 1 = Z at *
  have hf := field_y (dYI (t / 86400)) (dMI (t / 86400)) (dDI (t / 86400)) (t % 86400 / 3600) (t % 86400 / 60 % 60) (t % 86400 % 60)
  have HYY : Hid (dYI (t / 86400) = dYI N) := Lib.hid (by rw [HN.out])
  rw [HYY.out] at hf
  rw [show dateV t = D6 (dYI N) (dMI (t / 86400)) (dDI (t / 86400)) (t % 86400 / 3600) (t % 86400 / 60 % 60) (t % 86400 % 60) by unfold dateV; rw [HYY.out]] at H2
  generalize dYI N = Y at *
  generalize dMI (t / 86400) = x1 at *
  generalize dDI (t / 86400) = x2 at *
  generalize t % 86400 / 3600 = x3 at *
  generalize t % 86400 / 60 % 60 = x4 at *
  generalize t % 86400 % 60 = x5 at *
  clear HYY
  go_enter Tryz.func80, Tryz.ntmps80
  go_wp2_with (first | (go_at_call 59; (with_reducible refine (H1.out _).mono ?_); rintro e w' ⟨rfl, rfl⟩) | (go_at_call 53; (with_reducible refine (H2.out _).mono ?_); rintro e W1 ⟨rfl, hb1⟩; have HB1 := Lib.hid hb1; clear hb1) | (go_at_call 125; (with_reducible refine (H3.out _).mono ?_); rintro e W2 ⟨rfl, hb2⟩; have HB2 := Lib.hid hb2; clear hb2))
  go_ret
  exact ⟨ret_int HE.out.symm, HB1.out.trans (HB2.out.mono HB1.out.size)⟩
set_option maxHeartbeats 1000000 in
theorem week_any (t : Int) (w : World) (t0 : -300000000000 ≤ t) (t1 : t ≤ 300000000000) : Calls Tryz.prog 82 #[I t] w fun e w' => e = .returned (.tuple #[I (wkY t), I (wkN t)]) ∧ Below w.heap.size w w' := by
  have hw := weekday_bd t
  have H1 := Lib.hid (fun w => weekday_any t w (by omega) (by omega))
  obtain ⟨d, HD⟩ : ∃ d, Hid (weekdayI t = d) := ⟨_, Lib.hid rfl⟩
  rw [HD.out] at hw H1
  obtain ⟨T, HT⟩ : ∃ T, Hid (thuI t = T) := ⟨_, Lib.hid rfl⟩
  have e1 : t + (4 - d) * 86400 = T := by rw [← HT.out, ← HD.out]; rfl
  have H2 := Lib.hid (fun w => dateOf_any T w (by omega) (by omega))
  have H3 := Lib.hid (fun w => yearday_any T w (by omega) (by omega))
  have hf := field_y (dYI (T / 86400)) (dMI (T / 86400)) (dDI (T / 86400)) (T % 86400 / 3600) (T % 86400 / 60 % 60) (T % 86400 % 60)
  have hyd := yd_bd T
  have HE1 : Hid (wkY t = dYI (T / 86400)) := Lib.hid (by unfold wkY; rw [HT.out])
  have HE2 : Hid (wkN t = (ydI T - 1) / 7 + 1) := Lib.hid (by unfold wkN; rw [HT.out])
  rw [HE1.out, HE2.out]
  generalize ydI T = yd at *
  rw [show dateV T = D6 (dYI (T / 86400)) (dMI (T / 86400)) (dDI (T / 86400)) (T % 86400 / 3600) (T % 86400 / 60 % 60) (T % 86400 % 60) from rfl] at H2
  generalize dYI (T / 86400) = Y at *
  generalize dMI (T / 86400) = x1 at *
  generalize dDI (T / 86400) = x2 at *
  generalize T % 86400 / 3600 = x3 at *
  generalize T % 86400 / 60 % 60 = x4 at *
  generalize T % 86400 % 60 = x5 at *
  clear HE1 HE2
  go_enter Tryz.func82, Tryz.ntmps82
  go_wp2_with (first | (go_at_call 67; (with_reducible refine (H1.out _).mono ?_); rintro e w' ⟨rfl, rfl⟩) | (go_at_call 53; (with_reducible refine (H2.out _).mono ?_); rintro e W1 ⟨rfl, hb1⟩; have HB1 := Lib.hid hb1; clear hb1) | (go_at_call 80; (with_reducible refine (H3.out _).mono ?_); rintro e W2 ⟨rfl, hb2⟩; have HB2 := Lib.hid hb2; clear hb2))
  go_ret2
  exact ⟨rfl, HB1.out.trans (HB2.out.mono HB1.out.size)⟩
theorem date_nu_eq {t : Int} (t0 : -62135596800 ≤ t) (t1 : t ≤ 253402300799) : nuI (dYI (t / 86400)) (dMI (t / 86400)) (dDI (t / 86400)) = t / 86400 + 719162 := nu_date _
set_option maxRecDepth 100000 in
set_option maxHeartbeats 1000000 in
theorem ref_yearday_any (t : Int) (w : World) (t0 : -62135596800 ≤ t) (t1 : t ≤ 253402300799) : Calls Tryz.prog 110 #[I t] w fun e w' => e = .returned (I (ydI t)) ∧ Below w.heap.size w w' := by
  have hp := parts_bd t0 t1
  have H1 := Lib.hid (fun w => ref_date_any t w t0 t1)
  have H2 := Lib.hid (fun w => number_any (dYI (t / 86400)) (dMI (t / 86400)) (dDI (t / 86400)) w (by omega) (by omega) (by omega) (by omega) (by omega) (by omega))
  have H3 := Lib.hid (fun w => number_any (dYI (t / 86400)) 1 1 w (by omega) (by omega) (by omega) (by omega) (by omega) (by omega))
  have hq : -62135596800 / 86400 ≤ t / 86400 ∧ t / 86400 ≤ 2932896 := by omega
  have hys := ys_bd (dYI (t / 86400)) (by omega) (by omega)
  have HE : Hid (ydI t = t / 86400 + 719162 - ysI (dYI (t / 86400)) + 1) := Lib.hid (yd_eq t)
  rw [nu_date] at H2
  rw [nu_first] at H3
  generalize ysI (dYI (t / 86400)) = Z at *
  obtain ⟨Q, HQ⟩ : ∃ Q, Hid (t / 86400 + 719162 = Q) := ⟨_, Lib.hid rfl⟩
  have q0 : 0 ≤ Q := by rw [← HQ.out]; omega
  have q1 : Q ≤ 4000000 := by rw [← HQ.out]; omega
  rw [HQ.out] at H2 HE
  rw [show dateV t = D6 (dYI (t / 86400)) (dMI (t / 86400)) (dDI (t / 86400)) (t % 86400 / 3600) (t % 86400 / 60 % 60) (t % 86400 % 60) from rfl] at H1
  clear hp hq HQ
  generalize dYI (t / 86400) = Y at *
  generalize dMI (t / 86400) = M at *
  generalize dDI (t / 86400) = D at *
  generalize t % 86400 / 3600 = x3 at *
  generalize t % 86400 / 60 % 60 = x4 at *
  generalize t % 86400 % 60 = x5 at *
  go_enter Tryz.func110, Tryz.ntmps110
  go_wp2_with ((go_at_call 30; (with_reducible refine (H1.out _).mono ?_); rintro e W1 ⟨rfl, hb1⟩; have HB1 := Lib.hid hb1; clear hb1))
  have w1 : IntKind.i64.wrap (Q - Z) = Q - Z := IntWalk.i64_in _ (by omega)
  have w2 : IntKind.i64.wrap (Q - Z + 1) = Q - Z + 1 := IntWalk.i64_in _ (by omega)
  go_quiet ((first | (go_at_call 35; with_reducible exact quiet_left (H2.out _)) | (go_at_call 35; with_reducible exact quiet_left (H3.out _))))
  clear w1 w2
  go_wp2
  go_ret
  exact ⟨ret_int HE.out.symm, below_drewN (HB1.out.alloc HB1.out.size _) _⟩
theorem thu_in {t : Int} (t0 : -62135596800 ≤ t) (t1 : t ≤ 253402300799) : -62135596800 ≤ thuI t ∧ thuI t ≤ 253402300799 := by
  unfold thuI weekdayI; omega
set_option maxHeartbeats 1000000 in
theorem ref_week_any (t : Int) (w : World) (t0 : -62135596800 ≤ t) (t1 : t ≤ 253402300799) : Calls Tryz.prog 111 #[I t] w fun e w' => e = .returned (.tuple #[I (wkY t), I (wkN t)]) ∧ Below w.heap.size w w' := by
  have hw := weekday_bd t
  have H1 := Lib.hid (fun w => ref_weekday_any t w t0 (by omega))
  rw [ref_weekday_eq] at H1
  have hth := thu_in t0 t1
  obtain ⟨d, HD⟩ : ∃ d, Hid (weekdayI t = d) := ⟨_, Lib.hid rfl⟩
  rw [HD.out] at hw H1
  obtain ⟨T, HT⟩ : ∃ T, Hid (thuI t = T) := ⟨_, Lib.hid rfl⟩
  rw [HT.out] at hth
  have e1 : t + (4 - d) * 86400 = T := by rw [← HT.out, ← HD.out]; rfl
  have H2 := Lib.hid (fun w => ref_date_any T w hth.1 hth.2)
  have H3 := Lib.hid (fun w => ref_yearday_any T w hth.1 hth.2)
  have hf := field_y (dYI (T / 86400)) (dMI (T / 86400)) (dDI (T / 86400)) (T % 86400 / 3600) (T % 86400 / 60 % 60) (T % 86400 % 60)
  have hyd := yd_bd T
  have HE1 : Hid (wkY t = dYI (T / 86400)) := Lib.hid (by unfold wkY; rw [HT.out])
  have HE2 : Hid (wkN t = (ydI T - 1) / 7 + 1) := Lib.hid (by unfold wkN; rw [HT.out])
  rw [HE1.out, HE2.out]
  generalize ydI T = yd at *
  rw [show dateV T = D6 (dYI (T / 86400)) (dMI (T / 86400)) (dDI (T / 86400)) (T % 86400 / 3600) (T % 86400 / 60 % 60) (T % 86400 % 60) from rfl] at H2
  generalize dYI (T / 86400) = Y at *
  generalize dMI (T / 86400) = x1 at *
  generalize dDI (T / 86400) = x2 at *
  generalize T % 86400 / 3600 = x3 at *
  generalize T % 86400 / 60 % 60 = x4 at *
  generalize T % 86400 % 60 = x5 at *
  clear HE1 HE2
  go_enter Tryz.func111, Tryz.ntmps111
  go_wp2_with (first | (go_at_call 56; (with_reducible refine (H1.out _).mono ?_); rintro e w' ⟨rfl, rfl⟩) | (go_at_call 30; (with_reducible refine (H2.out _).mono ?_); rintro e W1 ⟨rfl, hb1⟩; have HB1 := Lib.hid hb1; clear hb1) | (go_at_call 110; (with_reducible refine (H3.out _).mono ?_); rintro e W2 ⟨rfl, hb2⟩; have HB2 := Lib.hid hb2; clear hb2))
  go_ret2
  exact ⟨rfl, HB1.out.trans (HB2.out.mono HB1.out.size)⟩
end Go.Proofs.YtocdabmfcbmpaaaGreatDoor
