import Derived.Test.YtocdabmfcbmpaaaDoorSW2
namespace Go.Proofs.YtocdabmfcbmpaaaDoor
open Go.RowKit
set_option linter.unusedVariables false
set_option linter.unusedSimpArgs false

abbrev inT' (t : Int) : Bool := inB t (-62135596800) 253402300799
theorem ret3 {a b c d : Int} (h : a = b) (k : c = d) : Ending.returned (.tuple #[I a, I c, E 0]) = .returned (.tuple #[I b, I d, E 0]) := by rw [h, k]
theorem rWeekday_ok {t : Int} (h : inT' t = true) (w : World) : Calls Tryd.prog 20 #[I t] w fun e w' => e = .returned (.tuple #[I (weekdayI t), E 0]) ∧ w = w' := by
  have hb := inB_iff.1 h
  have H := Lib.hid (fun w => right_h h w)
  have H1 := Lib.hid (fun w => ref_weekday_any t w hb.1 (by omega))
  rw [ref_weekday_eq] at H1
  clear h hb
  go_enter Tryd.func20, Tryd.ntmps20
  go_wp2_with (first | (go_at_call 35; (with_reducible refine (H.out _).mono ?_); rintro e w' ⟨rfl, rfl⟩) | (go_at_call 48; (with_reducible refine (H1.out _).mono ?_); rintro e w' ⟨rfl, rfl⟩))
  go_ret2
  exact ⟨rfl, rfl⟩
theorem rWeekday_no {t : Int} (h : inT' t = false) (w : World) : Calls Tryd.prog 20 #[I t] w fun e w' => e = .returned (.tuple #[I 0, E 7]) ∧ w = w' := by
  have H := Lib.hid (fun w => right_h h w)
  clear h
  go_enter Tryd.func20, Tryd.ntmps20
  go_wp2_with ((go_at_call 35; (with_reducible refine (H.out _).mono ?_); rintro e w' ⟨rfl, rfl⟩))
  go_ret2
  exact ⟨rfl, rfl⟩
theorem Yearday_ok {t : Int} (h : inT' t = true) (w : World) : Calls Tryd.prog 21 #[I t] w fun e w' => e = .returned (.tuple #[I (ydI t), E 0]) ∧ Below w.heap.size w w' := by
  have hb := inB_iff.1 h
  have HA := Lib.hid (fun w => asked_ok isGo49 h w (fun w => yearday_any t w (by omega) (by omega)))
  clear h hb
  go_enter Tryd.func21, Tryd.ntmps21
  go_wp2_with ((go_at_call 46; (with_reducible refine (HA.out _).mono ?_); rintro e w' ⟨rfl, hb⟩))
  go_ret2
  exact ⟨rfl, hb⟩
theorem Yearday_no {t : Int} (h : inT' t = false) (w : World) : Calls Tryd.prog 21 #[I t] w fun e w' => e = .returned (.tuple #[I 0, E 7]) ∧ Below w.heap.size w w' := by
  have HA := Lib.hid (fun w => asked_no 49 h w)
  clear h
  go_enter Tryd.func21, Tryd.ntmps21
  go_wp2_with ((go_at_call 46; (with_reducible refine (HA.out _).mono ?_); rintro e w' ⟨rfl, rfl⟩))
  go_ret2
  exact ⟨rfl, Below.refl _ _⟩
theorem rYearday_ok {t : Int} (h : inT' t = true) (w : World) : Calls Tryd.prog 22 #[I t] w fun e w' => e = .returned (.tuple #[I (ydI t), E 0]) ∧ Below w.heap.size w w' := by
  have hb := inB_iff.1 h
  have H := Lib.hid (fun w => right_h h w)
  have H1 := Lib.hid (fun w => ref_yearday_any t w hb.1 hb.2)
  clear h hb
  go_enter Tryd.func22, Tryd.ntmps22
  go_wp2_with (first | (go_at_call 35; (with_reducible refine (H.out _).mono ?_); rintro e w' ⟨rfl, rfl⟩) | (go_at_call 50; (with_reducible refine (H1.out _).mono ?_); rintro e w' ⟨rfl, hb⟩))
  go_ret2
  exact ⟨rfl, hb⟩
theorem rYearday_no {t : Int} (h : inT' t = false) (w : World) : Calls Tryd.prog 22 #[I t] w fun e w' => e = .returned (.tuple #[I 0, E 7]) ∧ Below w.heap.size w w' := by
  have H := Lib.hid (fun w => right_h h w)
  clear h
  go_enter Tryd.func22, Tryd.ntmps22
  go_wp2_with ((go_at_call 35; (with_reducible refine (H.out _).mono ?_); rintro e w' ⟨rfl, rfl⟩))
  go_ret2
  exact ⟨rfl, Below.refl _ _⟩
theorem Week_ok {t : Int} (h : inT' t = true) (w : World) : Calls Tryd.prog 23 #[I t] w fun e w' => e = .returned (.tuple #[I (wkY t), I (wkN t), E 0]) ∧ Below w.heap.size w w' := by
  have hb := inB_iff.1 h
  have H := Lib.hid (fun w => time_h h w)
  have H1 := Lib.hid (fun w => week_any t w (by omega) (by omega))
  clear h hb
  go_enter Tryd.func23, Tryd.ntmps23
  go_wp2_with (first | (go_at_call 33; (with_reducible refine (H.out _).mono ?_); rintro e w' ⟨rfl, rfl⟩) | (go_at_call 51; (with_reducible refine (H1.out _).mono ?_); rintro e w' ⟨rfl, hb⟩))
  go_ret3
  exact ⟨rfl, hb⟩
theorem Week_no {t : Int} (h : inT' t = false) (w : World) : Calls Tryd.prog 23 #[I t] w fun e w' => e = .returned (.tuple #[I 0, I 0, E 7]) ∧ Below w.heap.size w w' := by
  have H := Lib.hid (fun w => time_h h w)
  clear h
  go_enter Tryd.func23, Tryd.ntmps23
  go_wp2_with ((go_at_call 33; (with_reducible refine (H.out _).mono ?_); rintro e w' ⟨rfl, rfl⟩))
  go_ret3
  exact ⟨rfl, Below.refl _ _⟩
theorem rWeek_ok {t : Int} (h : inT' t = true) (w : World) : Calls Tryd.prog 24 #[I t] w fun e w' => e = .returned (.tuple #[I (wkY t), I (wkN t), E 0]) ∧ Below w.heap.size w w' := by
  have hb := inB_iff.1 h
  have H := Lib.hid (fun w => right_h h w)
  have H1 := Lib.hid (fun w => ref_week_any t w hb.1 hb.2)
  clear h hb
  go_enter Tryd.func24, Tryd.ntmps24
  go_wp2_with (first | (go_at_call 35; (with_reducible refine (H.out _).mono ?_); rintro e w' ⟨rfl, rfl⟩) | (go_at_call 52; (with_reducible refine (H1.out _).mono ?_); rintro e w' ⟨rfl, hb⟩))
  go_ret3
  exact ⟨rfl, hb⟩
theorem rWeek_no {t : Int} (h : inT' t = false) (w : World) : Calls Tryd.prog 24 #[I t] w fun e w' => e = .returned (.tuple #[I 0, I 0, E 7]) ∧ Below w.heap.size w w' := by
  have H := Lib.hid (fun w => right_h h w)
  clear h
  go_enter Tryd.func24, Tryd.ntmps24
  go_wp2_with ((go_at_call 35; (with_reducible refine (H.out _).mono ?_); rintro e w' ⟨rfl, rfl⟩))
  go_ret3
  exact ⟨rfl, Below.refl _ _⟩
set_option maxRecDepth 100000 in
set_option maxHeartbeats 1000000 in
theorem OfWeek_ok {y n d : Int} (h : inB y 1 9999 = true) (n0 : 1 ≤ n) (n1 : n ≤ 53) (d0 : 1 ≤ d) (d1 : d ≤ 7) (hy : wkY (ofT y n d) = y) (hi : inT' (ofT y n d) = true) (w : World) : Calls Tryd.prog 25 #[I y, I n, I d] w fun e w' => e = .returned (.tuple #[I (ofT y n d), E 0]) ∧ Below w.heap.size w w' := by
  have hb := inB_iff.1 h
  have H := Lib.hid (fun w => year_h h w)
  have h4 := four_day y
  have hys := ys_bd y hb.1 (by omega)
  obtain ⟨A, HA⟩ : ∃ A, Hid (tmI y 1 4 0 0 0 = A) := ⟨_, Lib.hid rfl⟩
  have H37 := Lib.hid (fun w => timeOf_any y 1 4 0 0 0 w (by omega) (by omega) (by omega) (by omega) (by omega) (by omega) (by omega) (by omega) (by omega) (by omega) (by omega) (by omega))
  rw [HA.out] at H37 h4
  have a0 : -70000000000 ≤ A := by omega
  have a1 : A ≤ 260000000000 := by omega
  have H47 := Lib.hid (fun w => weekday_any A w (by omega) (by omega))
  have hwd := weekday_bd A
  obtain ⟨q, HQ⟩ : ∃ q, Hid (weekdayI A = q) := ⟨_, Lib.hid rfl⟩
  rw [HQ.out] at H47 hwd
  obtain ⟨T, HT⟩ : ∃ T, Hid (ofT y n d = T) := ⟨_, Lib.hid rfl⟩
  have e1 : A + (d - q + 7 * (n - 1)) * 86400 = T := by have := HT.out; unfold ofT at this; rwa [HA.out, HQ.out] at this
  rw [HT.out] at hy hi ⊢
  have HW := Lib.hid (fun w => week_any T w (by omega) (by omega))
  have HI := Lib.hid (fun w => time_h hi w)
  clear hi
  obtain ⟨Yk, HYk⟩ : ∃ Yk, Hid (wkY T = Yk) := ⟨_, Lib.hid rfl⟩
  rw [HYk.out] at hy HW
  subst hy
  have c1 : decide (n < 1) = false := decide_eq_false (by omega)
  have c2 : decide (53 < n) = false := decide_eq_false (by omega)
  have c3 : decide (d < 1) = false := decide_eq_false (by omega)
  have c4 : decide (7 < d) = false := decide_eq_false (by omega)
  generalize wkN T = Nk at *
  clear h h4 hys
  go_enter Tryd.func25, Tryd.ntmps25
  go_wp2_with (first | (go_at_call 39; (with_reducible refine (H.out _).mono ?_); rintro e w' ⟨rfl, rfl⟩) | (go_at_call 37; (with_reducible refine (H37.out _).mono ?_); rintro e W1 ⟨rfl, hb1⟩; have HB1 := Lib.hid hb1; clear hb1) | (go_at_call 47; (with_reducible refine (H47.out _).mono ?_); rintro e w' ⟨rfl, rfl⟩) | (go_at_call 51; (with_reducible refine (HW.out _).mono ?_); rintro e W2 ⟨rfl, hb2⟩; have HB2 := Lib.hid hb2; clear hb2) | (go_at_call 33; (with_reducible refine (HI.out _).mono ?_); rintro e w' ⟨rfl, rfl⟩))
  go_ret2
  exact ⟨rfl, HB1.out.trans (HB2.out.mono HB1.out.size)⟩
set_option maxRecDepth 100000 in
set_option maxHeartbeats 1000000 in
theorem OfWeek_no1 {y n d : Int} (h : inB y 1 9999 = true) (n0 : 1 ≤ n) (n1 : n ≤ 53) (d0 : 1 ≤ d) (d1 : d ≤ 7) (hy : wkY (ofT y n d) ≠ y) (w : World) : Calls Tryd.prog 25 #[I y, I n, I d] w fun e w' => e = .returned (.tuple #[I 0, E 7]) ∧ Below w.heap.size w w' := by
  have hb := inB_iff.1 h
  have H := Lib.hid (fun w => year_h h w)
  have h4 := four_day y
  have hys := ys_bd y hb.1 (by omega)
  obtain ⟨A, HA⟩ : ∃ A, Hid (tmI y 1 4 0 0 0 = A) := ⟨_, Lib.hid rfl⟩
  have H37 := Lib.hid (fun w => timeOf_any y 1 4 0 0 0 w (by omega) (by omega) (by omega) (by omega) (by omega) (by omega) (by omega) (by omega) (by omega) (by omega) (by omega) (by omega))
  rw [HA.out] at H37 h4
  have a0 : -70000000000 ≤ A := by omega
  have a1 : A ≤ 260000000000 := by omega
  have H47 := Lib.hid (fun w => weekday_any A w (by omega) (by omega))
  have hwd := weekday_bd A
  obtain ⟨q, HQ⟩ : ∃ q, Hid (weekdayI A = q) := ⟨_, Lib.hid rfl⟩
  rw [HQ.out] at H47 hwd
  obtain ⟨T, HT⟩ : ∃ T, Hid (ofT y n d = T) := ⟨_, Lib.hid rfl⟩
  have e1 : A + (d - q + 7 * (n - 1)) * 86400 = T := by have := HT.out; unfold ofT at this; rwa [HA.out, HQ.out] at this
  rw [HT.out] at hy
  have HW := Lib.hid (fun w => week_any T w (by omega) (by omega))
  generalize wkY T = Yk at *
  have hyb : (Yk == y) = false := beq_eq_false_iff_ne.2 hy
  have c1 : decide (n < 1) = false := decide_eq_false (by omega)
  have c2 : decide (53 < n) = false := decide_eq_false (by omega)
  have c3 : decide (d < 1) = false := decide_eq_false (by omega)
  have c4 : decide (7 < d) = false := decide_eq_false (by omega)
  generalize wkN T = Nk at *
  clear h h4 hys
  go_enter Tryd.func25, Tryd.ntmps25
  go_wp2_with (first | (go_at_call 39; (with_reducible refine (H.out _).mono ?_); rintro e w' ⟨rfl, rfl⟩) | (go_at_call 37; (with_reducible refine (H37.out _).mono ?_); rintro e W1 ⟨rfl, hb1⟩; have HB1 := Lib.hid hb1; clear hb1) | (go_at_call 47; (with_reducible refine (H47.out _).mono ?_); rintro e w' ⟨rfl, rfl⟩) | (go_at_call 51; (with_reducible refine (HW.out _).mono ?_); rintro e W2 ⟨rfl, hb2⟩; have HB2 := Lib.hid hb2; clear hb2))
  go_ret2
  exact ⟨rfl, HB1.out.trans (HB2.out.mono HB1.out.size)⟩
set_option maxRecDepth 100000 in
set_option maxHeartbeats 1000000 in
theorem OfWeek_no2 {y n d : Int} (h : inB y 1 9999 = true) (n0 : 1 ≤ n) (n1 : n ≤ 53) (d0 : 1 ≤ d) (d1 : d ≤ 7) (hy : wkY (ofT y n d) = y) (hi : inT' (ofT y n d) = false) (w : World) : Calls Tryd.prog 25 #[I y, I n, I d] w fun e w' => e = .returned (.tuple #[I 0, E 7]) ∧ Below w.heap.size w w' := by
  have hb := inB_iff.1 h
  have H := Lib.hid (fun w => year_h h w)
  have h4 := four_day y
  have hys := ys_bd y hb.1 (by omega)
  obtain ⟨A, HA⟩ : ∃ A, Hid (tmI y 1 4 0 0 0 = A) := ⟨_, Lib.hid rfl⟩
  have H37 := Lib.hid (fun w => timeOf_any y 1 4 0 0 0 w (by omega) (by omega) (by omega) (by omega) (by omega) (by omega) (by omega) (by omega) (by omega) (by omega) (by omega) (by omega))
  rw [HA.out] at H37 h4
  have a0 : -70000000000 ≤ A := by omega
  have a1 : A ≤ 260000000000 := by omega
  have H47 := Lib.hid (fun w => weekday_any A w (by omega) (by omega))
  have hwd := weekday_bd A
  obtain ⟨q, HQ⟩ : ∃ q, Hid (weekdayI A = q) := ⟨_, Lib.hid rfl⟩
  rw [HQ.out] at H47 hwd
  obtain ⟨T, HT⟩ : ∃ T, Hid (ofT y n d = T) := ⟨_, Lib.hid rfl⟩
  have e1 : A + (d - q + 7 * (n - 1)) * 86400 = T := by have := HT.out; unfold ofT at this; rwa [HA.out, HQ.out] at this
  rw [HT.out] at hy hi
  have HW := Lib.hid (fun w => week_any T w (by omega) (by omega))
  have HI := Lib.hid (fun w => time_h hi w)
  clear hi
  obtain ⟨Yk, HYk⟩ : ∃ Yk, Hid (wkY T = Yk) := ⟨_, Lib.hid rfl⟩
  rw [HYk.out] at hy HW
  subst hy
  have c1 : decide (n < 1) = false := decide_eq_false (by omega)
  have c2 : decide (53 < n) = false := decide_eq_false (by omega)
  have c3 : decide (d < 1) = false := decide_eq_false (by omega)
  have c4 : decide (7 < d) = false := decide_eq_false (by omega)
  generalize wkN T = Nk at *
  clear h h4 hys
  go_enter Tryd.func25, Tryd.ntmps25
  go_wp2_with (first | (go_at_call 39; (with_reducible refine (H.out _).mono ?_); rintro e w' ⟨rfl, rfl⟩) | (go_at_call 37; (with_reducible refine (H37.out _).mono ?_); rintro e W1 ⟨rfl, hb1⟩; have HB1 := Lib.hid hb1; clear hb1) | (go_at_call 47; (with_reducible refine (H47.out _).mono ?_); rintro e w' ⟨rfl, rfl⟩) | (go_at_call 51; (with_reducible refine (HW.out _).mono ?_); rintro e W2 ⟨rfl, hb2⟩; have HB2 := Lib.hid hb2; clear hb2) | (go_at_call 33; (with_reducible refine (HI.out _).mono ?_); rintro e w' ⟨rfl, rfl⟩))
  go_ret2
  exact ⟨rfl, HB1.out.trans (HB2.out.mono HB1.out.size)⟩
set_option maxRecDepth 100000 in
set_option maxHeartbeats 1000000 in
theorem rOfWeek_ok {y n d : Int} (h : inB y 1 9999 = true) (n0 : 1 ≤ n) (n1 : n ≤ 53) (d0 : 1 ≤ d) (d1 : d ≤ 7) (hy : wkY (ofT y n d) = y) (hi : inT' (ofT y n d) = true) (w : World) : Calls Tryd.prog 26 #[I y, I n, I d] w fun e w' => e = .returned (.tuple #[I (ofT y n d), E 0]) ∧ Below w.heap.size w w' := by
  have hb := inB_iff.1 h
  have H := Lib.hid (fun w => in_h h w)
  have Hn := Lib.hid (fun w => in_h (inB_yes n0 n1) w)
  have Hd := Lib.hid (fun w => in_h (inB_yes d0 d1) w)
  have h4 := four_day y
  have hys := ys_bd y hb.1 (by omega)
  have hms := ms_bd y 12 (by omega) (by omega)
  have hlast := last_day y
  have hys2 := ys_bd (y + 1) (by omega) (by omega)
  have HN4 := Lib.hid (fun w => number_any y 1 4 w (by omega) (by omega) (by omega) (by omega) (by omega) (by omega))
  have HN28 := Lib.hid (fun w => number_any y 12 28 w (by omega) (by omega) (by omega) (by omega) (by omega) (by omega))
  have hn4 : nuI y 1 4 = ysI y + 3 := by unfold nuI; rw [ms_one]; omega
  have hn28 : 0 ≤ nuI y 12 28 ∧ nuI y 12 28 ≤ 4000000 := by unfold nuI; omega
  have hL : -62135596800 + nuI y 12 28 * 86400 = lastI y := rfl
  obtain ⟨mo, HMo⟩ : ∃ mo, Hid (wkN (lastI y) = mo) := ⟨_, Lib.hid rfl⟩
  have hmost : n ≤ mo := by rw [← HMo.out]; exact (of_iff d0 d1 n0).1 hy
  have c5 : decide (mo < n) = false := decide_eq_false (by omega)
  have HLw := Lib.hid (fun w => ref_week_any (lastI y) w (by omega) (by omega))
  rw [HMo.out, (last_num y).1] at HLw
  rw [hn4] at HN4
  obtain ⟨A, HA⟩ : ∃ A, Hid (tmI y 1 4 0 0 0 = A) := ⟨_, Lib.hid rfl⟩
  rw [HA.out] at h4
  have a0 : -62135596800 ≤ A := by omega
  have a1 : A ≤ 260000000000 := by omega
  have H48 := Lib.hid (fun w => ref_weekday_any A w a0 (by omega))
  rw [ref_weekday_eq] at H48
  have hwd := weekday_bd A
  obtain ⟨q, HQ⟩ : ∃ q, Hid (weekdayI A = q) := ⟨_, Lib.hid rfl⟩
  rw [HQ.out] at H48 hwd
  obtain ⟨T, HT⟩ : ∃ T, Hid (ofT y n d = T) := ⟨_, Lib.hid rfl⟩
  have e1 : A + (1 - q + 7 * (n - 1) + d - 1) * 86400 = T := by have := HT.out; unfold ofT at this; rw [HA.out, HQ.out] at this; omega
  rw [HT.out] at hi ⊢
  have HI := Lib.hid (fun w => right_h hi w)
  clear hi
  obtain ⟨S, HS⟩ : ∃ S, Hid (ysI y + 3 = S) := ⟨_, Lib.hid rfl⟩
  rw [HS.out] at HN4
  have s0 : 0 ≤ S := by have := HS.out; omega
  have s1 : S ≤ 4000000 := by have := HS.out; omega
  have e2 : -62135596800 + S * 86400 = A := by have := HS.out; omega
  generalize lastI y = LL at *
  generalize nuI y 12 28 = N28 at *
  clear h h4 hys hms hlast hys2 hn4 hy
  go_enter Tryd.func26, Tryd.ntmps26
  go_wp2_with (first | (go_at_call 41; (with_reducible refine (H.out _).mono ?_); rintro e w' ⟨rfl, rfl⟩) | (go_at_call 41; (with_reducible refine (Hd.out _).mono ?_); rintro e w' ⟨rfl, rfl⟩) | (go_at_call 41; (with_reducible refine (Hn.out _).mono ?_); rintro e w' ⟨rfl, rfl⟩) | (go_at_call 38; (with_reducible refine (HN4.out _).mono ?_); rintro e w' ⟨rfl, rfl⟩) | (go_at_call 38; (with_reducible refine (HN28.out _).mono ?_); rintro e w' ⟨rfl, rfl⟩) | (go_at_call 52; (with_reducible refine (HLw.out _).mono ?_); rintro e W2 ⟨rfl, hb2⟩; have HB2 := Lib.hid hb2; clear hb2) | (go_at_call 48; (with_reducible refine (H48.out _).mono ?_); rintro e w' ⟨rfl, rfl⟩) | (go_at_call 35; (with_reducible refine (HI.out _).mono ?_); rintro e w' ⟨rfl, rfl⟩))
  go_ret2
  exact ⟨rfl, HB2.out⟩
set_option maxRecDepth 100000 in
set_option maxHeartbeats 1000000 in
theorem rOfWeek_no1 {y n d : Int} (h : inB y 1 9999 = true) (n0 : 1 ≤ n) (n1 : n ≤ 53) (d0 : 1 ≤ d) (d1 : d ≤ 7) (hy : wkY (ofT y n d) ≠ y) (w : World) : Calls Tryd.prog 26 #[I y, I n, I d] w fun e w' => e = .returned (.tuple #[I 0, E 7]) ∧ Below w.heap.size w w' := by
  have hb := inB_iff.1 h
  have H := Lib.hid (fun w => in_h h w)
  have Hn := Lib.hid (fun w => in_h (inB_yes n0 n1) w)
  have Hd := Lib.hid (fun w => in_h (inB_yes d0 d1) w)
  have h4 := four_day y
  have hys := ys_bd y hb.1 (by omega)
  have hms := ms_bd y 12 (by omega) (by omega)
  have hlast := last_day y
  have hys2 := ys_bd (y + 1) (by omega) (by omega)
  have HN4 := Lib.hid (fun w => number_any y 1 4 w (by omega) (by omega) (by omega) (by omega) (by omega) (by omega))
  have HN28 := Lib.hid (fun w => number_any y 12 28 w (by omega) (by omega) (by omega) (by omega) (by omega) (by omega))
  have hn4 : nuI y 1 4 = ysI y + 3 := by unfold nuI; rw [ms_one]; omega
  have hn28 : 0 ≤ nuI y 12 28 ∧ nuI y 12 28 ≤ 4000000 := by unfold nuI; omega
  have hL : -62135596800 + nuI y 12 28 * 86400 = lastI y := rfl
  obtain ⟨mo, HMo⟩ : ∃ mo, Hid (wkN (lastI y) = mo) := ⟨_, Lib.hid rfl⟩
  have hmost : mo < n := by rw [← HMo.out]; exact Int.not_le.1 fun h => hy ((of_iff d0 d1 n0).2 h)
  have HLw := Lib.hid (fun w => ref_week_any (lastI y) w (by omega) (by omega))
  rw [HMo.out, (last_num y).1] at HLw
  rw [hn4] at HN4
  obtain ⟨A, HA⟩ : ∃ A, Hid (tmI y 1 4 0 0 0 = A) := ⟨_, Lib.hid rfl⟩
  rw [HA.out] at h4
  have a0 : -62135596800 ≤ A := by omega
  have a1 : A ≤ 260000000000 := by omega
  have H48 := Lib.hid (fun w => ref_weekday_any A w a0 (by omega))
  rw [ref_weekday_eq] at H48
  have hwd := weekday_bd A
  obtain ⟨q, HQ⟩ : ∃ q, Hid (weekdayI A = q) := ⟨_, Lib.hid rfl⟩
  rw [HQ.out] at H48 hwd
  obtain ⟨T, HT⟩ : ∃ T, Hid (ofT y n d = T) := ⟨_, Lib.hid rfl⟩
  have e1 : A + (1 - q + 7 * (n - 1) + d - 1) * 86400 = T := by have := HT.out; unfold ofT at this; rw [HA.out, HQ.out] at this; omega

  obtain ⟨S, HS⟩ : ∃ S, Hid (ysI y + 3 = S) := ⟨_, Lib.hid rfl⟩
  rw [HS.out] at HN4
  have s0 : 0 ≤ S := by have := HS.out; omega
  have s1 : S ≤ 4000000 := by have := HS.out; omega
  have e2 : -62135596800 + S * 86400 = A := by have := HS.out; omega
  generalize lastI y = LL at *
  generalize nuI y 12 28 = N28 at *
  clear h h4 hys hms hlast hys2 hn4 hy
  go_enter Tryd.func26, Tryd.ntmps26
  go_wp2_with (first | (go_at_call 41; (with_reducible refine (H.out _).mono ?_); rintro e w' ⟨rfl, rfl⟩) | (go_at_call 41; (with_reducible refine (Hd.out _).mono ?_); rintro e w' ⟨rfl, rfl⟩) | (go_at_call 41; (with_reducible refine (Hn.out _).mono ?_); rintro e w' ⟨rfl, rfl⟩) | (go_at_call 38; (with_reducible refine (HN4.out _).mono ?_); rintro e w' ⟨rfl, rfl⟩) | (go_at_call 38; (with_reducible refine (HN28.out _).mono ?_); rintro e w' ⟨rfl, rfl⟩) | (go_at_call 52; (with_reducible refine (HLw.out _).mono ?_); rintro e W2 ⟨rfl, hb2⟩; have HB2 := Lib.hid hb2; clear hb2) | (go_at_call 48; (with_reducible refine (H48.out _).mono ?_); rintro e w' ⟨rfl, rfl⟩))
  go_ret2
  exact ⟨rfl, HB2.out⟩
set_option maxRecDepth 100000 in
set_option maxHeartbeats 1000000 in
theorem rOfWeek_no2 {y n d : Int} (h : inB y 1 9999 = true) (n0 : 1 ≤ n) (n1 : n ≤ 53) (d0 : 1 ≤ d) (d1 : d ≤ 7) (hy : wkY (ofT y n d) = y) (hi : inT' (ofT y n d) = false) (w : World) : Calls Tryd.prog 26 #[I y, I n, I d] w fun e w' => e = .returned (.tuple #[I 0, E 7]) ∧ Below w.heap.size w w' := by
  have hb := inB_iff.1 h
  have H := Lib.hid (fun w => in_h h w)
  have Hn := Lib.hid (fun w => in_h (inB_yes n0 n1) w)
  have Hd := Lib.hid (fun w => in_h (inB_yes d0 d1) w)
  have h4 := four_day y
  have hys := ys_bd y hb.1 (by omega)
  have hms := ms_bd y 12 (by omega) (by omega)
  have hlast := last_day y
  have hys2 := ys_bd (y + 1) (by omega) (by omega)
  have HN4 := Lib.hid (fun w => number_any y 1 4 w (by omega) (by omega) (by omega) (by omega) (by omega) (by omega))
  have HN28 := Lib.hid (fun w => number_any y 12 28 w (by omega) (by omega) (by omega) (by omega) (by omega) (by omega))
  have hn4 : nuI y 1 4 = ysI y + 3 := by unfold nuI; rw [ms_one]; omega
  have hn28 : 0 ≤ nuI y 12 28 ∧ nuI y 12 28 ≤ 4000000 := by unfold nuI; omega
  have hL : -62135596800 + nuI y 12 28 * 86400 = lastI y := rfl
  obtain ⟨mo, HMo⟩ : ∃ mo, Hid (wkN (lastI y) = mo) := ⟨_, Lib.hid rfl⟩
  have hmost : n ≤ mo := by rw [← HMo.out]; exact (of_iff d0 d1 n0).1 hy
  have c5 : decide (mo < n) = false := decide_eq_false (by omega)
  have HLw := Lib.hid (fun w => ref_week_any (lastI y) w (by omega) (by omega))
  rw [HMo.out, (last_num y).1] at HLw
  rw [hn4] at HN4
  obtain ⟨A, HA⟩ : ∃ A, Hid (tmI y 1 4 0 0 0 = A) := ⟨_, Lib.hid rfl⟩
  rw [HA.out] at h4
  have a0 : -62135596800 ≤ A := by omega
  have a1 : A ≤ 260000000000 := by omega
  have H48 := Lib.hid (fun w => ref_weekday_any A w a0 (by omega))
  rw [ref_weekday_eq] at H48
  have hwd := weekday_bd A
  obtain ⟨q, HQ⟩ : ∃ q, Hid (weekdayI A = q) := ⟨_, Lib.hid rfl⟩
  rw [HQ.out] at H48 hwd
  obtain ⟨T, HT⟩ : ∃ T, Hid (ofT y n d = T) := ⟨_, Lib.hid rfl⟩
  have e1 : A + (1 - q + 7 * (n - 1) + d - 1) * 86400 = T := by have := HT.out; unfold ofT at this; rw [HA.out, HQ.out] at this; omega
  rw [HT.out] at hi
  have HI := Lib.hid (fun w => right_h hi w)
  clear hi
  obtain ⟨S, HS⟩ : ∃ S, Hid (ysI y + 3 = S) := ⟨_, Lib.hid rfl⟩
  rw [HS.out] at HN4
  have s0 : 0 ≤ S := by have := HS.out; omega
  have s1 : S ≤ 4000000 := by have := HS.out; omega
  have e2 : -62135596800 + S * 86400 = A := by have := HS.out; omega
  generalize lastI y = LL at *
  generalize nuI y 12 28 = N28 at *
  clear h h4 hys hms hlast hys2 hn4 hy
  go_enter Tryd.func26, Tryd.ntmps26
  go_wp2_with (first | (go_at_call 41; (with_reducible refine (H.out _).mono ?_); rintro e w' ⟨rfl, rfl⟩) | (go_at_call 41; (with_reducible refine (Hd.out _).mono ?_); rintro e w' ⟨rfl, rfl⟩) | (go_at_call 41; (with_reducible refine (Hn.out _).mono ?_); rintro e w' ⟨rfl, rfl⟩) | (go_at_call 38; (with_reducible refine (HN4.out _).mono ?_); rintro e w' ⟨rfl, rfl⟩) | (go_at_call 38; (with_reducible refine (HN28.out _).mono ?_); rintro e w' ⟨rfl, rfl⟩) | (go_at_call 52; (with_reducible refine (HLw.out _).mono ?_); rintro e W2 ⟨rfl, hb2⟩; have HB2 := Lib.hid hb2; clear hb2) | (go_at_call 48; (with_reducible refine (H48.out _).mono ?_); rintro e w' ⟨rfl, rfl⟩) | (go_at_call 35; (with_reducible refine (HI.out _).mono ?_); rintro e w' ⟨rfl, rfl⟩))
  go_ret2
  exact ⟨rfl, HB2.out⟩
end Go.Proofs.YtocdabmfcbmpaaaDoor
