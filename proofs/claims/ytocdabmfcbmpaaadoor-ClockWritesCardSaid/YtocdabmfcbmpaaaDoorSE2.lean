import Derived.Test.YtocdabmfcbmpaaaDoorSE1
namespace Go.Proofs.YtocdabmfcbmpaaaDoor
open Go.RowKit
set_option linter.unusedVariables false
set_option linter.unusedSimpArgs false

def weekdayI (t : Int) : Int := (t / 86400 + 3) % 7 + 1
theorem weekday_bd (t : Int) : 1 ≤ weekdayI t ∧ weekdayI t ≤ 7 := by unfold weekdayI; omega
theorem weekday_any (t : Int) (w : World) (t0 : -1000000000000 ≤ t) (t1 : t ≤ 1000000000000) : Calls Tryd.prog 47 #[I t] w fun e w' => e = .returned (I (weekdayI t)) ∧ w = w' := by
  obtain ⟨N, HN⟩ : ∃ N, Hid (t / 86400 = N) := ⟨_, Lib.hid rfl⟩
  have n0 : -12000000 ≤ N := by rw [← HN.out]; omega
  have n1 : N ≤ 12000000 := by rw [← HN.out]; omega
  have H1 : Hid (∀ w, Calls Tryd.prog 63 #[I t, I 86400] w fun e w' => e = .returned (I N) ∧ w = w') := Lib.hid fun w => by
    have := floor_any t 86400 w (by omega) (by omega) (by decide) (by decide)
    rwa [HN.out] at this
  obtain ⟨Q, HQ⟩ : ∃ Q, Hid ((N + 3) / 7 = Q) := ⟨_, Lib.hid rfl⟩
  have q0 : 0 ≤ N + 3 - Q * 7 := by rw [← HQ.out]; omega
  have q1 : N + 3 - Q * 7 < 7 := by rw [← HQ.out]; omega
  have H2 : Hid (∀ w, Calls Tryd.prog 63 #[I (N + 3), I 7] w fun e w' => e = .returned (I Q) ∧ w = w') := Lib.hid fun w => by
    have := floor_any (N + 3) 7 w (by omega) (by omega) (by decide) (by decide)
    rwa [HQ.out] at this
  have HE : Hid (weekdayI t = N + 3 - Q * 7 + 1) := Lib.hid (by unfold weekdayI; rw [HN.out, ← HQ.out]; omega)
  go_enter Tryd.func47, Tryd.ntmps47
  go_wp2_with (first | (go_at_call 63; (with_reducible refine (H1.out _).mono ?_); rintro e w' ⟨rfl, rfl⟩) | (go_at_call 63; (with_reducible refine (H2.out _).mono ?_); rintro e w' ⟨rfl, rfl⟩))
  go_ret
  exact ⟨ret_int HE.out.symm, rfl⟩
theorem ref_weekday_eq {t : Int} : (t + 62135596800) / 86400 % 7 + 1 = weekdayI t := by unfold weekdayI; omega
theorem asked_no {t : Int} (k : FuncId) (h : inB t (-62135596800) 253402300799 = false) (w : World) : Calls Tryd.prog 46 #[I t, Fv k #[]] w fun e w' => e = .returned (.tuple #[I 0, E 7]) ∧ w = w' := by
  have H := Lib.hid (fun w => time_h h w)
  clear h
  go_enter Tryd.func46, Tryd.ntmps46
  go_wp2_with ((go_at_call 33; (with_reducible refine (H.out _).mono ?_); rintro e w' ⟨rfl, rfl⟩))
  go_ret2
  exact ⟨rfl, rfl⟩
theorem asked_ok {t r : Int} {k : FuncId} (hk : IsGo k) (h : inB t (-62135596800) 253402300799 = true) (w : World) (hc : ∀ w, Calls Tryd.prog k #[I t] w fun e w' => e = .returned (I r) ∧ Below w.heap.size w w') : Calls Tryd.prog 46 #[I t, Fv k #[]] w fun e w' => e = .returned (.tuple #[I r, E 0]) ∧ Below w.heap.size w w' := by
  have H := Lib.hid (fun w => time_h h w)
  have HC := Lib.hid hc
  unfold IsGo at hk
  clear h hc
  go_enter Tryd.func46, Tryd.ntmps46
  go_wp2_with (first | (go_at_call 33; (with_reducible refine (H.out _).mono ?_); rintro e w' ⟨rfl, rfl⟩) | ((with_reducible refine (HC.out _).mono ?_); rintro e w' ⟨rfl, hb⟩))
  go_ret2
  exact ⟨rfl, hb⟩
theorem Weekday_ok {t : Int} (h : inB t (-62135596800) 253402300799 = true) (w : World) : Calls Tryd.prog 19 #[I t] w fun e w' => e = .returned (.tuple #[I (weekdayI t), E 0]) ∧ Below w.heap.size w w' := by
  have hb := inB_iff.1 h
  have HA := Lib.hid (fun w => asked_ok isGo47 h w (fun w => (weekday_any t w (by omega) (by omega)).mono fun e w' ⟨he, hw⟩ => ⟨he, hw ▸ Below.refl _ _⟩))
  clear h hb
  go_enter Tryd.func19, Tryd.ntmps19
  go_wp2_with ((go_at_call 46; (with_reducible refine (HA.out _).mono ?_); rintro e w' ⟨rfl, hb⟩))
  go_ret2
  exact ⟨rfl, hb⟩
theorem Weekday_no {t : Int} (h : inB t (-62135596800) 253402300799 = false) (w : World) : Calls Tryd.prog 19 #[I t] w fun e w' => e = .returned (.tuple #[I 0, E 7]) ∧ w = w' := by
  have HA := Lib.hid (fun w => asked_no 47 h w)
  clear h
  go_enter Tryd.func19, Tryd.ntmps19
  go_wp2_with ((go_at_call 46; (with_reducible refine (HA.out _).mono ?_); rintro e w' ⟨rfl, rfl⟩))
  go_ret2
  exact ⟨rfl, rfl⟩
theorem ea_time {y : Int} (h : inB y 1 9999 = true) : ∃ M D : Int, eaP y / 31 = M ∧ eaP y % 31 + 1 = D ∧ vdP y M D 0 0 0 ∧ tmI y M D 0 0 0 = -62135596800 + eaR y * 86400 ∧ weekdayI (tmI y M D 0 0 0) = 7 ∧ (M = 3 ∧ 22 ≤ D ∨ M = 4 ∧ D ≤ 25) := by
  obtain ⟨h0, h1⟩ := inB_iff.1 h
  obtain ⟨e1, e2, e3⟩ := ea_ok h0 h1
  refine ⟨_, _, rfl, rfl, ?_⟩
  generalize eaP y / 31 = M at *
  have hD : 1 ≤ eaP y % 31 + 1 ∧ eaP y % 31 + 1 ≤ 31 := by omega
  generalize eaP y % 31 + 1 = D at *
  have hm : (M = 3 ∨ M = 4) ∧ D ≤ mlI y M := by
    rcases e3 with ⟨rfl, _⟩ | ⟨rfl, _⟩
    · have : mlI y 3 = 31 := rfl
      omega
    · have : mlI y 4 = 30 := rfl
      omega
  have hDt : Dt y M D := ⟨by omega, by omega, hD.1, hm.2⟩
  have hd := dn_nu (d := D) (y := y) hDt.1 hDt.2.1
  have ht : tmI y M D 0 0 0 = -62135596800 + eaR y * 86400 := by unfold tmI; omega
  refine ⟨⟨⟨h0, h1⟩, hDt, by omega, by omega, by omega⟩, ht, ?_, e3⟩
  rw [ht]; unfold weekdayI; omega
set_option maxRecDepth 100000 in
set_option maxHeartbeats 2000000 in
theorem clockEaster_any (y : Int) (w : World) (hT : Tab w) : Calls Tryd.prog 7 #[I y] w fun e w' => e = .returned (.bool true) ∧ Below w.heap.size w w' := by
  have HT := Lib.hid hT
  cases hy : inB y 1 9999
  · have H31 := Lib.hid (fun w => Easter_no hy w)
    have H32 := Lib.hid (fun w => rEaster_no hy w)
    clear hT hy
    go_enter Tryd.func7, Tryd.ntmps7
    go_wp2_with (first | (go_at_call 31; (with_reducible refine (H31.out _).mono ?_); rintro e W1 ⟨rfl, hb1⟩; have HB1 := Lib.hid hb1; clear hb1) | (go_at_call 32; (with_reducible refine (H32.out _).mono ?_); rintro e w' ⟨rfl, rfl⟩) | (go_at_call 18; (with_reducible refine (awake_any _ (HT.out.after HB1.out)).mono ?_); rintro e W2 ⟨rfl, hb2⟩))
    go_ret
    exact ⟨rfl, HB1.out.trans (hb2.mono HB1.out.size)⟩
  · obtain ⟨M, D, e1, e2, hv, e3, e4, hf⟩ := ea_time hy
    obtain ⟨T, HTT⟩ : ∃ T, Hid (tmI y M D 0 0 0 = T) := ⟨_, Lib.hid rfl⟩
    have H31 := Lib.hid (fun w => Easter_ok hy w)
    have H32 := Lib.hid (fun w => rEaster_ok hy w)
    have H19 := Lib.hid (fun w => Weekday_ok (tm_in hv) w)
    have H8 := Lib.hid (fun w => Date_ok (tm_in hv) w)
    rw [back_of hv, HTT.out] at H8
    rw [e4, HTT.out] at H19
    rw [e1, e2, HTT.out] at H31
    rw [← e3, HTT.out] at H32
    clear hT hy e1 e2 hv e3 e4
    rcases hf with ⟨rfl, hf⟩ | ⟨rfl, hf⟩
    all_goals
      go_enter Tryd.func7, Tryd.ntmps7
      go_wp2_with (first | (go_at_call 31; (with_reducible refine (H31.out _).mono ?_); rintro e W1 ⟨rfl, hb1⟩; have HB1 := Lib.hid hb1; clear hb1) | (go_at_call 32; (with_reducible refine (H32.out _).mono ?_); rintro e w' ⟨rfl, rfl⟩) | (go_at_call 19; (with_reducible refine (H19.out _).mono ?_); rintro e W2 ⟨rfl, hb2⟩; replace HB1 := Lib.hid (HB1.out.trans (hb2.mono HB1.out.size)); clear hb2) | (go_at_call 8; (with_reducible refine (H8.out _).mono ?_); rintro e W3 ⟨rfl, hb3⟩; replace HB1 := Lib.hid (HB1.out.trans (hb3.mono HB1.out.size)); clear hb3) | (go_at_call 18; (with_reducible refine (awake_any _ (HT.out.after (HB1.out.alloc HB1.out.size _))).mono ?_); rintro e W4 ⟨rfl, hb4⟩))
      go_ret
      exact ⟨rfl, (HB1.out.alloc HB1.out.size _).trans (hb4.mono (by have := HB1.out.size; simp; omega))⟩
end Go.Proofs.YtocdabmfcbmpaaaDoor
