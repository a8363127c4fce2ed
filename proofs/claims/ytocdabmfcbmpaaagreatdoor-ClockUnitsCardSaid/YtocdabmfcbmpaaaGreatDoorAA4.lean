import Derived.Test.YtocdabmfcbmpaaaGreatDoorAA3
namespace Go.Proofs.YtocdabmfcbmpaaaGreatDoor
open Go.RowKit
set_option linter.unusedVariables false
set_option linter.unusedSimpArgs false

theorem below_draw {w W1 W2 : World} {o : Obj} (h : Below w.heap.size w W1) (k : Below (W1.alloc o).drew.heap.size (W1.alloc o).drew W2) : Below w.heap.size w W2 :=
  (h.alloc h.size o).trans ((undrew k).mono (by have := h.size; simp; omega))
theorem add_6 {t n : Int} : addI t n 6 = if n ≤ 119988 ∧ -119988 ≤ n ∧ 12 ≤ miI t + n * 12 ∧ miI t + n * 12 < 120000 then some (moT t (miI t + n * 12)) else none := by
  unfold addI; rw [if_neg (by decide), if_pos rfl]
theorem add_5 {t n : Int} : addI t n 5 = if n ≤ 119988 ∧ -119988 ≤ n ∧ 12 ≤ miI t + n * 1 ∧ miI t + n * 1 < 120000 then some (moT t (miI t + n * 1)) else none := by
  have h1 : ¬ (5 : Nat) < 5 := by decide
  have h2 : ¬ (5 : Nat) = 6 := by decide
  simp only [addI, if_neg h1, if_neg h2]
set_option maxRecDepth 100000 in
set_option maxHeartbeats 2000000 in
theorem add_m5 (t n : Int) (t0 : -62135596800 ≤ t) (t1 : t ≤ 253402300799) (w : World) : Calls Tryz.prog 26 #[I t, I n, I 5] w (addP t n 5 w) := by
  by_cases h1 : 119988 < n
  · have HP : Hid (addP t n 5 w (.returned (.tuple #[I 0, .bool false])) w) := Lib.hid (addP_none (by rw [add_5, if_neg (by omega)]) (Below.refl _ _))
    go_enter Tryz.func26, Tryz.ntmps26
    go_wp2
    go_ret2
    exact HP.out
  · have c1 : decide (119988 < n) = false := decide_eq_false h1
    by_cases h2 : n < -119988
    · have HP : Hid (addP t n 5 w (.returned (.tuple #[I 0, .bool false])) w) := Lib.hid (addP_none (by rw [add_5, if_neg (by omega)]) (Below.refl _ _))
      go_enter Tryz.func26, Tryz.ntmps26
      go_wp2
      go_ret2
      exact HP.out
    · have c2 : decide (n < -119988) = false := decide_eq_false h2
      have hp := parts_bd t0 t1
      have hm := mi_bd t0 t1
      have HD := Lib.hid (fun w => dateOf_any t w (by omega) (by omega))
      have hmi : miI t = dYI (t / 86400) * 12 + dMI (t / 86400) - 1 := rfl
      obtain ⟨i, HI⟩ : ∃ i, Hid (miI t + n * 1 = i) := ⟨_, Lib.hid rfl⟩
      have hi := HI.out
      have HA : Hid (addI t n 5 = if 12 ≤ i ∧ i < 120000 then some (moT t i) else none) := Lib.hid (by
        rw [add_5, HI.out]
        by_cases hc : 12 ≤ i ∧ i < 120000
        · rw [if_pos (by omega), if_pos hc]
        · rw [if_neg (by omega), if_neg hc])
      have HF := Lib.hid (fun w => floor_any i 12 w (by omega) (by omega) (by decide) (by decide))
      obtain ⟨Q, HQ⟩ : ∃ Q, Hid (i / 12 = Q) := ⟨_, Lib.hid rfl⟩
      obtain ⟨M, HM⟩ : ∃ M, Hid (i % 12 + 1 = M) := ⟨_, Lib.hid rfl⟩
      have hQ := HQ.out
      have hM := HM.out
      have e2 : i - Q * 12 + 1 = M := by omega
      rw [HQ.out] at HF
      have m0 : 1 ≤ M := by omega
      have m1 : M ≤ 12 := by omega
      have hMo : Hid (moT t i = tmI Q M (min (dDI (t / 86400)) (mlI Q M)) (t % 86400 / 3600) (t % 86400 / 60 % 60) (t % 86400 % 60)) := Lib.hid (by unfold moT; rw [HQ.out, HM.out])
      have hYi : inB Q 1 9999 = decide (12 ≤ i ∧ i < 120000) := by
        unfold inB; rw [decide_eq_decide]; omega
      rw [show dateV t = D6 (dYI (t / 86400)) (dMI (t / 86400)) (dDI (t / 86400)) (t % 86400 / 3600) (t % 86400 / 60 % 60) (t % 86400 % 60) from rfl] at HD
      generalize dYI (t / 86400) = Y0 at *
      generalize dMI (t / 86400) = M0 at *
      generalize dDI (t / 86400) = D at *
      generalize t % 86400 / 3600 = x3 at *
      generalize t % 86400 / 60 % 60 = x4 at *
      generalize t % 86400 % 60 = x5 at *
      have e1 : n + (Y0 * 12 + M0 - 1) = i := by omega
      by_cases hv : 12 ≤ i ∧ i < 120000
      · have hy : inB Q 1 9999 = true := by rw [hYi]; exact decide_eq_true hv
        have H39 := Lib.hid (fun w => year_h hy w)
        have hyb := inB_iff.1 hy
        have hml := ml_bd Q M
        have H43 := Lib.hid (fun w => daysOf_any Q M w (by omega) (by omega))
        have HRes : Hid (addI t n 5 = some (moT t i)) := Lib.hid (by rw [HA.out, if_pos hv])
        obtain ⟨Dm, HDm⟩ : ∃ Dm, Hid (min D (mlI Q M) = Dm) := ⟨_, Lib.hid rfl⟩
        have dm0 : 1 ≤ Dm := by have := HDm.out; omega
        have dm1 : Dm ≤ 31 := by have := HDm.out; omega
        have H37 := Lib.hid (fun w => timeOf_any Q M Dm x3 x4 x5 w (by omega) (by omega) (by omega) (by omega) (by omega) (by omega) (by omega) (by omega) (by omega) (by omega) (by omega) (by omega))
        rw [HDm.out] at hMo
        rw [← hMo.out] at H37
        generalize moT t i = R at *
        clear hYi hy HA hv hMo hmi hi hQ hM hm
        generalize mlI Q M = ml at *
        go_enter Tryz.func26, Tryz.ntmps26
        go_upto_region 15 with (first | (go_at_call 53; (with_reducible refine (HD.out _).mono ?_); rintro e W1 ⟨rfl, hb1⟩; have HB1 := Lib.hid hb1; clear hb1) | (go_at_call 59; (with_reducible refine (HF.out _).mono ?_); rintro e w' ⟨rfl, rfl⟩) | (go_at_call 57; (with_reducible refine (H39.out _).mono ?_); rintro e w' ⟨rfl, rfl⟩))
        have hmin := HDm.out
        go_region_with ((go_at_call 60; (with_reducible refine (H43.out _).mono ?_); rintro e w' ⟨rfl, rfl⟩))
        clear hmin
        all_goals
          go_wp2_with ((go_at_call 58; (with_reducible refine (H37.out _).mono ?_); rintro e W2 ⟨rfl, hb2⟩))
          go_ret2
          exact addP_some HRes.out (below_draw HB1.out hb2)
      · have hy : inB Q 1 9999 = false := by rw [hYi]; exact decide_eq_false hv
        have H39 := Lib.hid (fun w => year_h hy w)
        have HRes : Hid (addI t n 5 = none) := Lib.hid (by rw [HA.out, if_neg hv])
        clear hYi hy HA hv hMo hmi hi hQ hM hm
        go_enter Tryz.func26, Tryz.ntmps26
        go_wp2_with (first | (go_at_call 53; (with_reducible refine (HD.out _).mono ?_); rintro e W1 ⟨rfl, hb1⟩; have HB1 := Lib.hid hb1; clear hb1) | (go_at_call 59; (with_reducible refine (HF.out _).mono ?_); rintro e w' ⟨rfl, rfl⟩) | (go_at_call 57; (with_reducible refine (H39.out _).mono ?_); rintro e w' ⟨rfl, rfl⟩))
        go_ret2
        exact addP_none HRes.out (HB1.out.alloc HB1.out.size _)
end Go.Proofs.YtocdabmfcbmpaaaGreatDoor
