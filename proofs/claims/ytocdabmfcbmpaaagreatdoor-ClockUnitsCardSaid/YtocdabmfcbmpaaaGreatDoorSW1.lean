import Derived.Test.YtocdabmfcbmpaaaGreatDoorSE2
namespace Go.Proofs.YtocdabmfcbmpaaaGreatDoor
open Go.RowKit
set_option linter.unusedVariables false
set_option linter.unusedSimpArgs false

/-! ### weeks, by days from the first one -/
theorem year_iff {N y : Int} : dYI N = y ↔ ysI y ≤ N + 719162 ∧ N + 719162 < ysI (y + 1) := by
  have hD := dt_date N
  have hn := nu_date N
  have l := hD.lo
  have u := hD.hi
  constructor
  · rintro rfl; omega
  · rintro ⟨h1, h2⟩
    refine Int.le_antisymm ?_ ?_
    · refine Int.not_lt.1 fun h => ?_
      have := ys_mono (y + 1) (dYI N) (by omega); omega
    · refine Int.not_lt.1 fun h => ?_
      have := ys_mono (dYI N + 1) y (by omega); omega
theorem dYI_bd {N : Int} (h0 : -4700000 ≤ N) (h1 : N ≤ 4700000) : -20000 ≤ dYI N ∧ dYI N ≤ 20000 := by
  have hD := dt_date N
  have hn := nu_date N
  have l := hD.lo
  have u := hD.hi
  constructor
  · refine Int.not_lt.1 fun h => ?_
    have := ys_mono (dYI N + 1) (-20000) (by omega)
    rw [show ysI (-20000) = -7305216 by decide] at this
    omega
  · refine Int.not_lt.1 fun h => ?_
    have := ys_mono 20000 (dYI N) (by omega)
    rw [show ysI 20000 = 7304484 by decide] at this
    omega
def ydI (t : Int) : Int := t / 86400 - dnI (dYI (t / 86400)) 1 1 + 1
theorem nu_first (y : Int) : nuI y 1 1 = ysI y := by unfold nuI; rw [ms_one]; omega
theorem yd_eq (t : Int) : ydI t = t / 86400 + 719162 - ysI (dYI (t / 86400)) + 1 := by
  unfold ydI
  rw [dn_nu (by omega) (by omega), nu_first]; omega
theorem yd_bd (t : Int) : 1 ≤ ydI t ∧ ydI t ≤ 366 := by
  have h := (year_iff (N := t / 86400) (y := dYI (t / 86400))).1 rfl
  have h2 := ys_succ (dYI (t / 86400))
  have h3 := wh_bd (dYI (t / 86400))
  rw [yd_eq]; omega
def thuI (t : Int) : Int := t + (4 - weekdayI t) * 86400
def wkY (t : Int) : Int := dYI (thuI t / 86400)
def wkN (t : Int) : Int := (ydI (thuI t) - 1) / 7 + 1
theorem thu_day (t : Int) : thuI t / 86400 = t / 86400 - (t / 86400 + 3) % 7 + 3 := by unfold thuI weekdayI; omega
theorem wkN_eq (t : Int) : wkN t = (thuI t / 86400 + 719162 - ysI (wkY t)) / 7 + 1 := by unfold wkN; rw [yd_eq]; unfold wkY; congr 2; omega
theorem wkN_bd (t : Int) : 1 ≤ wkN t ∧ wkN t ≤ 53 := by have := yd_bd (thuI t); unfold wkN; omega
/-- the time that a week's day begins with. -/
def ofT (y n wd : Int) : Int := tmI y 1 4 0 0 0 + (wd - weekdayI (tmI y 1 4 0 0 0) + 7 * (n - 1)) * 86400
theorem four_day (y : Int) : tmI y 1 4 0 0 0 = (ysI y + 3 - 719162) * 86400 := by
  unfold tmI
  rw [dn_nu (by omega) (by omega)]
  have : nuI y 1 4 = ysI y + 3 := by unfold nuI; rw [ms_one]; omega
  omega
theorem of_day (y n wd : Int) : ofT y n wd = (ysI y + 3 - (ysI y + 3) % 7 + 7 * (n - 1) + wd - 1 - 719162) * 86400 := by
  unfold ofT
  rw [four_day]
  unfold weekdayI
  omega
theorem of_thu {y n wd : Int} (h0 : 1 ≤ wd) (h1 : wd ≤ 7) : thuI (ofT y n wd) / 86400 + 719162 = ysI y + 3 - (ysI y + 3) % 7 + 7 * (n - 1) + 3 := by
  rw [thu_day, of_day]; omega
/-- December 28 lies in the last week. -/
def lastI (y : Int) : Int := -62135596800 + nuI y 12 28 * 86400
theorem last_day (y : Int) : lastI y / 86400 + 719162 = ysI (y + 1) - 4 := by
  have : nuI y 12 28 = ysI (y + 1) - 4 := by
    rw [ys_succ]; unfold nuI msI whI; simp; omega
  unfold lastI; omega
theorem last_num (y : Int) : wkY (lastI y) = y ∧ wkN (lastI y) = (ysI (y + 1) - 4 - (ysI (y + 1) - 4) % 7 + 3 - ysI y) / 7 + 1 := by
  have h1 := last_day y
  have h2 := thu_day (lastI y)
  have h3 := ys_succ y
  have h4 := wh_bd y
  have hy : wkY (lastI y) = y := by
    unfold wkY
    rw [year_iff]; omega
  refine ⟨hy, ?_⟩
  rw [wkN_eq, hy]; congr 2; omega
/-- a week is one of its year just if it is none behind the last. -/
theorem of_iff {y n wd : Int} (h0 : 1 ≤ wd) (h1 : wd ≤ 7) (n0 : 1 ≤ n) : wkY (ofT y n wd) = y ↔ n ≤ wkN (lastI y) := by
  have h2 := of_thu (y := y) (n := n) h0 h1
  have h3 := ys_succ y
  have h4 := wh_bd y
  rw [(last_num y).2]
  unfold wkY
  rw [year_iff, h2]
  generalize ysI (y + 1) = Z at *
  generalize ysI y = Y at *
  omega
/-- a time's week and weekday tell its day. -/
theorem of_back (t : Int) : ofT (wkY t) (wkN t) (weekdayI t) = t - t % 86400 := by
  rw [of_day, wkN_eq]
  have h := (year_iff (N := thuI t / 86400) (y := wkY t)).1 rfl
  have h3 := ys_succ (wkY t)
  have h4 := wh_bd (wkY t)
  have h2 := thu_day t
  generalize ysI (wkY t + 1) = Z at *
  generalize ysI (wkY t) = Y at *
  generalize thuI t / 86400 = Q at *
  unfold weekdayI
  omega
end Go.Proofs.YtocdabmfcbmpaaaGreatDoor
