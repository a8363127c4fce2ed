import Derived.Test.YtocdabmfcbmpaaaGreatDoorSW2
namespace Go.Proofs.YtocdabmfcbmpaaaGreatDoor
open Go.RowKit
set_option linter.unusedVariables false
set_option linter.unusedSimpArgs false

/-! ### adding units: the mathematics -/
def lenI (u : Nat) : Int := match u with | 0 => 1 | 1 => 60 | 2 => 3600 | 3 => 86400 | _ => 604800
theorem len_bd (u : Nat) : 1 ≤ lenI u ∧ lenI u ≤ 604800 := by unfold lenI; split <;> omega
/-- months from the year 0 on. -/
def miI (t : Int) : Int := dYI (t / 86400) * 12 + dMI (t / 86400) - 1
/-- a month's day, with a time's clock. -/
def moT (t : Int) (i : Int) : Int := tmI (i / 12) (i % 12 + 1) (min (dDI (t / 86400)) (mlI (i / 12) (i % 12 + 1))) (t % 86400 / 3600) (t % 86400 / 60 % 60) (t % 86400 % 60)
/-- what add makes. -/
def addI (t n : Int) (u : Nat) : Option Int :=
  if u < 5 then
    if n ≤ 315537897599 ∧ -315537897599 ≤ n ∧ -62135596800 ≤ t + n * lenI u ∧ t + n * lenI u ≤ 253402300799 then some (t + n * lenI u) else none
  else if n ≤ 119988 ∧ -119988 ≤ n ∧ 12 ≤ miI t + n * (if u = 6 then 12 else 1) ∧ miI t + n * (if u = 6 then 12 else 1) < 120000 then some (moT t (miI t + n * (if u = 6 then 12 else 1))) else none
theorem mo_dt {t i : Int} (h : 1 ≤ dDI (t / 86400)) : Dt (i / 12) (i % 12 + 1) (min (dDI (t / 86400)) (mlI (i / 12) (i % 12 + 1))) := by
  have := ml_bd (i / 12) (i % 12 + 1)
  refine ⟨by omega, by omega, by omega, by omega⟩
theorem mi_bd {t : Int} (h0 : -62135596800 ≤ t) (h1 : t ≤ 253402300799) : 12 ≤ miI t ∧ miI t < 120000 := by
  have := parts_bd h0 h1
  unfold miI; omega
/-- the date of such a time. -/
theorem mo_day {t i : Int} (hD : 1 ≤ dDI (t / 86400)) : moT t i / 86400 = dnI (i / 12) (i % 12 + 1) (min (dDI (t / 86400)) (mlI (i / 12) (i % 12 + 1))) ∧ moT t i % 86400 = t % 86400 := by
  unfold moT
  have := tm_div (y := i / 12) (m := i % 12 + 1) (d := min (dDI (t / 86400)) (mlI (i / 12) (i % 12 + 1))) (h := t % 86400 / 3600) (mi := t % 86400 / 60 % 60) (s := t % 86400 % 60) (by omega) (by omega) (by omega)
  rw [this.1, this.2]
  omega
theorem mo_date {t i : Int} (hD : 1 ≤ dDI (t / 86400)) : dYI (moT t i / 86400) = i / 12 ∧ dMI (moT t i / 86400) = i % 12 + 1 ∧ dDI (moT t i / 86400) = min (dDI (t / 86400)) (mlI (i / 12) (i % 12 + 1)) := by
  rw [(mo_day hD).1]
  exact date_nu (mo_dt hD)
theorem mo_index {t i : Int} (hD : 1 ≤ dDI (t / 86400)) : miI (moT t i) = i := by
  unfold miI
  rw [(mo_date hD).1, (mo_date hD).2.1]; omega
theorem day_pos (N : Int) : 1 ≤ dDI N := (dt_date N).2.2.1
/-- months in order. -/
theorem mo_lt {t i s j : Int} (h : i < j) : moT t i < moT s j := by
  have h1 := mo_dt (i := i) (day_pos (t / 86400))
  have h2 := mo_dt (i := j) (day_pos (s / 86400))
  have e1 := mo_day (i := i) (day_pos (t / 86400))
  have e2 := mo_day (i := j) (day_pos (s / 86400))
  have k1 := dn_nu (y := i / 12) (m := i % 12 + 1) (d := min (dDI (t / 86400)) (mlI (i / 12) (i % 12 + 1))) h1.1 h1.2.1
  have k2 := dn_nu (y := j / 12) (m := j % 12 + 1) (d := min (dDI (s / 86400)) (mlI (j / 12) (j % 12 + 1))) h2.1 h2.2.1
  have lt : nuI (i / 12) (i % 12 + 1) (min (dDI (t / 86400)) (mlI (i / 12) (i % 12 + 1))) < nuI (j / 12) (j % 12 + 1) (min (dDI (s / 86400)) (mlI (j / 12) (j % 12 + 1))) := by
    by_cases hy : i / 12 < j / 12
    · have a := h1.hi
      have b := h2.lo
      have c := ys_mono (i / 12 + 1) (j / 12) (by omega)
      omega
    · have hy : i / 12 = j / 12 := by omega
      rw [← hy] at h2 ⊢
      have a := ms_succ (i / 12) (i % 12 + 1) (by omega) (by omega)
      have b := ms_mono (i / 12) (i % 12 + 1 + 1) (j % 12 + 1) (by omega) (by omega) (by omega)
      obtain ⟨_, _, _, c⟩ := h1
      obtain ⟨_, _, d, _⟩ := h2
      unfold nuI
      omega
  omega
/-- a time is its month's day. -/
theorem mo_self (t : Int) : moT t (miI t) = t := by
  have hD := dt_date (t / 86400)
  have e1 : miI t / 12 = dYI (t / 86400) := by unfold miI; have := hD.1; have := hD.2.1; omega
  have e2 : miI t % 12 + 1 = dMI (t / 86400) := by unfold miI; have := hD.1; have := hD.2.1; omega
  unfold moT
  rw [e1, e2, Int.min_eq_left hD.2.2.2]
  unfold tmI
  rw [dn_date]; omega
theorem not_in {a lo hi : Int} (h : inB a lo hi = false) : a < lo ∨ hi < a := by
  have := of_decide_eq_false h
  omega
end Go.Proofs.YtocdabmfcbmpaaaGreatDoor
