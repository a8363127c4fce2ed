import Derived.Test.YtocdabmfcbmpaaaGreatDoorCA1
namespace Go.Proofs.YtocdabmfcbmpaaaGreatDoor
set_option linter.unusedVariables false

def lpI (y : Int) : Int := if y % 4 = 0 ∧ (y % 100 ≠ 0 ∨ y % 400 = 0) then 1 else 0
def whI (y : Int) : Int := 365 + lpI y
/-- a month's length. -/
def mlI (y m : Int) : Int := if m = 2 then 28 + lpI y else if m = 4 ∨ m = 6 ∨ m = 9 ∨ m = 11 then 30 else 31
/-- the days of the years before. -/
def ysI (y : Int) : Int := 365 * (y - 1) + (y - 1) / 4 - (y - 1) / 100 + (y - 1) / 400
/-- the days of the months before. -/
def msI (y m : Int) : Int := if m ≤ 2 then 31 * (m - 1) else (153 * (m - 3) + 2) / 5 + 59 + lpI y
theorem lp_01 (y : Int) : 0 ≤ lpI y ∧ lpI y ≤ 1 := by unfold lpI; split <;> omega
theorem ml_bd (y m : Int) : 28 ≤ mlI y m ∧ mlI y m ≤ 31 := by have := lp_01 y; unfold mlI; split; omega; split <;> omega
theorem ys_succ (y : Int) : ysI (y + 1) = ysI y + whI y := by unfold ysI whI lpI; split <;> omega
theorem ms_one (y : Int) : msI y 1 = 0 := by unfold msI; simp
theorem ms_succ (y m : Int) (h1 : 1 ≤ m) (h2 : m ≤ 12) : msI y (m + 1) = msI y m + mlI y m := by
  have hm : m = 1 ∨ m = 2 ∨ m = 3 ∨ m = 4 ∨ m = 5 ∨ m = 6 ∨ m = 7 ∨ m = 8 ∨ m = 9 ∨ m = 10 ∨ m = 11 ∨ m = 12 := by omega
  rcases hm with rfl | rfl | rfl | rfl | rfl | rfl | rfl | rfl | rfl | rfl | rfl | rfl <;> simp [msI, mlI] <;> omega
theorem ms_13 (y : Int) : msI y 13 = whI y := by simp [msI, whI]
theorem ms_mono (y m k : Int) (h1 : 1 ≤ m) (h2 : m ≤ k) (h3 : k ≤ 13) : msI y m ≤ msI y k := by
  have := lp_01 y
  unfold msI
  split <;> split <;> omega
theorem ys_mono (a b : Int) (h : a ≤ b) : ysI a ≤ ysI b := by unfold ysI; omega
/-- a date is one. -/
def Dt (y m d : Int) : Prop := 1 ≤ m ∧ m ≤ 12 ∧ 1 ≤ d ∧ d ≤ mlI y m
/-- the number of a day, 0 for January 1 of the year 1. -/
def nuI (y m d : Int) : Int := ysI y + msI y m + (d - 1)
theorem Dt.lo {y m d : Int} (h : Dt y m d) : ysI y ≤ nuI y m d := by
  obtain ⟨h1, h2, h3, h4⟩ := h
  have := ms_mono y 1 m (by omega) h1 (by omega)
  rw [ms_one] at this
  unfold nuI; omega
theorem Dt.hi {y m d : Int} (h : Dt y m d) : nuI y m d < ysI (y + 1) := by
  obtain ⟨h1, h2, h3, h4⟩ := h
  have e1 := ms_succ y m h1 h2
  have := ms_mono y (m + 1) 13 (by omega) (by omega) (by omega)
  rw [ms_13] at this
  rw [ys_succ]
  unfold nuI; omega
theorem nu_inj {y m d y' m' d' : Int} (h : Dt y m d) (h' : Dt y' m' d') (e : nuI y m d = nuI y' m' d') : y = y' ∧ m = m' ∧ d = d' := by
  have hy : y = y' := by
    have l1 := h.lo; have l2 := h.hi; have l3 := h'.lo; have l4 := h'.hi
    refine Int.le_antisymm ?_ ?_
    · refine Int.not_lt.1 fun hlt => ?_
      have := ys_mono (y' + 1) y (by omega); omega
    · refine Int.not_lt.1 fun hlt => ?_
      have := ys_mono (y + 1) y' (by omega); omega
  subst hy
  obtain ⟨h1, h2, h3, h4⟩ := h
  obtain ⟨k1, k2, k3, k4⟩ := h'
  have e1 := ms_succ y m h1 h2
  have e2 := ms_succ y m' k1 k2
  unfold nuI at e
  have hm : m = m' := by
    refine Int.le_antisymm ?_ ?_
    · refine Int.not_lt.1 fun hlt => ?_
      have := ms_mono y (m' + 1) m (by omega) (by omega) (by omega); omega
    · refine Int.not_lt.1 fun hlt => ?_
      have := ms_mono y (m + 1) m' (by omega) (by omega) (by omega); omega
  subst hm
  exact ⟨rfl, rfl, by omega⟩

/-! ### the program's reckoning -/
/-- years from March on. -/
def yM (y m : Int) : Int := if m - 3 < 0 then y - 1 else y
def mM (m : Int) : Int := if m - 3 < 0 then m - 3 + 12 else m - 3
def dnI (y m d : Int) : Int := yM y m * 365 + yM y m / 4 - yM y m / 100 + yM y m / 400 + (153 * mM m + 2) / 5 + d - 1 - 719468
theorem dn_nu {y m d : Int} (h1 : 1 ≤ m) (h2 : m ≤ 12) : dnI y m d = nuI y m d - 719162 := by
  unfold dnI nuI msI ysI yM mM lpI
  by_cases h : m - 3 < 0
  · have : m = 1 ∨ m = 2 := by omega
    rcases this with rfl | rfl <;> simp <;> omega
  · have : ¬ m ≤ 2 := by omega
    simp only [if_neg h, if_neg this]
    split <;> omega
/-! the date of a day. -/
def erI (n : Int) : Int := (n + 719468) / 146097
def eI (n : Int) : Int := n + 719468 - erI n * 146097
def yoI (n : Int) : Int := (eI n - eI n / 1460 + eI n / 36524 - eI n / 146096) / 365
def rI (n : Int) : Int := eI n - (yoI n * 365 + yoI n / 4 - yoI n / 100)
def moI (n : Int) : Int := (5 * rI n + 2) / 153
def dYI (n : Int) : Int := if moI n + 3 > 12 then yoI n + erI n * 400 + 1 else yoI n + erI n * 400
def dMI (n : Int) : Int := if moI n + 3 > 12 then moI n + 3 - 12 else moI n + 3
def dDI (n : Int) : Int := rI n - (153 * moI n + 2) / 5 + 1
theorem e_bd (n : Int) : 0 ≤ eI n ∧ eI n ≤ 146096 := by unfold eI erI; omega
theorem yo_bd (n : Int) : 0 ≤ yoI n ∧ yoI n ≤ 399 ∧ yoI n * 365 + yoI n / 4 - yoI n / 100 ≤ eI n ∧ eI n + 1 ≤ (yoI n + 1) * 365 + (yoI n + 1) / 4 - (yoI n + 1) / 100 + (yoI n + 1) / 400 := by
  obtain ⟨h0, h1⟩ := e_bd n
  obtain ⟨e, he⟩ : ∃ e : Nat, eI n = e := ⟨(eI n).toNat, by omega⟩
  obtain ⟨a, b, c⟩ := yo_nat e (by omega)
  have hy : yoI n = (yoN e : Int) := by
    unfold yoI yoN
    rw [he]
    omega
  rw [hy, he]
  clear hy
  generalize yoN e = y at *
  obtain ⟨z, hz⟩ : ∃ z, y + 1 = z := ⟨_, rfl⟩
  rw [hz] at c
  have hz' : (y : Int) + 1 = (z : Int) := by omega
  rw [hz']
  omega
theorem r_bd (n : Int) : 0 ≤ rI n ∧ rI n ≤ 364 + lpI (yoI n + 1) := by
  obtain ⟨h1, h2, h3, h4⟩ := yo_bd n
  unfold rI lpI
  generalize yoI n = y at *
  generalize eI n = e at *
  split <;> omega
theorem mo_bd (n : Int) : 0 ≤ moI n ∧ moI n ≤ 11 := by
  have := r_bd n; have := lp_01 (yoI n + 1)
  unfold moI; omega
theorem dt_date (n : Int) : Dt (dYI n) (dMI n) (dDI n) := by
  have h1 := r_bd n
  have h2 := mo_bd n
  have hl := lp_01 (yoI n + 1)
  have hlp : lpI (yoI n + 1) = lpI (yoI n + erI n * 400 + 1) := by unfold lpI; generalize yoI n = y; generalize erI n = e; split <;> split <;> omega
  have hm : moI n = (5 * rI n + 2) / 153 := rfl
  unfold Dt dYI dMI dDI mlI
  generalize moI n = mo at *
  generalize rI n = r at *
  rw [hlp] at h1
  have : mo = 0 ∨ mo = 1 ∨ mo = 2 ∨ mo = 3 ∨ mo = 4 ∨ mo = 5 ∨ mo = 6 ∨ mo = 7 ∨ mo = 8 ∨ mo = 9 ∨ mo = 10 ∨ mo = 11 := by omega
  rcases this with rfl | rfl | rfl | rfl | rfl | rfl | rfl | rfl | rfl | rfl | rfl | rfl <;> simp <;> omega
theorem dn_date (n : Int) : dnI (dYI n) (dMI n) (dDI n) = n := by
  have h2 := mo_bd n
  obtain ⟨y1, y2, _, _⟩ := yo_bd n
  have hr : rI n = eI n - (yoI n * 365 + yoI n / 4 - yoI n / 100) := rfl
  have he : eI n = n + 719468 - erI n * 146097 := rfl
  have hY : yM (dYI n) (dMI n) = yoI n + erI n * 400 := by unfold yM dYI dMI; split <;> split <;> omega
  have hM : mM (dMI n) = moI n := by unfold mM dMI; split <;> split <;> omega
  unfold dnI
  rw [hY, hM]
  unfold dDI
  generalize moI n = mo at *
  generalize yoI n = y at *
  generalize erI n = er at *
  have k1 : (y + er * 400) / 4 = y / 4 + er * 100 := by omega
  have k2 : (y + er * 400) / 100 = y / 100 + er * 4 := by omega
  have k3 : (y + er * 400) / 400 = er := by omega
  rw [k1, k2, k3]
  clear k1 k2 k3 hY hM
  omega
theorem nu_date (n : Int) : nuI (dYI n) (dMI n) (dDI n) = n + 719162 := by
  have h := dt_date n
  have := dn_nu (d := dDI n) (y := dYI n) h.1 h.2.1
  rw [dn_date] at this
  omega
theorem date_nu {y m d : Int} (h : Dt y m d) : dYI (dnI y m d) = y ∧ dMI (dnI y m d) = m ∧ dDI (dnI y m d) = d := by
  refine nu_inj (dt_date _) h ?_
  rw [nu_date, dn_nu h.1 h.2.1]
  omega
end Go.Proofs.YtocdabmfcbmpaaaGreatDoor
