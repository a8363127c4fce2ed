import Derived.Test.YtocdabmfcbmpaaaGreatDoorAA9
import Derived.Test.YtocdabmfcbmpaaaGreatDoorSW2
namespace Go.Proofs.YtocdabmfcbmpaaaGreatDoor
open Go.RowKit
set_option linter.unusedVariables false
set_option linter.unusedSimpArgs false

/-! ### Start: the mathematics -/
def stI (t : Int) (u : Nat) : Int :=
  if u < 5 then t - (t + 62135596800) % lenI u
  else if u = 5 then tmI (dYI (t / 86400)) (dMI (t / 86400)) 1 0 0 0
  else tmI (dYI (t / 86400)) 1 1 0 0 0
theorem st_five (t : Int) : stI t 5 = dnI (dYI (t / 86400)) (dMI (t / 86400)) 1 * 86400 := by
  unfold stI tmI; rw [if_neg (by decide), if_pos rfl]; omega
theorem st_six (t : Int) : stI t 6 = dnI (dYI (t / 86400)) 1 1 * 86400 := by
  unfold stI tmI; rw [if_neg (by decide), if_neg (by decide)]; omega
theorem dn_lin (y m d : Int) : dnI y m d = dnI y m 1 + (d - 1) := by unfold dnI; omega
theorem dn_le {y m d : Int} (h : Dt y m d) : dnI y 1 1 ≤ dnI y m d := by
  have h1 := h.1; have h2 := h.2.1; have h3 := h.2.2.1
  rw [dn_nu h1 h2, dn_nu (by decide) (by decide)]
  have := h.lo
  rw [nu_first]; omega
theorem dt_one {y m : Int} (h1 : 1 ≤ m) (h2 : m ≤ 12) : Dt y m 1 := ⟨h1, h2, by decide, by have := ml_bd y m; omega⟩
theorem st_le {t : Int} {u : Nat} (hu : u < 7) : stI t u ≤ t := by
  by_cases h : u < 5
  · unfold stI; rw [if_pos h]
    have := Int.emod_nonneg (t + 62135596800) (show lenI u ≠ 0 by have := len_bd u; omega)
    omega
  · have hd := dt_date (t / 86400)
    have he := dn_date (t / 86400)
    have : u = 5 ∨ u = 6 := by omega
    rcases this with rfl | rfl
    · rw [st_five]
      have := dn_lin (dYI (t / 86400)) (dMI (t / 86400)) (dDI (t / 86400))
      have := hd.2.2.1
      omega
    · rw [st_six]
      have := dn_le hd
      omega
theorem st_day5 (t : Int) : dYI (stI t 5 / 86400) = dYI (t / 86400) ∧ dMI (stI t 5 / 86400) = dMI (t / 86400) := by
  have hd := dt_date (t / 86400)
  have h := date_nu (dt_one (y := dYI (t / 86400)) hd.1 hd.2.1)
  rw [st_five, Int.mul_ediv_cancel _ (by decide)]
  exact ⟨h.1, h.2.1⟩
theorem st_day6 (t : Int) : dYI (stI t 6 / 86400) = dYI (t / 86400) ∧ dMI (stI t 6 / 86400) = 1 := by
  have h := date_nu (dt_one (y := dYI (t / 86400)) (m := 1) (by decide) (by decide))
  rw [st_six, Int.mul_ediv_cancel _ (by decide)]
  exact ⟨h.1, h.2.1⟩
theorem st_same {t : Int} {u : Nat} (hu : u < 7) : stI (stI t u) u = stI t u := by
  by_cases h : u < 5
  · have e : ∀ x, stI x u = x - (x + 62135596800) % lenI u := fun x => by unfold stI; rw [if_pos h]
    rw [e, e]
    have : (t - (t + 62135596800) % lenI u + 62135596800) % lenI u = 0 := by
      rw [show t - (t + 62135596800) % lenI u + 62135596800 = (t + 62135596800) - (t + 62135596800) % lenI u by omega]
      generalize t + 62135596800 = z
      have h1 := Int.emod_add_mul_ediv z (lenI u)
      rw [show z - z % lenI u = lenI u * (z / lenI u) by omega]
      exact Int.mul_emod_right _ _
    omega
  · have : u = 5 ∨ u = 6 := by omega
    rcases this with rfl | rfl
    · have hs := st_day5 t
      rw [st_five (stI t 5), hs.1, hs.2, ← st_five]
    · have hs := st_day6 t
      rw [st_six (stI t 6), hs.1, ← st_six]
theorem st_lo {t : Int} {u : Nat} (hu : u < 7) (t0 : -62135596800 ≤ t) : -62135596800 ≤ stI t u := by
  by_cases h : u < 5
  · unfold stI; rw [if_pos h]
    have hl := len_bd u
    have h1 := Int.emod_add_mul_ediv (t + 62135596800) (lenI u)
    have h2 : 0 ≤ lenI u * ((t + 62135596800) / lenI u) := Int.mul_nonneg (by omega) (Int.ediv_nonneg (by omega) (by omega))
    omega
  · have hy : 1 ≤ dYI (t / 86400) := by
      by_cases hy : 1 ≤ dYI (t / 86400)
      · exact hy
      · exfalso
        have hh := (dt_date (t / 86400)).hi
        have := ys_mono (dYI (t / 86400) + 1) 1 (by omega)
        rw [nu_date] at hh
        rw [ys_one] at this
        omega
    have hd := dt_date (t / 86400)
    have h1 := ys_mono 1 (dYI (t / 86400)) hy
    rw [ys_one] at h1
    have h5 := (dt_one (y := dYI (t / 86400)) hd.1 hd.2.1).lo
    have : u = 5 ∨ u = 6 := by omega
    rcases this with rfl | rfl
    · rw [st_five, dn_nu hd.1 hd.2.1]; omega
    · rw [st_six, dn_nu (by decide) (by decide), nu_first]; omega
theorem st_zero {t : Int} {u : Nat} (hu : u < 7) (t0 : -62135596800 ≤ t) (t1 : t ≤ 253402300799) : btI (stI t u) t u = 0 := by
  have hle := st_le (t := t) hu
  have hlo := st_lo hu t0
  by_cases h : u < 5
  · unfold btI; rw [if_pos h]
    have hl := len_bd u
    have e : t - stI t u = (t + 62135596800) % lenI u := by unfold stI; rw [if_pos h]; omega
    rw [e]
    exact Int.ediv_eq_zero_of_lt (Int.emod_nonneg _ (by omega)) (Int.emod_lt_of_pos _ (by omega))
  · have hk := (between_bd hu hlo t1 hle).1
    have hn : btN (stI t u) t u = 0 := by
      unfold btN
      have : u = 5 ∨ u = 6 := by omega
      rcases this with rfl | rfl
      · rw [if_pos rfl, (st_day5 t).1, (st_day5 t).2]; omega
      · rw [if_neg (by decide), (st_day6 t).1]; omega
    have hb2 : btI (stI t u) t u = match addI (stI t u) 0 u with
      | some x => if t < x then 0 - 1 else 0
      | none => 0 - 1 := by unfold btI; rw [if_neg h, hn]; rfl
    rw [hb2] at hk ⊢
    cases ha : addI (stI t u) 0 u with
    | none => rw [ha] at hk; simp at hk
    | some x =>
      rw [ha] at hk
      simp only at hk ⊢
      split at hk <;> rename_i hb
      · omega
      · rw [if_neg hb]
/-- what Start tells. -/
def stX (t : Int) (s : ByteArray) : Int × Int :=
  if inT' t = true then match unF s unitL 0 with
    | none => (0, 5)
    | some u => (stI t u, 0)
  else (0, 7)
/-- how the program reckons it. -/
theorem st_small (t : Int) (u : Nat) (h : u < 4) : t / lenI u * lenI u = stI t u := by
  match u, h with
  | 0, _ => simp [stI, lenI]
  | 1, _ => simp [stI, lenI]; omega
  | 2, _ => simp [stI, lenI]; omega
  | 3, _ => simp [stI, lenI]; omega
theorem st_week (t : Int) : t / 86400 * 86400 - (weekdayI t - 1) * 86400 = stI t 4 := by
  unfold weekdayI; simp [stI, lenI]; omega
end Go.Proofs.YtocdabmfcbmpaaaGreatDoor
