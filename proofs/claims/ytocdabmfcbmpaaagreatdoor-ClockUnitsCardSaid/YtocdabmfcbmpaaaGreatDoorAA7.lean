import Derived.Test.YtocdabmfcbmpaaaGreatDoorAA6
namespace Go.Proofs.YtocdabmfcbmpaaaGreatDoor
open Go.RowKit
set_option linter.unusedVariables false
set_option linter.unusedSimpArgs false

/-! ### Between: the mathematics -/
def btN (a b : Int) (u : Nat) : Int := if u = 5 then (dYI (b / 86400) - dYI (a / 86400)) * 12 + dMI (b / 86400) - dMI (a / 86400) else dYI (b / 86400) - dYI (a / 86400)
def btI (a b : Int) (u : Nat) : Int :=
  if u < 5 then (b - a) / lenI u
  else match addI a (btN a b u) u with
    | some x => if b < x then btN a b u - 1 else btN a b u
    | none => btN a b u - 1
def kkI (u : Nat) : Int := if u = 6 then 12 else 1
theorem add_big {t n : Int} {u : Nat} (hu : ¬ u < 5) : addI t n u = if n ≤ 119988 ∧ -119988 ≤ n ∧ 12 ≤ miI t + n * kkI u ∧ miI t + n * kkI u < 120000 then some (moT t (miI t + n * kkI u)) else none := by
  unfold addI kkI; rw [if_neg hu]
theorem add_less {t n : Int} {u : Nat} (hu : u < 5) : addI t n u = if n ≤ 315537897599 ∧ -315537897599 ≤ n ∧ -62135596800 ≤ t + n * lenI u ∧ t + n * lenI u ≤ 253402300799 then some (t + n * lenI u) else none := by
  unfold addI; rw [if_pos hu]
theorem mo_same {t i j : Int} (h : dDI (t / 86400) ≤ 28) : moT (moT t i) j = moT t j := by
  have hD := day_pos (t / 86400)
  have hl := ml_bd (i / 12) (i % 12 + 1)
  have e1 := (mo_date (i := i) hD).2.2
  have e2 := (mo_day (i := i) hD).2
  rw [Int.min_eq_left (by omega)] at e1
  generalize moT t i = X at *
  unfold moT
  rw [e1, e2]
theorem some_of {c : Prop} [Decidable c] {x y : Int} (h : (if c then some x else none) = some y) : c ∧ x = y := by
  by_cases hc : c
  · rw [if_pos hc] at h; exact ⟨hc, Option.some.inj h⟩
  · rw [if_neg hc] at h; cases h
theorem kk_or (u : Nat) : kkI u = 1 ∨ kkI u = 12 := by unfold kkI; split <;> omega
/-- adding goes together. -/
theorem add_twice {t m n a b : Int} {u : Nat} (t0 : -62135596800 ≤ t) (t1 : t ≤ 253402300799) (hm : -1000000000 ≤ m ∧ m ≤ 1000000000) (hn : -1000000000 ≤ n ∧ n ≤ 1000000000) (hd : dDI (t / 86400) ≤ 28) (h : addI t m u = some a) (k : addI a n u = some b) : addI t (m + n) u = some b := by
  by_cases hu : u < 5
  · rw [add_less hu] at h k ⊢
    obtain ⟨h1, rfl⟩ := some_of h
    obtain ⟨k1, rfl⟩ := some_of k
    have e : t + (m + n) * lenI u = t + m * lenI u + n * lenI u := by rw [Int.add_mul]; omega
    rw [e, if_pos ⟨by omega, by omega, k1.2.2.1, k1.2.2.2⟩]
  · rw [add_big hu] at h k ⊢
    obtain ⟨h1, rfl⟩ := some_of h
    rw [mo_index (day_pos _)] at k
    obtain ⟨k1, rfl⟩ := some_of k
    have hmi := mi_bd t0 t1
    have e : miI t + (m + n) * kkI u = miI t + m * kkI u + n * kkI u := by rw [Int.add_mul]; omega
    rw [mo_same hd, e]
    have hb : m + n ≤ 119988 ∧ -119988 ≤ m + n := by
      have e2 : (m + n) * kkI u = m * kkI u + n * kkI u := Int.add_mul _ _ _
      rcases kk_or u with hk | hk <;> rw [hk] at e2 k1 <;> omega
    rw [if_pos ⟨hb.1, hb.2, k1.2.2.1, k1.2.2.2⟩]
theorem mi_mono {a b : Int} (h : a ≤ b) : miI a ≤ miI b := by
  refine Int.not_lt.1 fun hlt => ?_
  have := mo_lt (t := b) (s := a) hlt
  rw [mo_self, mo_self] at this
  omega
/-- Between is the greatest number of units that is not too much. -/
theorem between_most {t b : Int} {u : Nat} (hu7 : u < 7) (t0 : -62135596800 ≤ t) (b1 : b ≤ 253402300799) (h : t ≤ b) :
    0 ≤ btI t b u ∧ (∃ x, addI t (btI t b u) u = some x ∧ x ≤ b) ∧ ∀ y, addI t (btI t b u + 1) u = some y → b < y := by
  by_cases hu : u < 5
  · have hl := len_bd u
    unfold btI
    rw [if_pos hu]
    obtain ⟨k, hk⟩ : ∃ k, (b - t) / lenI u = k := ⟨_, rfl⟩
    have e := Int.mul_ediv_add_emod (b - t) (lenI u)
    have r0 := Int.emod_nonneg (b - t) (show lenI u ≠ 0 by omega)
    have r1 := Int.emod_lt_of_pos (b - t) (show 0 < lenI u by omega)
    have k0 : 0 ≤ (b - t) / lenI u := Int.ediv_nonneg (by omega) (by omega)
    have k1 : (b - t) / lenI u ≤ b - t := Int.ediv_le_self _ (by omega)
    rw [hk] at e k0 k1 ⊢
    rw [Int.mul_comm] at e
    have p0 : 0 ≤ k * lenI u := Int.mul_nonneg k0 (by omega)
    refine ⟨k0, ⟨t + k * lenI u, ?_, by omega⟩, fun y hy => ?_⟩
    · rw [add_less hu, if_pos ⟨by omega, by omega, by omega, by omega⟩]
    · rw [add_less hu] at hy
      obtain ⟨_, rfl⟩ := some_of hy
      rw [Int.add_mul, Int.one_mul]
      omega
  · have ht := mi_bd t0 (by omega : t ≤ 253402300799)
    have hb := mi_bd (by omega : -62135596800 ≤ b) b1
    have hmm := mi_mono h
    have pt := parts_bd t0 (by omega : t ≤ 253402300799)
    have pb := parts_bd (by omega : -62135596800 ≤ b) b1
    have et : miI t = dYI (t / 86400) * 12 + dMI (t / 86400) - 1 := rfl
    have eb : miI b = dYI (b / 86400) * 12 + dMI (b / 86400) - 1 := rfl
    -- the index of the same month, or of the same month of that year
    obtain ⟨n, hn⟩ : ∃ n, btN t b u = n := ⟨_, rfl⟩
    have key : 0 ≤ n ∧ n ≤ 119988 ∧ miI t + n * kkI u < 120000 ∧ miI b < miI t + n * kkI u + kkI u ∧ miI t + n * kkI u - kkI u < miI b := by
      have h56 : u = 5 ∨ u = 6 := by omega
      rcases h56 with rfl | rfl
      · have e5 : n = miI b - miI t := by rw [← hn]; unfold btN; rw [if_pos rfl]; omega
        have e6 : kkI 5 = 1 := rfl
        rw [e6]; omega
      · have e5 : n = dYI (b / 86400) - dYI (t / 86400) := by rw [← hn]; rfl
        have e6 : kkI 6 = 12 := rfl
        rw [e6]; omega
    obtain ⟨n0, n1, j1, j2, j3⟩ := key
    have p0 : 0 ≤ n * kkI u := Int.mul_nonneg n0 (by rcases kk_or u with hk | hk <;> omega)
    have hadd : addI t n u = some (moT t (miI t + n * kkI u)) := by
      rw [add_big hu, if_pos ⟨by omega, by omega, by omega, by omega⟩]
    have hbt : btI t b u = if b < moT t (miI t + n * kkI u) then n - 1 else n := by
      unfold btI; rw [if_neg hu, hn, hadd]
    rw [hbt]
    by_cases hc : b < moT t (miI t + n * kkI u)
    · rw [if_pos hc]
      have n2 : 1 ≤ n := by
        refine Int.not_lt.1 fun hlt => ?_
        have : n = 0 := by omega
        rw [this, Int.zero_mul, Int.add_zero, mo_self] at hc
        omega
      have e : miI t + (n - 1) * kkI u = miI t + n * kkI u - kkI u := by rw [Int.sub_mul, Int.one_mul]; omega
      have p1 : 0 ≤ (n - 1) * kkI u := Int.mul_nonneg (by omega) (by rcases kk_or u with hk | hk <;> omega)
      refine ⟨by omega, ⟨moT t (miI t + n * kkI u - kkI u), ?_, ?_⟩, fun y hy => ?_⟩
      · rw [add_big hu, e, if_pos ⟨by omega, by omega, by omega, by rcases kk_or u with hk | hk <;> omega⟩]
      · have := mo_lt (t := t) (s := b) j3
        rw [mo_self b] at this
        omega
      · rw [Int.sub_add_cancel, hadd] at hy
        cases hy; exact hc
    · rw [if_neg hc]
      refine ⟨n0, ⟨_, hadd, by omega⟩, fun y hy => ?_⟩
      rw [add_big hu] at hy
      obtain ⟨_, rfl⟩ := some_of hy
      have e : miI t + (n + 1) * kkI u = miI t + n * kkI u + kkI u := by rw [Int.add_mul, Int.one_mul]; omega
      rw [e]
      have := mo_lt (t := b) (s := t) j2
      rw [mo_self b] at this
      exact this
end Go.Proofs.YtocdabmfcbmpaaaGreatDoor
