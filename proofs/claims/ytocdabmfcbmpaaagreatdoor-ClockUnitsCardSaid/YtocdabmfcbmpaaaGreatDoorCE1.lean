import Derived.Test.YtocdabmfcbmpaaaGreatDoorCA2
namespace Go.Proofs.YtocdabmfcbmpaaaGreatDoor
set_option linter.unusedVariables false

/-! ### Easter, by going through all 9999 years -/
def moonP (y : Int) : Int := (19 * (y % 19) + y / 100 - y / 100 / 4 - (y / 100 - (y / 100 + 8) / 25 + 1) / 3 + 15) % 30
def sunP (y : Int) : Int := (32 + 2 * (y / 100 % 4) + 2 * (y % 100 / 4) - moonP y - y % 4) % 7
def lateP (y : Int) : Int := (y % 19 + 11 * moonP y + 22 * sunP y) / 451
def eaP (y : Int) : Int := moonP y + sunP y - 7 * lateP y + 114
def epR (y : Int) : Int := (11 * (y % 19 + 1) + 20 + ((8 * (y / 100 + 1) + 5) / 25 - 5) - (3 * (y / 100 + 1) / 4 - 12)) % 30
def epR' (y : Int) : Int := if (epR y = 25 ∧ 11 < y % 19 + 1) ∨ epR y = 24 then epR y + 1 else epR y
def fullR (y : Int) : Int := if 44 - epR' y < 21 then 44 - epR' y + 30 else 44 - epR' y
def dayR (y : Int) : Int := nuI y 3 1 + fullR y - 1
def eaR (y : Int) : Int := dayR y + (7 - (dayR y % 7 + 1) % 7)
def eaOk (y : Int) : Bool :=
  decide (eaR y = nuI y (eaP y / 31) (eaP y % 31 + 1)) && decide (eaR y % 7 = 6) &&
  (decide (eaP y / 31 = 3) && decide (22 ≤ eaP y % 31 + 1) || decide (eaP y / 31 = 4) && decide (eaP y % 31 + 1 ≤ 25))
theorem ea_all : allN (fun y => Nat.beq y 0 || Nat.ble 10000 y || eaOk y) 14 0 = true := by decide +kernel
theorem ea_ok {y : Int} (h1 : 1 ≤ y) (h2 : y ≤ 9999) : eaR y = nuI y (eaP y / 31) (eaP y % 31 + 1) ∧ eaR y % 7 = 6 ∧ ((eaP y / 31 = 3 ∧ 22 ≤ eaP y % 31 + 1) ∨ (eaP y / 31 = 4 ∧ eaP y % 31 + 1 ≤ 25)) := by
  obtain ⟨n, rfl⟩ : ∃ n : Nat, y = n := ⟨y.toNat, by omega⟩
  have h := allN_of ea_all n (Nat.zero_le _) (by omega)
  simp only [eaOk, Bool.or_eq_true, Bool.and_eq_true, Nat.ble_eq, Nat.beq_eq, decide_eq_true_eq] at h
  rcases h with (h | h) | h
  · omega
  · omega
  · exact ⟨h.1.1, h.1.2, h.2⟩
end Go.Proofs.YtocdabmfcbmpaaaGreatDoor
