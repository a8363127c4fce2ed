/-
  The mathematics of days: the number of a day by its date, and the date of a day by its number. No memory, no program.
-/
import Derived.Lib.Hide
namespace Go.Proofs.YtocdabmfcbmpaaaGreatDoor
set_option linter.unusedVariables false

/-! ### the year of an era's day, by going through all 146097 of them -/
def yoN (e : Nat) : Nat := (e - e/1460 + e/36524 - e/146096)/365
def okN (e : Nat) : Bool :=
  let y := yoN e
  Nat.ble y 399 && Nat.ble (y*365 + y/4 - y/100) e && Nat.ble (e+1) ((y+1)*365 + (y+1)/4 - (y+1)/100 + (y+1)/400)
/-- all numbers in a range. -/
def allN (f : Nat → Bool) : Nat → Nat → Bool
  | 0, a => f a
  | k + 1, a => allN f k a && allN f k (a + 2 ^ k)
theorem allN_of {f : Nat → Bool} : ∀ {k a : Nat}, allN f k a = true → ∀ x, a ≤ x → x < a + 2 ^ k → f x = true
  | 0, a, h, x, h1, h2 => by
    have : x = a := by simp at h2; omega
    subst this; exact h
  | k + 1, a, h, x, h1, h2 => by
    simp only [allN, Bool.and_eq_true] at h
    by_cases c : x < a + 2 ^ k
    · exact allN_of h.1 x h1 c
    · exact allN_of h.2 x (by omega) (by rw [Nat.pow_succ] at h2; omega)
theorem ok_all : allN (fun e => Nat.ble 146097 e || okN e) 18 0 = true := by decide +kernel
theorem yo_nat (e : Nat) (h : e ≤ 146096) : yoN e ≤ 399 ∧ yoN e * 365 + yoN e / 4 - yoN e / 100 ≤ e ∧ e + 1 ≤ (yoN e + 1) * 365 + (yoN e + 1) / 4 - (yoN e + 1) / 100 + (yoN e + 1) / 400 := by
  have h1 := allN_of ok_all e (Nat.zero_le _) (by omega)
  simp only [okN, Bool.or_eq_true, Bool.and_eq_true, Nat.ble_eq] at h1
  rcases h1 with h1 | ⟨⟨h1, h2⟩, h3⟩
  · omega
  · exact ⟨h1, h2, h3⟩
end Go.Proofs.YtocdabmfcbmpaaaGreatDoor
