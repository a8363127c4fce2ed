import Derived.Test.YtkpoegdcmnjedaaDoorNA1
namespace Go.Proofs.YtkpoegdcmnjedaaDoor
open Go.RowKit
set_option linter.unusedVariables false
set_option linter.unusedSimpArgs false

/-! ### sums of bits -/
abbrev fAnd (x y : Nat) : Nat := x &&& y
abbrev fOr (x y : Nat) : Nat := x ||| y
abbrev fXor (x y : Nat) : Nat := x ^^^ y
theorem V_and_or {l m : List Nat} : ∀ i, i ≤ l.length → V B32 (zipD fAnd l m) i + V B32 (zipD fOr l m) i = V B32 l i + V B32 m i
  | 0, _ => rfl
  | i + 1, h => by
    have ih := V_and_or (l := l) (m := m) i (by omega)
    rw [V_succ, V_succ, V_succ, V_succ, dg_zipD (by omega), dg_zipD (by omega)]
    have e := congrArg (B32 ^ i * ·) (and_or (dg l i) (dg m i))
    simp only [Nat.mul_add] at e
    show _ + B32 ^ i * (dg l i &&& dg m i) + (_ + B32 ^ i * (dg l i ||| dg m i)) = _
    omega
theorem V_xor_and {l m : List Nat} : ∀ i, i ≤ l.length → V B32 (zipD fXor l m) i + 2 * V B32 (zipD fAnd l m) i = V B32 l i + V B32 m i
  | 0, _ => rfl
  | i + 1, h => by
    have ih := V_xor_and (l := l) (m := m) i (by omega)
    rw [V_succ, V_succ, V_succ, V_succ, dg_zipD (by omega), dg_zipD (by omega)]
    have e := congrArg (B32 ^ i * ·) (xor_and (dg l i) (dg m i))
    simp only [Nat.mul_add] at e
    have e2 : B32 ^ i * (2 * (dg l i &&& dg m i)) = 2 * (B32 ^ i * (dg l i &&& dg m i)) := by rw [← Nat.mul_assoc, Nat.mul_comm (B32 ^ i) 2, Nat.mul_assoc]
    show _ + B32 ^ i * (dg l i ^^^ dg m i) + 2 * (_ + B32 ^ i * (dg l i &&& dg m i)) = _
    omega
theorem val_zip {f : Nat → Nat → Nat} {l m : List Nat} : val B32 (zipD f l m) = V B32 (zipD f l m) l.length := by unfold val; rw [zipD_length]
/-- the numbers' digits, all of one length. -/
def twLen (x y : Int) : Nat := max (nd x.natAbs) (nd y.natAbs) + 1
theorem twLen_lt (x y : Int) : nd x.natAbs < twLen x y ∧ nd y.natAbs < twLen x y := by unfold twLen; omega
theorem tw_top (f : Nat → Nat → Nat) (x y : Int) : dg (zipD f (twL x (twLen x y)) (twL y (twLen x y))) (twLen x y - 1) = f (if x < 0 then 4294967295 else 0) (if y < 0 then 4294967295 else 0) := by
  have h := twLen_lt x y
  rw [dg_zipD (by rw [twL_length]; omega), dg_twL (by omega), dg_twL (by omega), twD_top h.1, twD_top h.2]
theorem twZ_eq (f : Nat → Nat → Nat) (x y : Int) : twZ f x y = if 2147483648 ≤ f (if x < 0 then 4294967295 else 0) (if y < 0 then 4294967295 else 0) then (V B32 (zipD f (twL x (twLen x y)) (twL y (twLen x y))) (twLen x y) : Int) - (B32 ^ twLen x y : Nat) else (V B32 (zipD f (twL x (twLen x y)) (twL y (twLen x y))) (twLen x y) : Int) := by
  have h1 := tw_top f x y
  have h2 := val_zip (f := f) (l := twL x (twLen x y)) (m := twL y (twLen x y))
  rw [twL_length] at h2
  show twV (zipD f (twL x (twLen x y)) (twL y (twLen x y))) = _
  unfold twV
  rw [zipD_length, twL_length, h1, h2]
theorem tw_self (x : Int) {L : Nat} (h : nd x.natAbs < L) : x = if x < 0 then (V B32 (twL x L) L : Int) - (B32 ^ L : Nat) else (V B32 (twL x L) L : Int) := by
  have h1 := twV_twL h
  unfold twV at h1
  have h2 : val B32 (twL x L) = V B32 (twL x L) L := by unfold val; rw [twL_length]
  rw [twL_length, dg_twL (by omega), twD_top h, h2] at h1
  by_cases hx : x < 0
  · rw [if_pos hx, if_pos (by decide)] at h1
    rw [if_pos hx]; exact h1.symm
  · rw [if_neg hx, if_neg (by decide)] at h1
    rw [if_neg hx]; exact h1.symm
theorem twZ_and_or (x y : Int) : twZ fOr x y + twZ fAnd x y = x + y := by
  have h := twLen_lt x y
  have e := V_and_or (l := twL x (twLen x y)) (m := twL y (twLen x y)) (twLen x y) (by rw [twL_length]; exact Nat.le_refl _)
  have hx := tw_self x h.1
  have hy := tw_self y h.2
  rw [twZ_eq, twZ_eq]
  generalize V B32 (zipD fAnd (twL x (twLen x y)) (twL y (twLen x y))) (twLen x y) = va at *
  generalize V B32 (zipD fOr (twL x (twLen x y)) (twL y (twLen x y))) (twLen x y) = vo at *
  generalize V B32 (twL x (twLen x y)) (twLen x y) = vx at *
  generalize V B32 (twL y (twLen x y)) (twLen x y) = vy at *
  generalize B32 ^ twLen x y = p at *
  have t11 : fAnd 4294967295 4294967295 = 4294967295 := by decide
  have t10 : fAnd 4294967295 0 = 0 := by decide
  have t01 : fAnd 0 4294967295 = 0 := by decide
  have t00 : fAnd 0 0 = 0 := by decide
  have o11 : fOr 4294967295 4294967295 = 4294967295 := by decide
  have o10 : fOr 4294967295 0 = 4294967295 := by decide
  have o01 : fOr 0 4294967295 = 4294967295 := by decide
  have o00 : fOr 0 0 = 0 := by decide
  by_cases h1 : x < 0 <;> by_cases h2 : y < 0
  · rw [if_pos h1] at hx; rw [if_pos h2] at hy
    rw [if_pos h1, if_pos h2, t11, o11, if_pos (by decide), if_pos (by decide)]; omega
  · rw [if_pos h1] at hx; rw [if_neg h2] at hy
    rw [if_pos h1, if_neg h2, t10, o10, if_pos (by decide), if_neg (by decide)]; omega
  · rw [if_neg h1] at hx; rw [if_pos h2] at hy
    rw [if_neg h1, if_pos h2, t01, o01, if_pos (by decide), if_neg (by decide)]; omega
  · rw [if_neg h1] at hx; rw [if_neg h2] at hy
    rw [if_neg h1, if_neg h2, t00, o00, if_neg (by decide), if_neg (by decide)]; omega
theorem twZ_xor_and (x y : Int) : twZ fXor x y + (twZ fAnd x y + twZ fAnd x y) = x + y := by
  have h := twLen_lt x y
  have e := V_xor_and (l := twL x (twLen x y)) (m := twL y (twLen x y)) (twLen x y) (by rw [twL_length]; exact Nat.le_refl _)
  have hx := tw_self x h.1
  have hy := tw_self y h.2
  rw [twZ_eq, twZ_eq]
  generalize V B32 (zipD fAnd (twL x (twLen x y)) (twL y (twLen x y))) (twLen x y) = va at *
  generalize V B32 (zipD fXor (twL x (twLen x y)) (twL y (twLen x y))) (twLen x y) = vo at *
  generalize V B32 (twL x (twLen x y)) (twLen x y) = vx at *
  generalize V B32 (twL y (twLen x y)) (twLen x y) = vy at *
  generalize B32 ^ twLen x y = p at *
  have t11 : fAnd 4294967295 4294967295 = 4294967295 := by decide
  have t10 : fAnd 4294967295 0 = 0 := by decide
  have t01 : fAnd 0 4294967295 = 0 := by decide
  have t00 : fAnd 0 0 = 0 := by decide
  have o11 : fXor 4294967295 4294967295 = 0 := by decide
  have o10 : fXor 4294967295 0 = 4294967295 := by decide
  have o01 : fXor 0 4294967295 = 4294967295 := by decide
  have o00 : fXor 0 0 = 0 := by decide
  by_cases h1 : x < 0 <;> by_cases h2 : y < 0
  · rw [if_pos h1] at hx; rw [if_pos h2] at hy
    rw [if_pos h1, if_pos h2, t11, o11, if_neg (by decide), if_pos (by decide)]; omega
  · rw [if_pos h1] at hx; rw [if_neg h2] at hy
    rw [if_pos h1, if_neg h2, t10, o10, if_pos (by decide), if_neg (by decide)]; omega
  · rw [if_neg h1] at hx; rw [if_pos h2] at hy
    rw [if_neg h1, if_pos h2, t01, o01, if_pos (by decide), if_neg (by decide)]; omega
  · rw [if_neg h1] at hx; rw [if_neg h2] at hy
    rw [if_neg h1, if_neg h2, t00, o00, if_neg (by decide), if_neg (by decide)]; omega
theorem twV_bd {l : List Nat} (h : Dig B32 l) : (twV l).natAbs ≤ B32 ^ l.length := by
  have h1 := val_lt h
  unfold twV
  generalize val B32 l = v at *
  generalize B32 ^ l.length = p at *
  split <;> omega
theorem zipD_dig {f : Nat → Nat → Nat} (hf : ∀ a b, a < 4294967296 → b < 4294967296 → f a b < 4294967296) {l m : List Nat} (hl : Dig B32 l) (hm : Dig B32 m) : Dig B32 (zipD f l m) := by
  intro i
  show dg ((List.range l.length).map _) i < 4294967296
  rw [dg_map]; split
  · exact hf _ _ (hl i) (hm i)
  · decide
theorem twZ_bd {f : Nat → Nat → Nat} (hf : ∀ a b, a < 4294967296 → b < 4294967296 → f a b < 4294967296) (x y : Int) : (twZ f x y).natAbs ≤ B32 ^ twLen x y := by
  have := twV_bd (zipD_dig hf (twL_dig x (twLen x y)) (twL_dig y (twLen x y)))
  rw [zipD_length, twL_length] at this
  exact this
theorem fAnd_lt : ∀ a b, a < 4294967296 → b < 4294967296 → fAnd a b < 4294967296 := fun a b ha hb => Nat.and_lt_two_pow (n := 32) a hb
theorem fOr_lt : ∀ a b, a < 4294967296 → b < 4294967296 → fOr a b < 4294967296 := fun a b ha hb => Nat.or_lt_two_pow (n := 32) ha hb
theorem fXor_lt : ∀ a b, a < 4294967296 → b < 4294967296 → fXor a b < 4294967296 := fun a b ha hb => Nat.xor_lt_two_pow (n := 32) ha hb
end Go.Proofs.YtkpoegdcmnjedaaDoor
