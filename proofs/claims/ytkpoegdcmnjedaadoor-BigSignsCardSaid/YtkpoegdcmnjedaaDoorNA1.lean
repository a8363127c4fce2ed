import Derived.Test.YtkpoegdcmnjedaaDoorMF4
namespace Go.Proofs.YtkpoegdcmnjedaaDoor
open Go.RowKit
set_option linter.unusedVariables false
set_option linter.unusedSimpArgs false

/-! ### digits of a two's complement -/
/-- the digit i of a number's two's complement. -/
def twD (x : Int) (i : Nat) : Nat := if x < 0 then 4294967295 - dg (digs B32 (x.natAbs - 1)) i else dg (digs B32 x.natAbs) i
def twL (x : Int) (L : Nat) : List Nat := (List.range L).map (twD x)
theorem twL_length (x : Int) (L : Nat) : (twL x L).length = L := by simp [twL]
theorem dg_map {f : Nat → Nat} {L i : Nat} : dg ((List.range L).map f) i = if i < L then f i else 0 := by
  unfold dg
  by_cases h : i < L
  · rw [if_pos h]; simp [h]
  · rw [if_neg h]; simp [h]
theorem twD_lt (x : Int) (i : Nat) : twD x i < 4294967296 := by
  unfold twD
  split
  · omega
  · exact digs_dig (by decide) _ i
theorem twL_dig (x : Int) (L : Nat) : Dig B32 (twL x L) := by
  intro i
  show dg ((List.range L).map (twD x)) i < 4294967296
  rw [dg_map]; split
  · exact twD_lt x i
  · decide
/-- what such digits stand for. -/
def twV (l : List Nat) : Int := if 2147483648 ≤ dg l (l.length - 1) then (val B32 l : Int) - (B32 ^ l.length : Nat) else (val B32 l : Int)
theorem V_comp {f : Nat → Nat} (hf : ∀ i, f i < 4294967296) : ∀ L i, i ≤ L → V B32 ((List.range L).map fun j => 4294967295 - f j) i + V B32 ((List.range L).map f) i + 1 = B32 ^ i
  | L, 0, _ => by simp [V]
  | L, i + 1, h => by
    have ih := V_comp hf L i (by omega)
    rw [V_succ, V_succ, dg_map, dg_map, if_pos (by omega), if_pos (by omega), Nat.pow_succ]
    have h1 := hf i
    have h2 : B32 ^ i * (4294967295 - f i) + B32 ^ i * f i + B32 ^ i * 1 = B32 ^ i * B32 := by
      rw [← Nat.mul_add, ← Nat.mul_add]
      congr 1
      show 4294967295 - f i + f i + 1 = 4294967296
      omega
    omega
theorem val_comp {f : Nat → Nat} (hf : ∀ i, f i < 4294967296) (L : Nat) : val B32 ((List.range L).map fun j => 4294967295 - f j) + val B32 ((List.range L).map f) + 1 = B32 ^ L := by
  have h := V_comp hf L L (Nat.le_refl _)
  unfold val
  simp only [List.length_map, List.length_range]
  exact h
theorem val_range {n L : Nat} (h : nd n ≤ L) : val B32 ((List.range L).map (dg (digs B32 n))) = n := by
  have e : val B32 ((List.range L).map (dg (digs B32 n))) = V B32 (digs B32 n) L := by
    unfold val
    simp only [List.length_map, List.length_range]
    refine V_congr L fun j hj => ?_
    rw [dg_map, if_pos hj]
  rw [e, V_stop L h, val_digs (by decide)]
/-- the top digit is all ones or zero. -/
theorem twD_top {x : Int} {L : Nat} (h : nd x.natAbs < L) : twD x (L - 1) = if x < 0 then 4294967295 else 0 := by
  unfold twD
  by_cases hx : x < 0
  · rw [if_pos hx, if_pos hx]
    have h1 := nd_mono (a := x.natAbs - 1) (b := x.natAbs) (Nat.sub_le _ _)
    rw [dg_ge (by show nd (x.natAbs - 1) ≤ L - 1; omega)]
  · rw [if_neg hx, if_neg hx]
    exact dg_ge (by show nd x.natAbs ≤ L - 1; omega)
theorem dg_twL {x : Int} {L i : Nat} (h : i < L) : dg (twL x L) i = twD x i := by
  unfold twL; rw [dg_map, if_pos h]
theorem twV_twL {x : Int} {L : Nat} (h : nd x.natAbs < L) : twV (twL x L) = x := by
  unfold twV
  rw [twL_length, dg_twL (by omega), twD_top h]
  by_cases hx : x < 0
  · rw [if_pos hx, if_pos (by decide)]
    have e : twL x L = (List.range L).map fun j => 4294967295 - dg (digs B32 (x.natAbs - 1)) j := by
      unfold twL; congr 1; funext j; unfold twD; rw [if_pos hx]
    have h1 := nd_mono (a := x.natAbs - 1) (b := x.natAbs) (Nat.sub_le _ _)
    have h2 := val_comp (f := dg (digs B32 (x.natAbs - 1))) (fun i => digs_dig (by decide) _ i) L
    rw [val_range (by omega)] at h2
    rw [e]
    generalize val B32 ((List.range L).map fun j => 4294967295 - dg (digs B32 (x.natAbs - 1)) j) = v at *
    generalize B32 ^ L = p at *
    omega
  · rw [if_neg hx, if_neg (by decide)]
    have e : twL x L = (List.range L).map (dg (digs B32 x.natAbs)) := by
      unfold twL; congr 1; funext j; unfold twD; rw [if_neg hx]
    rw [e, val_range (by omega)]
    omega
/-- digit by digit. -/
def zipD (f : Nat → Nat → Nat) (l m : List Nat) : List Nat := (List.range l.length).map fun i => f (dg l i) (dg m i)
theorem zipD_length (f : Nat → Nat → Nat) (l m : List Nat) : (zipD f l m).length = l.length := by simp [zipD]
theorem dg_zipD {f : Nat → Nat → Nat} {l m : List Nat} {i : Nat} (h : i < l.length) : dg (zipD f l m) i = f (dg l i) (dg m i) := by
  unfold zipD; rw [dg_map, if_pos h]
/-- what a function of two digits makes of two numbers. -/
def twZ (f : Nat → Nat → Nat) (x y : Int) : Int := twV (zipD f (twL x (max (nd x.natAbs) (nd y.natAbs) + 1)) (twL y (max (nd x.natAbs) (nd y.natAbs) + 1)))

/-! ### bits of digits -/
theorem and_or (x y : Nat) : (x &&& y) + (x ||| y) = x + y := by
  induction x using Nat.strongRecOn generalizing y with
  | _ x ih =>
    by_cases hx : x = 0
    · subst hx; simp
    · have h := ih (x / 2) (Nat.div_lt_self (by omega) (by decide)) (y / 2)
      rw [← Nat.and_div_two, ← Nat.or_div_two] at h
      have h1 : (x &&& y) % 2 = (x % 2) * (y % 2) := by
        have := Nat.and_mod_two_pow (a := x) (b := y) (n := 1)
        simp only [Nat.pow_one] at this
        rw [this]
        rcases Nat.mod_two_eq_zero_or_one x with e | e <;> rcases Nat.mod_two_eq_zero_or_one y with e' | e' <;> rw [e, e'] <;> rfl
      have h2 : (x ||| y) % 2 = x % 2 + y % 2 - (x % 2) * (y % 2) := by
        have := Nat.or_mod_two_pow (a := x) (b := y) (n := 1)
        simp only [Nat.pow_one] at this
        rw [this]
        rcases Nat.mod_two_eq_zero_or_one x with e | e <;> rcases Nat.mod_two_eq_zero_or_one y with e' | e' <;> rw [e, e'] <;> rfl
      rcases Nat.mod_two_eq_zero_or_one x with e | e <;> rcases Nat.mod_two_eq_zero_or_one y with e' | e' <;> rw [e, e'] at h1 h2 <;> omega
theorem xor_and (x y : Nat) : (x ^^^ y) + 2 * (x &&& y) = x + y := by
  induction x using Nat.strongRecOn generalizing y with
  | _ x ih =>
    by_cases hx : x = 0
    · subst hx; simp
    · have h := ih (x / 2) (Nat.div_lt_self (by omega) (by decide)) (y / 2)
      rw [← Nat.and_div_two, ← Nat.xor_div_two] at h
      have h1 : (x &&& y) % 2 = (x % 2) * (y % 2) := by
        have := Nat.and_mod_two_pow (a := x) (b := y) (n := 1)
        simp only [Nat.pow_one] at this
        rw [this]
        rcases Nat.mod_two_eq_zero_or_one x with e | e <;> rcases Nat.mod_two_eq_zero_or_one y with e' | e' <;> rw [e, e'] <;> rfl
      have h2 : (x ^^^ y) % 2 = (x % 2 + y % 2) % 2 := by
        have := Nat.xor_mod_two_pow (a := x) (b := y) (n := 1)
        simp only [Nat.pow_one] at this
        rw [this]
        rcases Nat.mod_two_eq_zero_or_one x with e | e <;> rcases Nat.mod_two_eq_zero_or_one y with e' | e' <;> rw [e, e'] <;> rfl
      rcases Nat.mod_two_eq_zero_or_one x with e | e <;> rcases Nat.mod_two_eq_zero_or_one y with e' | e' <;> rw [e, e'] at h1 h2 <;> omega
end Go.Proofs.YtkpoegdcmnjedaaDoor
