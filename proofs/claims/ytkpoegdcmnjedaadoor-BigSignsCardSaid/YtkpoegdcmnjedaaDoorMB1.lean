import Derived.Lib.Hide
import Derived.Test.YtkpoegdcmnjedaaDoorProg
import Derived.WalkKit
import Derived.ProofKit
import Derived.OpenShut
import Derived.Outline
import Derived.IntWalk
import Derived.LoopN
import Derived.LoopTactic
import Derived.Laws.OwnMore
import Derived.Laws.AppendOwn
namespace Go.Proofs.YtkpoegdcmnjedaaDoor
set_option linter.unusedVariables false

/-! Digits, the lowest first. -/
def dg (l : List Nat) (i : Nat) : Nat := l.getD i 0
/-- the value of the lowest i digits. -/
def V (b : Nat) (l : List Nat) : Nat → Nat
  | 0 => 0
  | i + 1 => V b l i + b ^ i * dg l i
def val (b : Nat) (l : List Nat) : Nat := V b l l.length
/-- all digits are below the base. -/
def Dig (b : Nat) (l : List Nat) : Prop := ∀ i, dg l i < b
theorem dg_ge {l : List Nat} {i : Nat} (h : l.length ≤ i) : dg l i = 0 := by unfold dg; simp [List.getElem?_eq_none h]
theorem dg_take {l : List Nat} {i k : Nat} : dg (l.take k) i = if i < k then dg l i else 0 := by
  unfold dg
  split <;> rename_i h <;> simp [List.getElem?_take, h]
theorem dg_snoc {l : List Nat} {d i : Nat} : dg (l ++ [d]) i = if i < l.length then dg l i else if i = l.length then d else 0 := by
  unfold dg
  by_cases h : i < l.length
  · simp [h, List.getElem?_append_left h]
  · rw [if_neg h]
    by_cases e : i = l.length
    · subst e; simp
    · rw [if_neg e]
      simp [List.getElem?_eq_none (show (l ++ [d]).length ≤ i by simp; omega)]
theorem dg_snoc_lt {l : List Nat} {d i : Nat} (h : i < l.length) : dg (l ++ [d]) i = dg l i := by rw [dg_snoc, if_pos h]
theorem dg_snoc_eq {l : List Nat} {d : Nat} : dg (l ++ [d]) l.length = d := by rw [dg_snoc, if_neg (by omega), if_pos rfl]
theorem V_congr {b : Nat} {l m : List Nat} : ∀ i, (∀ j, j < i → dg l j = dg m j) → V b l i = V b m i
  | 0, _ => rfl
  | i + 1, h => by
    show V b l i + _ = V b m i + _
    rw [V_congr i (fun j hj => h j (by omega)), h i (by omega)]
theorem V_succ (b : Nat) (l : List Nat) (i : Nat) : V b l (i + 1) = V b l i + b ^ i * dg l i := rfl
theorem V_snoc {b : Nat} {l : List Nat} {d : Nat} : V b (l ++ [d]) (l.length + 1) = V b l l.length + b ^ l.length * d := by
  rw [V_succ, dg_snoc_eq, V_congr l.length (fun j hj => dg_snoc_lt hj)]
theorem val_snoc {b : Nat} {l : List Nat} {d : Nat} : val b (l ++ [d]) = val b l + b ^ l.length * d := by
  unfold val; rw [List.length_append]; exact V_snoc
theorem V_stop {b : Nat} {l : List Nat} : ∀ i, l.length ≤ i → V b l i = val b l
  | 0, h => by
    have : l = [] := List.length_eq_zero_iff.1 (by omega)
    subst this; rfl
  | i + 1, h => by
    by_cases e : l.length = i + 1
    · unfold val; rw [e]
    · rw [V_succ, dg_ge (by omega), V_stop i (by omega)]; simp
theorem V_lt {b : Nat} {l : List Nat} (h : Dig b l) : ∀ i, V b l i < b ^ i
  | 0 => by simp [V]
  | i + 1 => by
    have h1 := V_lt h i
    have h2 : dg l i + 1 ≤ b := h i
    have h3 : b ^ i * (dg l i + 1) ≤ b ^ i * b := Nat.mul_le_mul_left _ h2
    rw [V_succ, Nat.pow_succ]
    rw [Nat.mul_add] at h3
    omega
theorem val_lt {b : Nat} {l : List Nat} (h : Dig b l) : val b l < b ^ l.length := V_lt h _
theorem Dig.take {b : Nat} {l : List Nat} (h : Dig b l) (hb : 0 < b) (k : Nat) : Dig b (l.take k) := by
  intro i; rw [dg_take]; split
  · exact h i
  · exact hb
theorem Dig.snoc {b : Nat} {l : List Nat} {d : Nat} (h : Dig b l) (hd : d < b) : Dig b (l ++ [d]) := by
  intro i; rw [dg_snoc]; split
  · exact h i
  · split
    · exact hd
    · omega
theorem Dig.nil {b : Nat} (hb : 0 < b) : Dig b [] := fun i => by rw [dg_ge (by simp)]; exact hb
theorem Dig.mem {b : Nat} {l : List Nat} (hb : 0 < b) (h : ∀ d ∈ l, d < b) : Dig b l := by
  intro i
  by_cases hi : i < l.length
  · unfold dg; simp [hi]; exact h _ (List.getElem_mem hi)
  · rw [dg_ge (by omega)]; exact hb
theorem Dig.of {b : Nat} {l : List Nat} (h : Dig b l) : ∀ d ∈ l, d < b := by
  intro d hd
  obtain ⟨i, hi, rfl⟩ := List.getElem_of_mem hd
  have := h i
  unfold dg at this; simpa [hi] using this

theorem V_take {b : Nat} {l : List Nat} {k : Nat} : ∀ i, i ≤ k → V b (l.take k) i = V b l i := fun i hi => V_congr i (fun j hj => by rw [dg_take, if_pos (by omega)])
theorem val_take {b : Nat} {l : List Nat} {k : Nat} (hk : k ≤ l.length) : val b (l.take k) = V b l k := by
  unfold val
  rw [List.length_take, Nat.min_eq_left hk, V_take k (Nat.le_refl _)]
theorem V_zeros {b : Nat} {l : List Nat} {k : Nat} : ∀ i, k ≤ i → (∀ j, k ≤ j → j < i → dg l j = 0) → V b l i = V b l k
  | 0, h, _ => by have : k = 0 := by omega
                  rw [this]
  | i + 1, h, hz => by
    by_cases e : k = i + 1
    · rw [e]
    · rw [V_succ, hz i (by omega) (by omega), V_zeros i (by omega) (fun j h1 h2 => hz j h1 (by omega))]; simp

/-- the digits of a number. -/
def digs (b n : Nat) : List Nat := if h : n = 0 ∨ b < 2 then [] else n % b :: digs b (n / b)
termination_by n
decreasing_by exact Nat.div_lt_self (by omega) (by omega)
theorem digs_zero (b : Nat) : digs b 0 = [] := by rw [digs]; simp
theorem digs_pos {b n : Nat} (hb : 2 ≤ b) (hn : 0 < n) : digs b n = n % b :: digs b (n / b) := by rw [digs]; rw [dif_neg (by omega)]
theorem V_cons {b d : Nat} {l : List Nat} : ∀ i, V b (d :: l) (i + 1) = d + b * V b l i
  | 0 => by simp [V, dg]
  | i + 1 => by
    rw [V_succ, V_cons i, V_succ b l i, Nat.mul_add, Nat.pow_succ]
    have : dg (d :: l) (i + 1) = dg l i := by simp [dg]
    rw [this, Nat.add_assoc, Nat.mul_comm (b ^ i) b, Nat.mul_assoc]
theorem val_cons {b d : Nat} {l : List Nat} : val b (d :: l) = d + b * val b l := V_cons _
theorem val_nil (b : Nat) : val b [] = 0 := rfl
theorem val_digs {b : Nat} (hb : 2 ≤ b) (n : Nat) : val b (digs b n) = n := by
  induction n using Nat.strongRecOn with
  | _ n ih =>
    by_cases h : n = 0
    · subst h; rw [digs_zero]; rfl
    · rw [digs_pos hb (by omega), val_cons, ih (n / b) (Nat.div_lt_self (by omega) (by omega))]
      exact Nat.mod_add_div n b
theorem digs_dig {b : Nat} (hb : 2 ≤ b) (n : Nat) : Dig b (digs b n) := by
  refine Dig.mem (by omega) ?_
  induction n using Nat.strongRecOn with
  | _ n ih =>
    by_cases h : n = 0
    · subst h; rw [digs_zero]; simp
    · rw [digs_pos hb (by omega)]
      intro d hd
      rcases List.mem_cons.1 hd with rfl | hd
      · exact Nat.mod_lt _ (by omega)
      · exact ih (n / b) (Nat.div_lt_self (by omega) (by omega)) d hd
/-- no zero at the top. -/
def Tight (l : List Nat) : Prop := l = [] ∨ dg l (l.length - 1) ≠ 0
theorem tight_digs {b : Nat} : ∀ (l : List Nat), 2 ≤ b → Dig b l → Tight l → digs b (val b l) = l
  | [], _, _, _ => by rw [val_nil, digs_zero]
  | d :: l, hb, h, ht => by
    have hd : d < b := h 0
    have hl : Dig b l := fun i => by have := h (i + 1); simpa [dg] using this
    have ht' : Tight l := by
      by_cases e : l = []
      · exact Or.inl e
      · refine Or.inr ?_
        rcases ht with h1 | h1
        · cases h1
        · have : 0 < l.length := List.length_pos_iff.2 e
          have e2 : (d :: l).length - 1 = (l.length - 1) + 1 := by simp; omega
          rw [e2] at h1
          simpa [dg] using h1
    have hpos : 0 < val b (d :: l) := by
      rw [val_cons]
      by_cases e : l = []
      · subst e
        rcases ht with h1 | h1
        · cases h1
        · simp [dg] at h1; omega
      · have : 0 < val b l := by
          refine Nat.pos_of_ne_zero fun h0 => ?_
          have := tight_digs l hb hl ht'
          rw [h0, digs_zero] at this
          exact e this.symm
        have := Nat.mul_pos (show 0 < b by omega) this
        omega
    have e1 : val b (d :: l) % b = d := by rw [val_cons, Nat.add_mul_mod_self_left, Nat.mod_eq_of_lt hd]
    have e2 : val b (d :: l) / b = val b l := by rw [val_cons, Nat.add_mul_div_left _ _ (by omega), Nat.div_eq_of_lt hd, Nat.zero_add]
    rw [digs_pos hb hpos, e1, e2, tight_digs l hb hl ht']
theorem digs_tight {b : Nat} (hb : 2 ≤ b) (n : Nat) : Tight (digs b n) := by
  induction n using Nat.strongRecOn with
  | _ n ih =>
    by_cases h : n = 0
    · subst h; rw [digs_zero]; exact Or.inl rfl
    · have hd := ih (n / b) (Nat.div_lt_self (by omega) (by omega))
      rw [digs_pos hb (by omega)]
      refine Or.inr ?_
      rcases hd with h1 | h1
      · rw [h1]
        have h2 : n / b = 0 := by rw [← val_digs hb (n / b), h1]; rfl
        have h3 : n % b = n := Nat.mod_eq_of_lt ((Nat.div_eq_zero_iff_lt (by omega)).1 h2)
        simp [dg, h3]; exact h
      · by_cases e : digs b (n / b) = []
        · rw [e] at h1; exact absurd (by simp [dg]) h1
        · have hp : 0 < (digs b (n / b)).length := List.length_pos_iff.2 e
          have e2 : (n % b :: digs b (n / b)).length - 1 = ((digs b (n / b)).length - 1) + 1 := by simp; omega
          rw [e2]
          simpa [dg] using h1
/-- what trimmed leaves. -/
theorem trim_take {b : Nat} {l : List Nat} {k : Nat} (hb : 2 ≤ b) (h : Dig b l) (hk : k ≤ l.length) (hz : ∀ j, k ≤ j → dg l j = 0) (ht : k = 0 ∨ dg l (k - 1) ≠ 0) : l.take k = digs b (val b l) := by
  have h1 : val b (l.take k) = val b l := by
    rw [val_take hk]
    exact (V_zeros l.length hk (fun j h1 _ => hz j h1)).symm
  rw [← h1]
  refine (tight_digs _ hb (h.take (by omega) k) ?_).symm
  rcases ht with h2 | h2
  · subst h2; exact Or.inl (by simp)
  · by_cases h0 : k = 0
    · subst h0; exact Or.inl (by simp)
    · refine Or.inr ?_
      rw [List.length_take, Nat.min_eq_left hk, dg_take, if_pos (by omega)]
      exact h2
theorem digs_length_le {b n k : Nat} (hb : 2 ≤ b) : (digs b n).length ≤ k ↔ n < b ^ k := by
  constructor
  · intro h
    have h1 := val_lt (digs_dig hb n)
    rw [val_digs hb] at h1
    exact Nat.lt_of_lt_of_le h1 (Nat.pow_le_pow_right (by omega) h)
  · intro h
    rcases digs_tight hb n with h1 | h1
    · rw [h1]; simp
    · refine Nat.le_of_not_lt fun hlt => ?_
      have hp : (digs b n).length - 1 + 1 = (digs b n).length := by omega
      have h2 : val b (digs b n) = V b (digs b n) ((digs b n).length - 1 + 1) := by rw [hp]; rfl
      rw [val_digs hb, V_succ] at h2
      have h3 : b ^ k ≤ b ^ ((digs b n).length - 1) := Nat.pow_le_pow_right (by omega) (by omega)
      have h4 : b ^ ((digs b n).length - 1) * 1 ≤ b ^ ((digs b n).length - 1) * dg (digs b n) ((digs b n).length - 1) := Nat.mul_le_mul_left _ (by omega)
      omega
theorem digs_eq_nil {b n : Nat} (hb : 2 ≤ b) : digs b n = [] ↔ n = 0 := by
  constructor
  · intro h; rw [← val_digs hb n, h]; rfl
  · rintro rfl; exact digs_zero b

/-- the order of two numbers. -/
def cmpI (a b : Nat) : Int := if a < b then -1 else if b < a then 1 else 0
theorem cmp_step {b : Nat} {l m : List Nat} (hl : Dig b l) (hm : Dig b m) (i : Nat) :
    cmpI (V b l (i + 1)) (V b m (i + 1)) = if dg l i < dg m i then -1 else if dg m i < dg l i then 1 else cmpI (V b l i) (V b m i) := by
  have h1 := V_lt hl i
  have h2 := V_lt hm i
  rw [V_succ, V_succ]
  have key : ∀ x y : Nat, x < y → b ^ i * x + b ^ i ≤ b ^ i * y := fun x y h => by
    have := Nat.mul_le_mul_left (b ^ i) (show x + 1 ≤ y from h)
    rwa [Nat.mul_add, Nat.mul_one] at this
  by_cases c1 : dg l i < dg m i
  · rw [if_pos c1]
    have := key _ _ c1
    unfold cmpI; rw [if_pos (by omega)]
  · rw [if_neg c1]
    by_cases c2 : dg m i < dg l i
    · rw [if_pos c2]
      have := key _ _ c2
      unfold cmpI; rw [if_neg (by omega), if_pos (by omega)]
    · rw [if_neg c2]
      have e : dg l i = dg m i := by omega
      rw [e]
      unfold cmpI
      split
      · rw [if_pos (by omega)]
      · split
        · rw [if_neg (by omega), if_pos (by omega)]
        · rw [if_neg (by omega), if_neg (by omega)]
end Go.Proofs.YtkpoegdcmnjedaaDoor
namespace Go.Proofs.YtkpoegdcmnjedaaDoor
open Go.RowKit
set_option linter.unusedVariables false
set_option linter.unusedSimpArgs false

theorem owns_below {w w' : World} {β : Nat} {e : TypeId} {k : Nat} {v : Value} {n : Nat} {xs : List Value} (h : w.ownsRow β e k v n xs) (hb : Below w.heap.size w w') : w'.ownsRow β e k v n xs := by
  refine h.kept (row := none) ⟨hb.os, hb.tape, hb.output, hb.size, fun k hk _ => hb.block k hk⟩ ?_
  cases hv : v.ownBlock with
  | none => exact Or.inl rfl
  | some k => exact Or.inr (by simp)
theorem owns_mono {w : World} {β β' : Nat} {e : TypeId} {k : Nat} {v : Value} {n : Nat} {xs : List Value} (h : w.ownsRow β e k v n xs) (hb : β' ≤ β) : w.ownsRow β' e k v n xs := by
  refine ⟨h.1, ?_⟩
  rcases h.2 with h | ⟨g, cap, cur, h1, h2, h3⟩
  · exact Or.inl h
  · exact Or.inr ⟨g, cap, cur, h1, Nat.le_trans hb h2, h3⟩

theorem info75 : (Tryd.prog.info? 75).map (fun i => (i.zero, i.size, i.bytes)) = some (some (.int .u32 0), 1, 4) := by kernel_rfl
theorem info3 : (Tryd.prog.info? 3).map (fun i => (i.zero, i.size, i.bytes)) = some (some (.int .i64 0), 1, 8) := by kernel_rfl

/-- the base of the digits. -/
abbrev B32 : Nat := 4294967296
def U32s (l : List Nat) : List Value := l.map fun d : Nat => Value.int .u32 (d : Int)
theorem U32s_length (l : List Nat) : (U32s l).length = l.length := by simp [U32s]
theorem U32s_get {l : List Nat} {i : Nat} (h : i < l.length) : (U32s l)[i]? = some (.int .u32 (dg l i : Int)) := by simp [U32s, dg, h]
theorem U32s_snoc (l : List Nat) (d : Nat) : U32s l ++ [.int .u32 (d : Int)] = U32s (l ++ [d]) := by simp [U32s]
/-- a slice of digits in a block of its own. -/
def M (B : Nat) (W : World) (v : Value) (l : List Nat) : Prop := W.ownsRow B 75 1 v l.length (U32s l)
theorem M.below {B : Nat} {W W' : World} {v : Value} {l : List Nat} (h : M B W v l) (hb : Below W.heap.size W W') : M B W' v l := owns_below h hb
theorem M.later {B k : Nat} {W W' : World} {v : Value} {l : List Nat} (h : M B W v l) (hb : Below k W W') (hk : W.heap.size ≤ k) : M B W' v l := owns_below h (hb.mono hk)
theorem M.mono {B B' : Nat} {W : World} {v : Value} {l : List Nat} (h : M B W v l) (hb : B' ≤ B) : M B' W v l := owns_mono h hb
theorem M.slice {B : Nat} {W : World} {v : Value} {l : List Nat} (h : M B W v l) : ∃ ao cap, v = .slice ao l.length cap ∧ l.length ≤ cap ∧ cap ≤ maxLen := by
  rcases h.2 with ⟨rfl, h0⟩ | ⟨g, cap, cur, rfl, _, _, h1, h2, _⟩
  · exact ⟨none, 0, by rw [h0], by omega, by simp⟩
  · exact ⟨_, cap, rfl, h1, h2⟩
theorem M.block {B : Nat} {W : World} {ao : Option Addr} {n cap : Nat} {l : List Nat} (h : M B W (.slice ao n cap) l) (hl : 0 < n) : ∃ g, ao = some ⟨g, 0, none⟩ ∧ B ≤ g ∧ g < W.heap.size := by
  rcases h.2 with ⟨e, h⟩ | ⟨g, cap, cur, e, h0, h3, h1, h2, _⟩
  · cases e; omega
  · cases e
    exact ⟨g, rfl, h0, (Array.getElem?_eq_some_iff.1 h3).1⟩
theorem M.cell {B : Nat} {W : World} {g n cap : Nat} {l : List Nat} (h : M B W (.slice (some ⟨g, 0, none⟩) n cap) l) {i : Nat} (hi : i < l.length) : W.cell? ⟨g, i, none⟩ = some (.int .u32 (dg l i : Int)) := by
  rcases h.2 with ⟨e, _⟩ | ⟨g, cap, cur, e, _⟩
  · cases e
  · cases e
    rw [World.ownsRow.cellAt h i (by omega), U32s_get hi]
theorem M.nil (B : Nat) (W : World) : M B W (.slice none 0 0) [] := World.ownsRow_nil W B 75 1
theorem M.take {B : Nat} {W : World} {ao : Option Addr} {n cap : Nat} {l : List Nat} (h : M B W (.slice ao n cap) l) {k : Nat} (hk : k ≤ l.length) : M B W (.slice ao k cap) (l.take k) := by
  have hk' : (l.take k).length = k := by rw [List.length_take, Nat.min_eq_left hk]
  unfold M
  rw [hk']
  refine ⟨by rw [U32s_length, hk']; omega, ?_⟩
  rcases h.2 with ⟨e, h0⟩ | ⟨g, cap, cur, e, h0, h1, h2, h3, h4, h5⟩
  · cases e
    have : k = 0 := by omega
    subst this
    exact Or.inl ⟨rfl, rfl⟩
  · cases e
    refine Or.inr ⟨g, cap, cur, rfl, h0, h1, by omega, h3, h4, ?_⟩
    have : U32s (l.take k) = (U32s l).take k := by simp [U32s, List.map_take]
    rw [this, ← h5, List.take_take, Nat.mul_one, Nat.mul_one, Nat.min_eq_left hk]
theorem M.len {B : Nat} {W : World} {ao : Option Addr} {n cap : Nat} {l : List Nat} (h : M B W (.slice ao n cap) l) : n = l.length := by
  rcases h.2 with ⟨e, h0⟩ | ⟨g, cap, cur, e, h0, h1, h2, h3, h4, h5⟩ <;> cases e
  · exact h0.symm
  · rfl

/-- how many digits a number has. -/
def nd (n : Nat) : Nat := (digs B32 n).length
theorem nd_take {l : List Nat} {k : Nat} (h : Dig B32 l) (hk : k ≤ l.length) (hz : ∀ j, k ≤ j → dg l j = 0) (ht : k = 0 ∨ dg l (k - 1) ≠ 0) : k = nd (val B32 l) := by
  have := trim_take (by decide) h hk hz ht
  unfold nd
  rw [← this, List.length_take, Nat.min_eq_left hk]
theorem nd_le {l : List Nat} (h : Dig B32 l) : nd (val B32 l) ≤ l.length := (digs_length_le (by decide)).2 (val_lt h)
/-- where the last digit that is no zero stands. -/
theorem top_of (l : List Nat) : ∃ k, k ≤ l.length ∧ (∀ j, k ≤ j → dg l j = 0) ∧ (k = 0 ∨ dg l (k - 1) ≠ 0) := by
  have : ∀ n, n ≤ l.length → (∀ j, n ≤ j → dg l j = 0) → ∃ k, k ≤ l.length ∧ (∀ j, k ≤ j → dg l j = 0) ∧ (k = 0 ∨ dg l (k - 1) ≠ 0) := by
    intro n
    induction n with
    | zero => intro h hz; exact ⟨0, h, hz, Or.inl rfl⟩
    | succ n ih =>
      intro h hz
      by_cases e : dg l n = 0
      · exact ih (by omega) fun j hj => by
          by_cases e2 : j = n
          · rw [e2]; exact e
          · exact hz j (by omega)
      · exact ⟨n + 1, h, hz, Or.inr e⟩
  exact this l.length (Nat.le_refl _) fun j hj => dg_ge hj
theorem take_nd {l : List Nat} (h : Dig B32 l) : l.take (nd (val B32 l)) = digs B32 (val B32 l) := by
  obtain ⟨k, h1, h2, h3⟩ := top_of l
  rw [← nd_take h h1 h2 h3]
  exact trim_take (by decide) h h1 h2 h3
/-- what trimmed leaves, as a row. -/
theorem M.trim {B : Nat} {W : World} {ao : Option Addr} {n cap : Nat} {l : List Nat} (h : M B W (.slice ao n cap) l) (hd : Dig B32 l) : M B W (.slice ao (nd (val B32 l)) cap) (digs B32 (val B32 l)) := by
  rw [← take_nd hd]
  exact h.take (nd_le hd)

set_option maxHeartbeats 400000 in
theorem trimmed_any {B : Nat} {ao : Option Addr} {n cap : Nat} {l : List Nat} {W : World} (h : M B W (.slice ao n cap) l) (hd : Dig B32 l) :
    Calls Tryd.prog 125 #[.slice ao n cap] W fun e W' => e = .returned (.slice ao (nd (val B32 l)) cap) ∧ W = W' := by
  obtain rfl := h.len
  obtain ⟨ao', cap', e, hc1, hc2⟩ := h.slice
  cases e
  unfold maxLen at hc2
  have H := Lib.hid h
  have HD := Lib.hid hd
  clear h hd
  go_enter Tryd.func125, Tryd.ntmps125
  go_wp2
  go_loop [0] (fun v => ∃ k : Nat, k ≤ l.length ∧ v = .slice ao k cap ∧ Hid (∀ j, k ≤ j → dg l j = 0)) (fun v => match v with | .slice _ k _ => k | _ => 0)
  case atStart => exact ⟨_, Nat.le_refl _, rfl, Lib.hid fun j hj => dg_ge hj⟩
  case round =>
    obtain ⟨k, hk, rfl, hz⟩ := hrel
    by_cases hp : 0 < k
    · obtain ⟨g, rfl, _, _⟩ := H.out.block (show 0 < l.length by omega)
      have hcell := H.out.cell (show k - 1 < l.length by omega)
      have e1 : ((k : Int) - 1).toNat = k - 1 := by omega
      by_cases h0 : dg l (k - 1) = 0
      · have HZ : Hid (∀ j, k - 1 ≤ j → dg l j = 0) := Lib.hid fun j hj => by
          by_cases e : j = k - 1
          · rw [e]; exact h0
          · exact hz.out j (by omega)
        rw [h0] at hcell
        clear h0
        go_wp2
        go_round
        case rel => exact ⟨k - 1, by omega, rfl, HZ⟩
        case measure => simp; omega
      · have hne : ((dg l (k - 1) : Int) == 0) = false := by rw [beq_eq_false_iff_ne]; omega
        have HK := Lib.hid (nd_take HD.out hk hz.out (Or.inr h0))
        go_wp2
        go_ret
        exact ⟨by rw [← HK.out]; rfl, rfl⟩
    · obtain rfl : k = 0 := by omega
      have HK := Lib.hid (nd_take HD.out hk hz.out (Or.inl rfl))
      go_wp2
      go_ret
      exact ⟨by rw [← HK.out]; rfl, rfl⟩
end Go.Proofs.YtkpoegdcmnjedaaDoor
