import Derived.Test.YtkohpijpipcajaaW2
namespace Go.Proofs.Ytkohpijpipcajaa
open Go.RowKit
set_option linter.unusedVariables false
set_option linter.unusedSimpArgs false

def keyAt (f : Bool) (s key : ByteArray) (i : Nat) : Bool := decide (0 < key.size ∧ i + key.size ≤ s.size) && alk f (s.extract i (i + key.size)) key
def keyM (ps : List ByteArray) (m : Nat) : ByteArray := ps.getD (2 * m) ByteArray.empty
def valM (ps : List ByteArray) (m : Nat) : ByteArray := ps.getD (2 * m + 1) ByteArray.empty
/-- the first pair whose key stands there. -/
def fitM (ps : List ByteArray) (f : Bool) (s : ByteArray) (i : Nat) : Option Nat := (List.range (ps.length / 2)).find? fun m => keyAt f s (keyM ps m) i
def pieceAt (ps : List ByteArray) (f : Bool) (s : ByteArray) (i : Nat) : ByteArray := match fitM ps f s i with | some m => valM ps m | none => s.extract i (i + 1)
def stepAt (ps : List ByteArray) (f : Bool) (s : ByteArray) (i : Nat) : Nat := match fitM ps f s i with | some m => (keyM ps m).size | none => 1
def walkM (ps : List ByteArray) (f : Bool) (s : ByteArray) : Nat → Nat → ByteArray → ByteArray
  | 0, _, O => O
  | n + 1, i, O => if i < s.size ∧ O.size ≤ 65536 then walkM ps f s n (i + stepAt ps f s i) (O ++ pieceAt ps f s i) else O
def mapR (ps : List ByteArray) (f : Bool) (s : ByteArray) : ByteArray := walkM ps f s s.size 0 ByteArray.empty
def mapT (ps : List ByteArray) (f : Bool) (s : ByteArray) : ByteArray := if ps.length % 2 = 0 ∧ (mapR ps f s).size ≤ 65536 then mapR ps f s else ⟨#[]⟩
def mapE (ps : List ByteArray) (f : Bool) (s : ByteArray) : Int := if ps.length % 2 = 0 then (if (mapR ps f s).size ≤ 65536 then 0 else 4) else 1

theorem keyAt_in {f : Bool} {s key : ByteArray} {i : Nat} (h : keyAt f s key i = true) : 0 < key.size ∧ i + key.size ≤ s.size ∧ alk f (s.extract i (i + key.size)) key = true := by
  unfold keyAt at h
  simp at h
  exact ⟨h.1.1, h.1.2, h.2⟩

theorem find_range {p : Nat → Bool} : ∀ n : Nat, ((List.range n).find? p = none ∧ ∀ m, m < n → p m = false) ∨ ∃ m, (List.range n).find? p = some m ∧ m < n ∧ p m = true ∧ ∀ j, j < m → p j = false
  | 0 => Or.inl ⟨rfl, fun m h => absurd h (Nat.not_lt_zero m)⟩
  | n + 1 => by
    rw [List.range_succ, List.find?_append]
    rcases find_range (p := p) n with ⟨h, hn⟩ | ⟨m, h, hm, hp, hj⟩
    · rw [h]
      cases hpn : p n with
      | true => exact Or.inr ⟨n, by simp [hpn], by omega, hpn, hn⟩
      | false => exact Or.inl ⟨by simp [hpn], fun m hm => by
          by_cases e : m = n
          · rw [e]; exact hpn
          · exact hn m (by omega)⟩
    · rw [h]
      exact Or.inr ⟨m, by simp, by omega, hp, hj⟩

theorem fit_none {ps : List ByteArray} {f : Bool} {s : ByteArray} {i : Nat} (h : ∀ m, m < ps.length / 2 → keyAt f s (keyM ps m) i = false) : fitM ps f s i = none := by
  unfold fitM
  rcases find_range (p := fun m => keyAt f s (keyM ps m) i) (ps.length / 2) with ⟨e, _⟩ | ⟨m, _, hm, hp, _⟩
  · exact e
  · rw [h m hm] at hp; cases hp
theorem fit_some {ps : List ByteArray} {f : Bool} {s : ByteArray} {i m : Nat} (hm : m < ps.length / 2) (hk : keyAt f s (keyM ps m) i = true) (h : ∀ j, j < m → keyAt f s (keyM ps j) i = false) : fitM ps f s i = some m := by
  unfold fitM
  rcases find_range (p := fun m => keyAt f s (keyM ps m) i) (ps.length / 2) with ⟨_, e⟩ | ⟨m', e, hm', hp, hj⟩
  · rw [e m hm] at hk; cases hk
  · rcases Nat.lt_trichotomy m m' with c | c | c
    · have := hj m c; rw [hk] at this; cases this
    · rw [e, c]
    · have := h m' c; rw [this] at hp; cases hp

theorem step_in {ps : List ByteArray} {f : Bool} {s : ByteArray} {i : Nat} (hi : i < s.size) (hl : anyLong ps = false) (hs : s.size ≤ 400) : 1 ≤ stepAt ps f s i ∧ i + stepAt ps f s i ≤ s.size ∧ (pieceAt ps f s i).size ≤ 400 := by
  unfold stepAt pieceAt
  rcases find_range (p := fun m => keyAt f s (keyM ps m) i) (ps.length / 2) with ⟨e, _⟩ | ⟨m, e, hm, hp, _⟩
  · have e' : fitM ps f s i = none := e
    rw [e']
    refine ⟨Nat.le_refl _, by show i + 1 ≤ _; omega, ?_⟩
    show (s.extract i (i + 1)).size ≤ 400
    rw [ByteArray.size_extract]; omega
  · have e' : fitM ps f s i = some m := e
    rw [e']
    have := keyAt_in hp
    refine ⟨this.1, this.2.1, anyLong_no hl _ (by omega)⟩

theorem walk_stop {ps : List ByteArray} {f : Bool} {s O : ByteArray} {i : Nat} (n : Nat) (h : ¬ (i < s.size ∧ O.size ≤ 65536)) : walkM ps f s n i O = O := by
  cases n with
  | zero => rfl
  | succ n => unfold walkM; rw [if_neg h]
theorem walk_step {ps : List ByteArray} {f : Bool} {s O : ByteArray} {i n : Nat} (hi : i < s.size) (hO : O.size ≤ 65536) (hn : s.size - i ≤ n) (h1 : 1 ≤ stepAt ps f s i) :
    ∃ n', s.size - (i + stepAt ps f s i) ≤ n' ∧ walkM ps f s n i O = walkM ps f s n' (i + stepAt ps f s i) (O ++ pieceAt ps f s i) := by
  cases n with
  | zero => omega
  | succ n => exact ⟨n, by omega, by rw [walkM, if_pos ⟨hi, hO⟩]⟩

theorem numsB_of {xs : List Int} (h : ∀ x ∈ xs, 0 ≤ x ∧ x ≤ 255) : numsB (strOfNums xs) = xs := by
  unfold numsB strOfNums
  simp only [List.map_map]
  conv => rhs; rw [← List.map_id xs]
  apply List.map_congr_left
  intro x hx
  have := h x hx
  simp
  omega
theorem sml_bytes (s : ByteArray) : ∀ x ∈ (numsB s).map sml, 0 ≤ x ∧ x ≤ 255 := by
  intro x hx
  obtain ⟨y, hy, rfl⟩ := List.mem_map.1 hx
  have := numsB_le s y hy
  unfold sml
  split <;> omega
theorem toList_inj {a b : ByteArray} (h : a.toList = b.toList) : a = b := by
  rw [ByteArray.toList_eq, ByteArray.toList_eq] at h
  cases a; cases b
  simp only at h
  rw [Array.toList_inj.1 h]
theorem low_eq (a b : ByteArray) : ((strOfNums ((numsB a).map sml)).toList == (strOfNums ((numsB b).map sml)).toList) = alk true a b := by
  unfold alk
  rw [if_pos rfl, Bool.eq_iff_iff, beq_iff_eq, beq_iff_eq]
  constructor
  · intro e
    have e2 : strOfNums ((numsB a).map sml) = strOfNums ((numsB b).map sml) := toList_inj e
    have := congrArg numsB e2
    rwa [numsB_of (sml_bytes a), numsB_of (sml_bytes b)] at this
  · intro e; rw [e]
theorem alk_same {f : Bool} {a b : ByteArray} (h : a.toList = b.toList) : alk f a b = true := by
  have : a = b := toList_inj h
  subst this
  unfold alk
  split <;> simp
end Go.Proofs.Ytkohpijpipcajaa
