import Derived.Test.YtkohpijpipcajaaX2
namespace Go.Proofs.Ytkohpijpipcajaa
open Go.RowKit
set_option linter.unusedVariables false
set_option linter.unusedSimpArgs false

theorem rows_is (ps : List ByteArray) (f : Bool) (c : Nat) : ∀ m x, x ∈ rowsL ps f m c ↔ ∃ j, x = 2 * j ∧ j < m ∧ 0 < (keyM ps j).size ∧ hitB f (fstB (keyM ps j)) c = true
  | 0, x => ⟨fun h => (by simp [rowsL] at h), fun ⟨j, _, h, _⟩ => absurd h (Nat.not_lt_zero j)⟩
  | m + 1, x => by
    have ih := rows_is ps f c m x
    rw [rowsL]
    by_cases h : 0 < (keyM ps m).size ∧ hitB f (fstB (keyM ps m)) c = true
    · rw [if_pos h, List.mem_append, ih, List.mem_singleton]
      constructor
      · rintro (⟨j, a, b, d⟩ | e)
        · exact ⟨j, a, by omega, d⟩
        · exact ⟨m, e, by omega, h⟩
      · rintro ⟨j, a, b, d⟩
        by_cases e : j = m
        · exact Or.inr (by rw [a, e])
        · exact Or.inl ⟨j, a, by omega, d⟩
    · rw [if_neg h, ih]
      constructor
      · rintro ⟨j, a, b, d⟩
        exact ⟨j, a, by omega, d⟩
      · rintro ⟨j, a, b, d⟩
        by_cases e : j = m
        · rw [e] at d; exact absurd d h
        · exact ⟨j, a, by omega, d⟩
theorem rows_sorted (ps : List ByteArray) (f : Bool) (c : Nat) : ∀ m, (rowsL ps f m c).Pairwise (· < ·)
  | 0 => List.Pairwise.nil
  | m + 1 => by
    have ih := rows_sorted ps f c m
    rw [rowsL]
    split
    · rw [List.pairwise_append]
      refine ⟨ih, List.pairwise_singleton _ _, fun a ha b hb => ?_⟩
      obtain ⟨j, e, hj, _⟩ := (rows_is ps f c m a).1 ha
      rw [List.mem_singleton] at hb
      omega
    · exact ih
def byteN (s : ByteArray) (i : Nat) : Nat := ((numsB s).getD i 0).toNat
theorem sml_swp : ∀ X : Fin 256, ∀ Y : Fin 256, sml (X.1 : Int) = sml (Y.1 : Int) → (Y.1 = X.1 ∨ swp Y.1 = X.1) := by decide +kernel
theorem byteN_lt (s : ByteArray) (i : Nat) : byteN s i < 256 := by have := numsB_at s i; unfold byteN; omega
theorem byteN_int (s : ByteArray) (i : Nat) : ((byteN s i : Nat) : Int) = (numsB s).getD i 0 := by have := numsB_at s i; unfold byteN; omega
/-- a key that stands there begins with the byte there. -/
theorem key_hit {f : Bool} {s key : ByteArray} {i : Nat} (h : keyAt f s key i = true) : hitB f (fstB key) (byteN s i) = true := by
  obtain ⟨h0, h1, h2⟩ := keyAt_in h
  have he : (numsB (s.extract i (i + key.size))).getD 0 0 = (numsB s).getD i 0 := numsB_extract h1 (by omega)
  have hf : fstB key = byteN key 0 := rfl
  cases f with
  | false =>
    have e : s.extract i (i + key.size) = key := toList_inj (by simpa [alk] using h2)
    rw [e] at he
    have : byteN key 0 = byteN s i := by unfold byteN; rw [he]
    rw [hf, this]
    simp [hitB]
  | true =>
    have e : (numsB (s.extract i (i + key.size))).map sml = (numsB key).map sml := by simpa [alk] using h2
    have e2 := congrArg (fun l => l[0]?) e
    have hz1 : 0 < (numsB (s.extract i (i + key.size))).length := by rw [numsB_length, ByteArray.size_extract]; omega
    have hz2 : 0 < (numsB key).length := by rw [numsB_length]; exact h0
    have hx : sml ((numsB s).getD i 0) = sml ((numsB key).getD 0 0) := by
      rw [← he]
      simp only [List.getElem?_map] at e2
      rw [List.getElem?_eq_getElem hz1, List.getElem?_eq_getElem hz2] at e2
      simpa [List.getD, List.getElem?_eq_getElem hz1, List.getElem?_eq_getElem hz2] using e2
    rw [← byteN_int, ← byteN_int] at hx
    have := sml_swp ⟨byteN s i, byteN_lt s i⟩ ⟨byteN key 0, byteN_lt key 0⟩ hx
    rw [hf]
    simpa [hitB] using this
/-- no index of the byte's slice fits: no pair does. -/
theorem rows_none {ps : List ByteArray} {f : Bool} {s : ByteArray} {i m : Nat} (h : ∀ j, 2 * j ∈ rowsL ps f m (byteN s i) → keyAt f s (keyM ps j) i = false) : ∀ j, j < m → keyAt f s (keyM ps j) i = false := by
  intro j hj
  cases hk : keyAt f s (keyM ps j) i with
  | false => rfl
  | true =>
    have := h j ((rows_is ps f _ m _).2 ⟨j, rfl, hj, (keyAt_in hk).1, key_hit hk⟩)
    rw [this] at hk; cases hk
/-- the first index of the slice that fits is the first pair that does. -/
theorem rows_first {ps : List ByteArray} {f : Bool} {s : ByteArray} {i m p j0 : Nat} (hp : p < (rowsL ps f m (byteN s i)).length) (he : (rowsL ps f m (byteN s i))[p] = 2 * j0)
    (h : ∀ (q : Nat) (hq : q < p) j, (rowsL ps f m (byteN s i))[q] = 2 * j → keyAt f s (keyM ps j) i = false) : ∀ j, j < j0 → keyAt f s (keyM ps j) i = false := by
  intro j hj
  cases hk : keyAt f s (keyM ps j) i with
  | false => rfl
  | true =>
    obtain ⟨j1, e1, hj1, _⟩ := (rows_is ps f _ m _).1 (List.getElem_mem hp)
    have hm := (rows_is ps f (byteN s i) m _).2 ⟨j, rfl, by omega, (keyAt_in hk).1, key_hit hk⟩
    obtain ⟨q, hq, e⟩ := List.mem_iff_getElem.1 hm
    have hs := List.pairwise_iff_getElem.1 (rows_sorted ps f (byteN s i) m)
    have hqp : q < p := by
      rcases Nat.lt_trichotomy q p with c | c | c
      · exact c
      · subst c; omega
      · have := hs p q hp hq c
        omega
    have := h q hqp j e
    rw [this] at hk; cases hk
end Go.Proofs.Ytkohpijpipcajaa
