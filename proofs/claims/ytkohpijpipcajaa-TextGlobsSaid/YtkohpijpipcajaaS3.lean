import Derived.Test.YtkohpijpipcajaaS2
import Derived.Test.YtkohpijpipcajaaR2
import Derived.Test.YtkohpijpipcajaaO1
namespace Go.Proofs.Ytkohpijpipcajaa
open Go.RowKit
set_option linter.unusedVariables false
set_option linter.unusedSimpArgs false

abbrev tblA : ByteArray := ⟨#[97, 98, 102, 110, 114, 116, 118]⟩
abbrev tblB : ByteArray := ⟨#[7, 8, 12, 10, 13, 9, 11]⟩
/-- the place of an escaped letter. -/
def place (x : Int) : Int := if x = 97 then 0 else if x = 98 then 1 else if x = 102 then 2 else if x = 110 then 3 else if x = 114 then 4 else if x = 116 then 5 else if x = 118 then 6 else -1

theorem occ_tbl (b : UInt8) : occ tblA ⟨#[b]⟩ 0 = ((97 : UInt8) == b) ∧ occ tblA ⟨#[b]⟩ 1 = ((98 : UInt8) == b) ∧ occ tblA ⟨#[b]⟩ 2 = ((102 : UInt8) == b) ∧ occ tblA ⟨#[b]⟩ 3 = ((110 : UInt8) == b) ∧
    occ tblA ⟨#[b]⟩ 4 = ((114 : UInt8) == b) ∧ occ tblA ⟨#[b]⟩ 5 = ((116 : UInt8) == b) ∧ occ tblA ⟨#[b]⟩ 6 = ((118 : UInt8) == b) := by
  refine ⟨?_, ?_, ?_, ?_, ?_, ?_, ?_⟩ <;> (simp [occ, Lib.occAt, List.isPrefixOf]; exact Bool.beq_comm ..)

theorem first_tbl (b : UInt8) : firstP tblA ⟨#[b]⟩ 0 = place b.toNat := by
  obtain ⟨o0, o1, o2, o3, o4, o5, o6⟩ := occ_tbl b
  by_cases h0 : b = 97
  · subst h0
    exact isFirst_one (firstP_is _ _ _) (Or.inr ⟨0, rfl, by decide, by decide, by decide, by rw [o0]; rfl, fun j hj _ => by
      rcases (show False by omega) with h
      exact h.elim⟩)
  by_cases h1 : b = 98
  · subst h1
    exact isFirst_one (firstP_is _ _ _) (Or.inr ⟨1, rfl, by decide, by decide, by decide, by rw [o1]; rfl, fun j hj _ => by
      rcases (show j = 0 by omega) with rfl
      · rw [o0]; rfl⟩)
  by_cases h2 : b = 102
  · subst h2
    exact isFirst_one (firstP_is _ _ _) (Or.inr ⟨2, rfl, by decide, by decide, by decide, by rw [o2]; rfl, fun j hj _ => by
      rcases (show j = 0 ∨ j = 1 by omega) with rfl | rfl
      · rw [o0]; rfl
      · rw [o1]; rfl⟩)
  by_cases h3 : b = 110
  · subst h3
    exact isFirst_one (firstP_is _ _ _) (Or.inr ⟨3, rfl, by decide, by decide, by decide, by rw [o3]; rfl, fun j hj _ => by
      rcases (show j = 0 ∨ j = 1 ∨ j = 2 by omega) with rfl | rfl | rfl
      · rw [o0]; rfl
      · rw [o1]; rfl
      · rw [o2]; rfl⟩)
  by_cases h4 : b = 114
  · subst h4
    exact isFirst_one (firstP_is _ _ _) (Or.inr ⟨4, rfl, by decide, by decide, by decide, by rw [o4]; rfl, fun j hj _ => by
      rcases (show j = 0 ∨ j = 1 ∨ j = 2 ∨ j = 3 by omega) with rfl | rfl | rfl | rfl
      · rw [o0]; rfl
      · rw [o1]; rfl
      · rw [o2]; rfl
      · rw [o3]; rfl⟩)
  by_cases h5 : b = 116
  · subst h5
    exact isFirst_one (firstP_is _ _ _) (Or.inr ⟨5, rfl, by decide, by decide, by decide, by rw [o5]; rfl, fun j hj _ => by
      rcases (show j = 0 ∨ j = 1 ∨ j = 2 ∨ j = 3 ∨ j = 4 by omega) with rfl | rfl | rfl | rfl | rfl
      · rw [o0]; rfl
      · rw [o1]; rfl
      · rw [o2]; rfl
      · rw [o3]; rfl
      · rw [o4]; rfl⟩)
  by_cases h6 : b = 118
  · subst h6
    exact isFirst_one (firstP_is _ _ _) (Or.inr ⟨6, rfl, by decide, by decide, by decide, by rw [o6]; rfl, fun j hj _ => by
      rcases (show j = 0 ∨ j = 1 ∨ j = 2 ∨ j = 3 ∨ j = 4 ∨ j = 5 by omega) with rfl | rfl | rfl | rfl | rfl | rfl
      · rw [o0]; rfl
      · rw [o1]; rfl
      · rw [o2]; rfl
      · rw [o3]; rfl
      · rw [o4]; rfl
      · rw [o5]; rfl⟩)
  have hp : place b.toNat = -1 := by
    have n0 : ¬ b.toNat = 97 := fun e => h0 (UInt8.toNat_inj.1 e)
    have n1 : ¬ b.toNat = 98 := fun e => h1 (UInt8.toNat_inj.1 e)
    have n2 : ¬ b.toNat = 102 := fun e => h2 (UInt8.toNat_inj.1 e)
    have n3 : ¬ b.toNat = 110 := fun e => h3 (UInt8.toNat_inj.1 e)
    have n4 : ¬ b.toNat = 114 := fun e => h4 (UInt8.toNat_inj.1 e)
    have n5 : ¬ b.toNat = 116 := fun e => h5 (UInt8.toNat_inj.1 e)
    have n6 : ¬ b.toNat = 118 := fun e => h6 (UInt8.toNat_inj.1 e)
    unfold place
    rw [if_neg (by omega), if_neg (by omega), if_neg (by omega), if_neg (by omega), if_neg (by omega), if_neg (by omega), if_neg (by omega)]
  rw [hp]
  refine isFirst_one (firstP_is _ _ _) (Or.inl ⟨rfl, Or.inr fun i _ => ?_⟩)
  cases hc : occ tblA ⟨#[b]⟩ i with
  | false => rfl
  | true =>
    have hi : i + 1 ≤ 7 := occ_in hc (by show 0 < 1; omega)
    rcases (show i = 0 ∨ i = 1 ∨ i = 2 ∨ i = 3 ∨ i = 4 ∨ i = 5 ∨ i = 6 by omega) with rfl | rfl | rfl | rfl | rfl | rfl | rfl
    · rw [o0] at hc; exact absurd (beq_iff_eq.1 hc).symm h0
    · rw [o1] at hc; exact absurd (beq_iff_eq.1 hc).symm h1
    · rw [o2] at hc; exact absurd (beq_iff_eq.1 hc).symm h2
    · rw [o3] at hc; exact absurd (beq_iff_eq.1 hc).symm h3
    · rw [o4] at hc; exact absurd (beq_iff_eq.1 hc).symm h4
    · rw [o5] at hc; exact absurd (beq_iff_eq.1 hc).symm h5
    · rw [o6] at hc; exact absurd (beq_iff_eq.1 hc).symm h6
theorem index_tbl (b : UInt8) (w : World) : Calls Try.prog 54 #[.string tblA, .int .u8 b.toNat] w fun e w' => e = .returned (.int .i64 (place b.toNat)) ∧ w = w' := by
  refine (Try.strings_IndexByte tblA b.toNat w).mono ?_
  rintro e w' ⟨rfl, rfl⟩
  refine ⟨ret_int ?_, rfl⟩
  rw [← first_tbl b]
  have hb : ((b.toNat : Int).toNat).toUInt8 = b := by simp
  rw [hb]
  have h : Lib.index tblA.data.toList [b] = Lib.indexByte tblA.data.toList b := Lib.index_one _ _
  rw [← h]
  have hf := first_index (s := tblA) (t := ⟨#[b]⟩) (x := 0) (f := 0) (by decide) (by decide) (by show 0 < 1; omega)
  rw [extract_whole] at hf
  rcases hf with ⟨e, k⟩ | ⟨i, e, _, k⟩
  · exact e.trans (isFirst_one k (firstP_is _ _ _))
  · exact e.trans ((by omega : (i : Int) = ((0 : Nat) : Int) + i).trans (isFirst_one k (firstP_is _ _ _)))
theorem place_le (x : Int) : -1 ≤ place x ∧ place x ≤ 6 := by
  unfold place
  (repeat' split) <;> omega

/-- how far the blanks go. -/
def IsSp (l : List Int) (k : Nat) : Prop := 2 ≤ k ∧ k ≤ l.length ∧ (∀ j, 2 ≤ j → j < k → l.getD j 0 = 32 ∨ l.getD j 0 = 9) ∧ (k = l.length ∨ ¬ (l.getD k 0 = 32 ∨ l.getD k 0 = 9))
theorem isSp_one {l : List Int} {k k' : Nat} (h : IsSp l k) (g : IsSp l k') : k = k' := by
  obtain ⟨h1, h2, h3, h4⟩ := h
  obtain ⟨g1, g2, g3, g4⟩ := g
  rcases Nat.lt_trichotomy k k' with c | c | c
  · rcases h4 with h | h
    · omega
    · exact absurd (g3 k h1 c) h
  · exact c
  · rcases g4 with g | g
    · omega
    · exact absurd (h3 k' g1 c) g
theorem sp_from (l : List Int) : ∀ (d k : Nat), l.length - k = d → 2 ≤ k → k ≤ l.length → (∀ j, 2 ≤ j → j < k → l.getD j 0 = 32 ∨ l.getD j 0 = 9) → ∃ k', IsSp l k'
  | 0, k, hd, h2, hk, h => ⟨k, h2, hk, h, Or.inl (by omega)⟩
  | d + 1, k, hd, h2, hk, h => by
    by_cases c : l.getD k 0 = 32 ∨ l.getD k 0 = 9
    · exact sp_from l d (k + 1) (by omega) (by omega) (by omega) (fun j hj hjk => by
        by_cases e : j = k
        · rw [e]; exact c
        · exact h j hj (by omega))
    · exact ⟨k, h2, hk, h, Or.inr c⟩
theorem sp_exists (l : List Int) (h : 2 ≤ l.length) : ∃ k, IsSp l k := sp_from l _ 2 rfl (Nat.le_refl _) h (fun j h1 h2 => by omega)
theorem num_from (b : Int) (m : Nat) (l : List Int) : ∀ (d k : Nat), m - k = d → k ≤ m → k ≤ l.length → (∀ j, j < k → 0 ≤ dv b (l.getD j 0)) → ∃ k', k' ≤ l.length ∧ k' ≤ m ∧ (∀ j, j < k' → 0 ≤ dv b (l.getD j 0)) ∧ (k' = l.length ∨ k' = m ∨ dv b (l.getD k' 0) < 0)
  | 0, k, hd, h1, h2, h => ⟨k, h2, h1, h, Or.inr (Or.inl (by omega))⟩
  | d + 1, k, hd, h1, h2, h => by
    by_cases e : k = l.length
    · exact ⟨k, h2, h1, h, Or.inl e⟩
    · by_cases c : dv b (l.getD k 0) < 0
      · exact ⟨k, h2, h1, h, Or.inr (Or.inr c)⟩
      · exact num_from b m l d (k + 1) (by omega) (by omega) (by omega) (fun j hj => by
          by_cases e : j = k
          · rw [e]; omega
          · exact h j (by omega))
end Go.Proofs.Ytkohpijpipcajaa
