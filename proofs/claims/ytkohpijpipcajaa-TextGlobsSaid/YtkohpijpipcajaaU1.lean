import Derived.Test.YtkohpijpipcajaaS5
namespace Go.Proofs.Ytkohpijpipcajaa
open Go.RowKit
set_option linter.unusedVariables false
set_option linter.unusedSimpArgs false

theorem num_exists8 (l : List Int) : ∃ k v, IsNum 8 3 l k v := by
  obtain ⟨k, h1, h2, h3, h4⟩ := num_from 8 3 l _ 0 rfl (Nat.zero_le _) (Nat.zero_le _) (fun j hj => by omega)
  have hb : ∀ j, j ≤ k → j ≤ 3 → Small 8 j (vT 8 l j) := by
    intro j
    induction j with
    | zero => intro _ _; exact ⟨Int.le_refl _, Or.inl ⟨rfl, rfl⟩⟩
    | succ j ih =>
      intro hj hj3
      have hs := ih (by omega) (by omega)
      have hd := h3 j (by omega)
      have hl := dv_lt (b := 8) (c := l.getD j 0) (by omega)
      rw [vT_succ _ _ _ (by omega)]
      unfold Small at hs ⊢
      omega
  have := hb k (Nat.le_refl _) h2
  refine ⟨k, _, h1, h2, h3, h4, rfl, this.1, ?_⟩
  unfold Small at this
  omega
theorem num_exists16 (l : List Int) : ∃ k v, IsNum 16 2 l k v := by
  obtain ⟨k, h1, h2, h3, h4⟩ := num_from 16 2 l _ 0 rfl (Nat.zero_le _) (Nat.zero_le _) (fun j hj => by omega)
  have hb : ∀ j, j ≤ k → j ≤ 2 → Small 16 j (vT 16 l j) := by
    intro j
    induction j with
    | zero => intro _ _; exact ⟨Int.le_refl _, Or.inl ⟨rfl, rfl⟩⟩
    | succ j ih =>
      intro hj hj3
      have hs := ih (by omega) (by omega)
      have hd := h3 j (by omega)
      have hl := dv_lt (b := 16) (c := l.getD j 0) (by omega)
      rw [vT_succ _ _ _ (by omega)]
      unfold Small at hs ⊢
      omega
  have := hb k (Nat.le_refl _) h2
  refine ⟨k, _, h1, h2, h3, h4, rfl, this.1, ?_⟩
  unfold Small at this
  omega

/-- both Unescapes tell the same. -/
def UnSame (s c : ByteArray) (n : Nat) : Prop :=
  n ≤ s.size ∧ c.size ≤ 1 ∧ (0 < s.size → (numsB s).getD 0 0 ≠ 92 → n = 0) ∧ (0 < s.size → (numsB s).getD 0 0 = 92 → 1 ≤ n) ∧ (∀ w, Calls Try.prog 21 #[.string s] w (UnPost c n w)) ∧ (∀ w, Calls Try.prog 22 #[.string s] w (UnPost c n w))
theorem un_same (s : ByteArray) (hs : s.size ≤ 400) : ∃ c n, UnSame s c n := by
  by_cases h0 : s.size = 0
  · exact ⟨⟨#[]⟩, 0, by omega, by decide, fun h => by omega, fun h => by omega, fun w => un_empty_21 s w h0, fun w => un_empty_22 s w h0⟩
  · have hp : 0 < s.size := by omega
    have hx0 := byte_num s hp
    by_cases hx : (s[0].toNat : Int) = 92
    · by_cases h1 : s.size = 1
      · exact ⟨s, 1, by omega, by omega, fun _ h => by omega, fun _ _ => Nat.le_refl _, fun w => un_one_21 s w hp hx h1, fun w => un_one_22 s w hp hx h1⟩
      · have h : 1 < s.size := by omega
        obtain ⟨x, hx1⟩ : ∃ x, (s[1].toNat : Int) = x := ⟨_, rfl⟩
        by_cases hpl : place x = -1
        · by_cases e10 : x = 10
          · obtain ⟨n, hn⟩ := sp_exists (numsB s) (by rw [numsB_length]; omega)
            have hnl := hn.2.1
            have hn2 := hn.1
            rw [numsB_length] at hnl
            exact ⟨⟨#[32]⟩, n, hnl, by decide, fun _ h => by omega, fun _ _ => by omega, fun w => un_blank_21 s x n w hs h hx hx1 e10 hn, fun w => un_blank_22 s x n w hs h hx hx1 e10 hn⟩
          · by_cases e120 : x = 120
            · obtain ⟨k, v, hn⟩ := num_exists16 (numsB (s.extract 2 s.size))
              have hkl := hn.1
              rw [numsB_length, ByteArray.size_extract] at hkl
              by_cases hk : k = 0
              · exact ⟨s.extract 1 2, 2, by omega, by rw [ByteArray.size_extract]; omega, fun _ h => by omega, fun _ _ => by omega, fun w => un_hexno_21 s x k v w hs h hx hx1 hpl e120 hn hk, fun w => un_hexno_22 s x k v w hs h hx hx1 hpl e120 hn hk⟩
              · exact ⟨strOfNums [v % 256], 2 + k, by omega, by rw [strOfNums_size]; exact Nat.le_refl 1, fun _ h => by omega, fun _ _ => by omega, fun w => un_hex_21 s x k v w hs h hx hx1 hpl e120 hn (by omega), fun w => un_hex_22 s x k v w hs h hx hx1 hpl e120 hn (by omega)⟩
            · obtain ⟨k, v, hn⟩ := num_exists8 (numsB (s.extract 1 s.size))
              have hkl := hn.1
              rw [numsB_length, ByteArray.size_extract] at hkl
              by_cases hk : k = 0
              · exact ⟨s.extract 1 2, 2, by omega, by rw [ByteArray.size_extract]; omega, fun _ h => by omega, fun _ _ => by omega, fun w => un_octno_21 s x k v w hs h hx hx1 hpl e120 e10 hn hk, fun w => un_octno_22 s x k v w hs h hx hx1 hpl e120 e10 hn hk⟩
              · exact ⟨strOfNums [v % 256], 1 + k, by omega, by rw [strOfNums_size]; exact Nat.le_refl 1, fun _ h => by omega, fun _ _ => by omega, fun w => un_oct_21 s x k v w hs h hx hx1 hpl e120 e10 hn (by omega), fun w => un_oct_22 s x k v w hs h hx hx1 hpl e120 e10 hn (by omega)⟩
        · have hpb := place_le x
          obtain ⟨q, hq⟩ : ∃ q : Nat, place x = q := ⟨(place x).toNat, by omega⟩
          exact ⟨tblB.extract q (q + 1), 2, by omega, by rw [ByteArray.size_extract]; omega, fun _ h => by omega, fun _ _ => by omega, fun w => un_letter_21 s x q w hs h hx hx1 hq, fun w => un_letter_22 s x q w hs h hx hx1 hq⟩
    · have hb : ((s[0].toNat : Int) == 92) = false := by simpa using hx
      exact ⟨⟨#[]⟩, 0, by omega, by decide, fun _ _ => rfl, fun _ h => by omega, fun w => un_plain_21 s w hs hp hb, fun w => un_plain_22 s w hs hp hb⟩

/-- what a text is when all that is escaped is replaced. -/
inductive UnSeq : ByteArray → List UInt8 → Prop where
  | nil {s : ByteArray} (h : s.size = 0) : UnSeq s []
  | plain {s c : ByteArray} {o : List UInt8} (h : 0 < s.size) (hu : UnSame s c 0) (ho : UnSeq (s.extract 1 s.size) o) : UnSeq s (s[0] :: o)
  | esc {s c : ByteArray} {n : Nat} {o : List UInt8} (h : 1 ≤ n) (hu : UnSame s c n) (ho : UnSeq (s.extract n s.size) o) : UnSeq s (c.data.toList ++ o)

theorem unseq_exists : ∀ (d : Nat) (s : ByteArray), s.size = d → d ≤ 400 → ∃ o, UnSeq s o ∧ o.length ≤ s.size := by
  intro d
  induction d using Nat.strongRecOn with
  | _ d ih =>
    intro s hs hd
    by_cases h0 : s.size = 0
    · exact ⟨[], .nil h0, Nat.zero_le _⟩
    · obtain ⟨c, n, hu⟩ := un_same s (by omega)
      by_cases hn : n = 0
      · subst hn
        have hz : (s.extract 1 s.size).size = s.size - 1 := by rw [ByteArray.size_extract]; omega
        obtain ⟨o, h1, h2⟩ := ih (s.size - 1) (by omega) (s.extract 1 s.size) hz (by omega)
        exact ⟨_, .plain (by omega) hu h1, by rw [List.length_cons]; omega⟩
      · have hz : (s.extract n s.size).size = s.size - n := by rw [ByteArray.size_extract]; omega
        have hns := hu.1
        obtain ⟨o, h1, h2⟩ := ih (s.size - n) (by omega) (s.extract n s.size) hz (by omega)
        have hc := hu.2.1
        exact ⟨_, .esc (by omega) hu h1, by rw [List.length_append, size_list]; omega⟩

theorem unseq_run {s : ByteArray} {o : List UInt8} (hu : UnSeq s o) : ∀ k : Nat, k ≤ s.size → (∀ j, j < k → (numsB s).getD j 0 ≠ 92) → ∃ o1, o = s.data.toList.take k ++ o1 ∧ UnSeq (s.extract k s.size) o1 := by
  intro k
  induction k with
  | zero => intro _ _; exact ⟨o, by simp, by rw [extract_whole]; exact hu⟩
  | succ k ih =>
    intro hk hne
    obtain ⟨o1, e, h1⟩ := ih (by omega) (fun j hj => hne j (by omega))
    have hz : (s.extract k s.size).size = s.size - k := by rw [ByteArray.size_extract]; omega
    have hx : (numsB (s.extract k s.size)).getD 0 0 = (numsB s).getD k 0 := numsB_extract (Nat.le_refl _) (by omega)
    have hk92 := hne k (by omega)
    generalize hr : s.extract k s.size = r at h1 hz hx
    cases h1 with
    | nil h => omega
    | plain h hs ho =>
      rename_i c o2
      have hl : k < s.data.toList.length := by rw [size_list]; omega
      have hb : r[0] = s.data.toList[k] := by
        have h2 := byte_num r h
        rw [hx, ← byte_num s (by omega)] at h2
        have h3 : r[0].toNat = s[k].toNat := by omega
        exact (UInt8.toNat_inj.1 h3).trans rfl
      refine ⟨o2, by rw [e, List.take_succ_eq_append_getElem hl, List.append_assoc, ← hb]; rfl, ?_⟩
      rw [hz, ← hr, extract_in (by omega) (by omega), show k + (s.size - k) = s.size by omega] at ho
      exact ho
    | esc h hs ho =>
      have := hs.2.2.1 (by omega) (by rw [hx]; exact hk92)
      omega

theorem occ_one {s : ByteArray} {b : UInt8} {i : Nat} (h : i < s.size) : occ s ⟨#[b]⟩ i = (b == s[i]) := by
  have hl : i < s.data.toList.length := by rw [size_list]; exact h
  unfold occ Lib.occAt
  rw [List.drop_eq_getElem_cons hl]
  show ([b] : List UInt8).isPrefixOf (s.data.toList[i] :: s.data.toList.drop (i + 1)) = _
  simp [List.isPrefixOf]
  rfl

/-- where the first backslash is. -/
theorem slash_is (s : ByteArray) : (Lib.indexByte s.data.toList 92 = -1 ∧ ∀ j, j < s.size → (numsB s).getD j 0 ≠ 92) ∨
    (∃ i : Nat, Lib.indexByte s.data.toList 92 = i ∧ i < s.size ∧ (numsB s).getD i 0 = 92 ∧ ∀ j, j < i → (numsB s).getD j 0 ≠ 92) := by
  have hf := first_index (s := s) (t := ⟨#[92]⟩) (x := 0) (f := 0) (by decide) (Nat.zero_le _) (by show 0 < 1; omega)
  rw [extract_whole, show (⟨#[92]⟩ : ByteArray).data.toList = [92] from rfl, Lib.index_one] at hf
  have key : ∀ j, j < s.size → (occ s ⟨#[92]⟩ j = true ↔ (numsB s).getD j 0 = 92) := fun j hj => by
    rw [occ_one hj, ← byte_num s hj, beq_iff_eq]
    constructor
    · intro e; rw [← e]; rfl
    · intro e; exact (UInt8.toNat_inj.1 (by show (92 : UInt8).toNat = _; have : (92 : UInt8).toNat = 92 := rfl; omega))
  rcases hf with ⟨e, k⟩ | ⟨i, e, hi, k⟩
  · refine Or.inl ⟨e, fun j hj he => ?_⟩
    rcases k with ⟨_, h | h⟩ | ⟨i, h, _⟩
    · exact absurd h (by decide)
    · have := h j (by omega)
      rw [(key j hj).2 he] at this
      cases this
    · omega
  · rcases k with ⟨h, _⟩ | ⟨j, h, h0, h1, h2, h3, h4⟩
    · omega
    · have hj1 : j + 1 ≤ s.size := h1
      obtain rfl : i = j := by omega
      refine Or.inr ⟨i, e, by omega, (key i (by omega)).1 h3, fun j hj he => ?_⟩
      have := h4 j hj (by omega)
      rw [(key j (by omega)).2 he] at this
      cases this
end Go.Proofs.Ytkohpijpipcajaa
