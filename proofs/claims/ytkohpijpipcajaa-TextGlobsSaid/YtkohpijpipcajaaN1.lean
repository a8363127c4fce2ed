import Derived.Test.YtkohpijpipcajaaL2
import Derived.Test.YtkohpijpipcajaaM3
import Derived.Test.YtkohpijpipcajaaH3
namespace Go.Proofs.Ytkohpijpipcajaa
open Go.RowKit
set_option linter.unusedVariables false
set_option linter.unusedSimpArgs false

theorem repT_nat {s : ByteArray} {n : Nat} (hs : s.size ≤ 400) (hn : n ≤ 40) : repT s n = ⟨(Lib.repeatL s.data.toList n).toArray⟩ ∧ repE s n = 0 := by
  have hm : s.size * n ≤ 65536 := Nat.le_trans (Nat.mul_le_mul hs hn) (by decide)
  constructor
  · unfold repT
    by_cases c : 1 ≤ (n : Int) ∧ 0 < s.size ∧ s.size * (n : Int).toNat ≤ 65536
    · rw [if_pos c]; simp
    · rw [if_neg c]
      have : n = 0 ∨ s.size = 0 := by
        by_cases h0 : n = 0
        · exact Or.inl h0
        · refine Or.inr ?_
          by_cases h1 : s.size = 0
          · exact h1
          · exact absurd ⟨by omega, by omega, by simpa using hm⟩ c
      rcases this with rfl | h
      · rfl
      · have : s.data.toList = [] := List.length_eq_zero_iff.1 (by rw [size_list]; exact h)
        rw [this, Lib.repeatL_nil]
  · unfold repE
    rw [if_neg]
    rintro ⟨_, _, h⟩
    exact h (by simpa using hm)

theorem repT_add {s : ByteArray} {a b : Nat} (hs : s.size ≤ 400) (ha : a ≤ 20) (hb : b ≤ 20) : repT s a ++ repT s b = repT s (a + b : Int) := by
  have h := (repT_nat (n := a + b) hs (by omega)).1
  rw [Int.natCast_add] at h
  rw [(repT_nat hs (by omega)).1, (repT_nat hs (by omega)).1, h, Lib.repeatL_add]
  apply ByteArray.ext
  simp

theorem rev_rev (s : ByteArray) : strOfNums (numsB (strOfNums (numsB s).reverse)).reverse = s := by
  have h : numsB (strOfNums (numsB s).reverse) = (numsB s).reverse := by
    unfold numsB
    rw [strOfNums_data, List.map_map, ← List.map_reverse, List.map_map]
    apply List.map_congr_left
    intro b _
    simp
  rw [h, List.reverse_reverse, numsB_str]

theorem numsB_map (s : ByteArray) (f : Int → Int) (hf : ∀ x, 0 ≤ x → x ≤ 255 → 0 ≤ f x ∧ f x ≤ 255) : numsB (strOfNums ((numsB s).map f)) = (numsB s).map f := by
  unfold numsB
  rw [strOfNums_data, List.map_map, List.map_map, List.map_map, List.map_map]
  apply List.map_congr_left
  intro b _
  have hb := b.toNat_lt
  have := hf b.toNat (by omega) (by omega)
  show (((UInt8.ofNat (f b.toNat).toNat).toNat : Nat) : Int) = f b.toNat
  rw [UInt8.toNat_ofNat_of_lt' (by show (f b.toNat).toNat < 256; omega)]
  omega
theorem grt_in (x : Int) (h0 : 0 ≤ x) (h1 : x ≤ 255) : 0 ≤ grt x ∧ grt x ≤ 255 := by unfold grt; split <;> omega
theorem sml_grt (x : Int) : sml (grt x) = sml x := by
  unfold sml grt
  by_cases a : 97 ≤ x ∧ x ≤ 122
  · rw [if_pos a, if_pos (by omega), if_neg (by omega)]; omega
  · rw [if_neg a]
theorem lower_upper (s : ByteArray) : strOfNums ((numsB (strOfNums ((numsB s).map grt))).map sml) = strOfNums ((numsB s).map sml) := by
  rw [numsB_map s grt grt_in, List.map_map]
  congr 1
  apply List.map_congr_left
  intro x _
  exact sml_grt x

/-- what stands at a place. -/
theorem occ_extract {s t : ByteArray} {i : Nat} (h : occ s t i = true) (ht : 0 < t.size) : s.extract i (i + t.size) = t := by
  have hin := occ_in h ht
  unfold occ Lib.occAt at h
  apply ByteArray.ext
  apply Array.toList_inj.1
  rw [ByteArray.data_extract, Array.toList_extract, List.extract_eq_take_drop, Nat.add_sub_cancel_left, ← size_list t]
  have := List.isPrefixOf_iff_prefix.1 h
  exact (List.prefix_iff_eq_take.1 this).symm

/-- what Replace has put in. -/
theorem range_replaced {s t : ByteArray} {f g : Nat} (hfg : f ≤ g) (hg : g < s.size) : rangeT (s.extract 0 f ++ t ++ s.extract (g + 1) s.size) f ((f : Int) + t.size - 1) = t := by
  have hsz : (s.extract 0 f ++ t ++ s.extract (g + 1) s.size).size = f + t.size + (s.size - (g + 1)) := by
    simp only [ByteArray.size_append, ByteArray.size_extract]; omega
  unfold rangeT
  rw [hsz]
  by_cases h : t.size = 0
  · rw [if_neg (by omega)]
    have : t.data.toList = [] := List.length_eq_zero_iff.1 (by rw [size_list]; exact h)
    apply ByteArray.ext
    apply Array.toList_inj.1
    rw [this]
  · rw [if_pos (by omega)]
    have e1 : (max (f : Int) 0).toNat = f := by omega
    have e2 : (min ((f : Int) + t.size - 1) ((f + t.size + (s.size - (g + 1)) : Nat) - 1 : Int)).toNat + 1 = f + t.size := by omega
    rw [e1, e2]
    apply ByteArray.ext
    apply Array.toList_inj.1
    rw [ByteArray.data_extract, Array.toList_extract, List.extract_eq_take_drop, Nat.add_sub_cancel_left]
    simp only [ByteArray.data_append, Array.toList_append, List.append_assoc]
    have hl : (s.extract 0 f).data.toList.length = f := by rw [size_list, ByteArray.size_extract]; omega
    rw [List.drop_append_of_le_length (by omega), List.drop_eq_nil_of_le (by omega), List.nil_append, List.take_append_of_le_length (by rw [size_list]; exact Nat.le_refl _), List.take_of_length_le (by rw [size_list]; exact Nat.le_refl _)]

theorem HasMax.later {V W : World} {B : Nat} (h : HasMax V) (hB : 0 < B) (hb : Below B V W) : HasMax W := by
  obtain ⟨m, hm⟩ := h
  exact ⟨m, (hb.cell (p := ⟨0, 0, none⟩) hB).trans hm⟩
end Go.Proofs.Ytkohpijpipcajaa
