import Derived.Test.YtocdabmfcbmpaaaDoorAB2
import Derived.Test.YtocdabmfcbmpaaaDoorAB3
import Derived.Test.YtocdabmfcbmpaaaDoorAB4
namespace Go.Proofs.YtocdabmfcbmpaaaDoor
open Go.RowKit
set_option linter.unusedVariables false
set_option linter.unusedSimpArgs false

theorem beq_no {a : Int} (h : ¬ a = 0) : (a == 0) = false := beq_eq_false_iff_ne.2 h
theorem clockAdds_any (t m n tt : Int) (s : ByteArray) (w : World) (hT : Tab w) (hL : LenT w) : Calls Tryd.prog 5 #[I t, I m, I n, I tt, .string s] w fun e w' => e = .returned (.bool true) ∧ Below w.heap.size w w' := by
  by_cases g0 : m < -1000000000
  · exact adds_g0 t m n tt s w hT g0
  by_cases g1 : 1000000000 < m
  · exact adds_g1 t m n tt s w hT g1
  have hm : -1000000000 ≤ m ∧ m ≤ 1000000000 := by omega
  by_cases g2 : n < -1000000000
  · exact adds_g2 t m n tt s w hT g2 hm
  by_cases g3 : 1000000000 < n
  · exact adds_g3 t m n tt s w hT g3 hm
  have hn : -1000000000 ≤ n ∧ n ≤ 1000000000 := by omega
  by_cases g4 : 10 < s.size
  · exact adds_g4 t m n tt s w hT g4 hm hn
  have hs : s.size ≤ 10 := by omega
  have hA := AddIs.of t m s
  cases hi : inT' t
  · exact adds_x t m n tt _ _ _ _ _ _ 7 _ _ s w hT hL hm hn hs (fun w => Date_no hi w) hA (Or.inl rfl)
  have hD : DateIs t (dYI (t / 86400)) (dMI (t / 86400)) (dDI (t / 86400)) (t % 86400 / 3600) (t % 86400 / 60 % 60) (t % 86400 % 60) 0 := fun w => Date_ok hi w
  by_cases ha : (addX t m s).2 = 0
  case neg => exact adds_x t m n tt _ _ _ _ _ _ 0 _ _ s w hT hL hm hn hs hD hA (Or.inr ⟨rfl, beq_no ha⟩)
  obtain ⟨_, u, hu7, hu, hadd⟩ := addX_in ha
  obtain ⟨t0, t1⟩ := inB_iff.1 hi
  rw [ha] at hA
  have hB := AddIs.of (addX t m s).1 n s
  have hC := AddIs.of t (m + n) s
  have hK := BetIs.of t tt s
  -- what stands in the second test
  have h9 : ((addX (addX t m s).1 n s).2 == 0) = false ∨ ((addX (addX t m s).1 n s).2 = 0 ∧ 28 < dDI (t / 86400)) ∨ ((addX (addX t m s).1 n s).2 = 0 ∧ (addX t (m + n) s).2 = 0 ∧ (addX t (m + n) s).1 = (addX (addX t m s).1 n s).1) := by
    by_cases hb : (addX (addX t m s).1 n s).2 = 0
    · by_cases hd : 28 < dDI (t / 86400)
      · exact Or.inr (Or.inl ⟨hb, hd⟩)
      · obtain ⟨_, v, _, hv, haddb⟩ := addX_in hb
        rw [hu] at hv
        cases hv
        have h3 := add_twice t0 t1 hm hn (by omega) hadd haddb
        have := addX_of hi hu h3
        exact Or.inr (Or.inr ⟨hb, by rw [this], by rw [this]⟩)
    · exact Or.inl (beq_no hb)
  generalize (addX (addX t m s).1 n s).1 = bv at *
  generalize (addX (addX t m s).1 n s).2 = be at *
  generalize (addX t (m + n) s).1 = cv at *
  generalize (addX t (m + n) s).2 = ce at *
  generalize (addX t m s).1 = av at *
  by_cases hk : (btX t tt s).2 = 0
  case neg =>
    rcases h9 with h9 | ⟨h9, h9'⟩ | ⟨h9, h9', h9''⟩
    · exact adds_00 t m n tt _ _ _ _ _ _ _ _ _ _ _ _ _ s w hT hL hm hn hs hD hA hB hC hK h9 (beq_no hk)
    · exact adds_10 t m n tt _ _ _ _ _ _ _ _ _ _ _ _ _ s w hT hL hm hn hs hD hA hB hC hK h9 h9' (beq_no hk)
    · exact adds_20 t m n tt _ _ _ _ _ _ _ _ _ _ _ _ _ s w hT hL hm hn hs hD hA hB hC hK h9 h9' h9'' (beq_no hk)
  by_cases hlt : tt < t
  · rcases h9 with h9 | ⟨h9, h9'⟩ | ⟨h9, h9', h9''⟩
    · exact adds_01 t m n tt _ _ _ _ _ _ _ _ _ _ _ _ _ s w hT hL hm hn hs hD hA hB hC hK h9 hk hlt
    · exact adds_11 t m n tt _ _ _ _ _ _ _ _ _ _ _ _ _ s w hT hL hm hn hs hD hA hB hC hK h9 h9' hk hlt
    · exact adds_21 t m n tt _ _ _ _ _ _ _ _ _ _ _ _ _ s w hT hL hm hn hs hD hA hB hC hK h9 h9' h9'' hk hlt
  obtain ⟨_, hib, v, hv7, hv, hkv⟩ := btX_in hk
  rw [hu] at hv
  cases hv
  obtain ⟨b0, b1⟩ := inB_iff.1 hib
  have hle : t ≤ tt := by omega
  have hkk := between_bd hu7 t0 b1 hle
  obtain ⟨_, ⟨x, hx, hxle⟩, hmost⟩ := between_most hu7 t0 b1 hle
  rw [← hkv hle] at hkk hx hmost
  have hX := AddIs.of t (btX t tt s).1 s
  have hY := AddIs.of t ((btX t tt s).1 + 1) s
  have ex := addX_of hi hu hx
  have hxe : (addX t (btX t tt s).1 s).2 = 0 := by rw [ex]
  have hxv : (addX t (btX t tt s).1 s).1 ≤ tt := by rw [ex]; exact hxle
  by_cases hy : (addX t ((btX t tt s).1 + 1) s).2 = 0
  · obtain ⟨_, v, _, hv, hadd2⟩ := addX_in hy
    rw [hu] at hv
    cases hv
    have hyv := hmost _ hadd2
    rcases h9 with h9 | ⟨h9, h9'⟩ | ⟨h9, h9', h9''⟩
    · exact adds_03 t m n tt _ _ _ _ _ _ _ _ _ _ _ _ _ _ _ _ _ s w hT hL hm hn hs hD hA hB hC hK hX hY h9 hk hle hkk hxe hxv hy hyv
    · exact adds_13 t m n tt _ _ _ _ _ _ _ _ _ _ _ _ _ _ _ _ _ s w hT hL hm hn hs hD hA hB hC hK hX hY h9 h9' hk hle hkk hxe hxv hy hyv
    · exact adds_23 t m n tt _ _ _ _ _ _ _ _ _ _ _ _ _ _ _ _ _ s w hT hL hm hn hs hD hA hB hC hK hX hY h9 h9' h9'' hk hle hkk hxe hxv hy hyv
  · rcases h9 with h9 | ⟨h9, h9'⟩ | ⟨h9, h9', h9''⟩
    · exact adds_02 t m n tt _ _ _ _ _ _ _ _ _ _ _ _ _ _ _ _ _ s w hT hL hm hn hs hD hA hB hC hK hX hY h9 hk hle hkk hxe hxv (beq_no hy)
    · exact adds_12 t m n tt _ _ _ _ _ _ _ _ _ _ _ _ _ _ _ _ _ s w hT hL hm hn hs hD hA hB hC hK hX hY h9 h9' hk hle hkk hxe hxv (beq_no hy)
    · exact adds_22 t m n tt _ _ _ _ _ _ _ _ _ _ _ _ _ _ _ _ _ s w hT hL hm hn hs hD hA hB hC hK hX hY h9 h9' h9'' hk hle hkk hxe hxv (beq_no hy)
end Go.Proofs.YtocdabmfcbmpaaaDoor
