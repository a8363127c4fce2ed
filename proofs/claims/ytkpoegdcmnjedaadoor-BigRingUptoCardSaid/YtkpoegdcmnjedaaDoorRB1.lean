import Derived.Test.YtkpoegdcmnjedaaDoorRA1
namespace Go.Proofs.YtkpoegdcmnjedaaDoor
open Go.RowKit
set_option linter.unusedVariables false
set_option linter.unusedSimpArgs false

set_option maxHeartbeats 400000 in
theorem ref_digit_any {B : Nat} {v : Value} {l : List Nat} {W : World} (h : N B W v l) (i : Nat) (hi : i ≤ 1000000000) :
    Calls Tryd.prog 105 #[v, .int .i64 i] W fun e w' => e = .returned (.int .i64 (dg l i : Int)) ∧ W = w' := by
  obtain ⟨ao, cap, rfl, _, _⟩ := h.slice
  by_cases hlt : i < l.length
  · obtain ⟨g, rfl, _, _⟩ := h.block (show 0 < l.length by omega)
    have hcell := h.cell hlt
    generalize dg l i = d at hcell ⊢
    have H := Lib.hid h
    clear h
    go_enter Tryd.func105, Tryd.ntmps105
    go_wp2
    go_ret
    exact ⟨rfl, rfl⟩
  · rw [dg_ge (by omega)]
    have hd : decide (i < l.length) = false := by simpa using hlt
    clear h
    go_enter Tryd.func105, Tryd.ntmps105
    go_wp2
    go_ret
    exact ⟨rfl, rfl⟩

set_option maxHeartbeats 400000 in
theorem ref_order_any {B B' : Nat} {va vb : Value} {l m : List Nat} {W : World} (ha : N B W va l) (hb : N B' W vb m) (hl : Dig 10 l) (hm : Dig 10 m) (hla : l.length ≤ 1000000) (hlb : m.length ≤ 1000000) :
    Calls Tryd.prog 82 #[va, vb] W fun e W' => e = .returned (.int .i64 (cmpI (val 10 l) (val 10 m))) ∧ W = W' := by
  obtain ⟨aa, ca, rfl, _, _⟩ := ha.slice
  obtain ⟨ab, cb, rfl, _, _⟩ := hb.slice
  have HA := Lib.hid ha
  have HB := Lib.hid hb
  have HL := Lib.hid hl
  have HM := Lib.hid hm
  obtain ⟨c, HC⟩ : ∃ c, Hid (cmpI (val 10 l) (val 10 m) = c) := ⟨_, Lib.hid rfl⟩
  rw [HC.out]
  clear ha hb hl hm
  obtain ⟨q, HQ⟩ : ∃ q : Nat, Hid (max (l.length : Int) (m.length : Int) = (q : Int) ∧ l.length ≤ q ∧ m.length ≤ q ∧ q ≤ 1000000) := ⟨max l.length m.length, Lib.hid (by omega)⟩
  have hq := HQ.out.1
  have hq2 := HQ.out.2.2.2
  have H0 : Hid (cmpI (V 10 l q) (V 10 m q) = c) := Lib.hid (by rw [V_stop _ HQ.out.2.1, V_stop _ HQ.out.2.2.1]; exact HC.out)
  go_enter Tryd.func82, Tryd.ntmps82
  go_wp2
  go_loop [5] (fun iv => ∃ k : Nat, k ≤ q ∧ iv = .int .i64 ((k : Int) - 1) ∧ Hid (cmpI (V 10 l k) (V 10 m k) = c)) (fun iv => (intOf iv + 1).toNat)
  case atStart => exact ⟨q, Nat.le_refl _, rfl, H0⟩
  case round =>
    obtain ⟨k, hk, rfl, hc⟩ := hrel
    by_cases h0 : k = 0
    · subst h0
      have hz : Hid (c = 0) := Lib.hid (by rw [← hc.out]; rfl)
      go_wp2
      go_ret
      exact ⟨by rw [hz.out]; rfl, rfl⟩
    · obtain ⟨i, rfl⟩ : ∃ i, k = i + 1 := ⟨k - 1, by omega⟩
      have hs := cmp_step HL.out HM.out i
      rw [hc.out] at hs
      have e1 : ((i + 1 : Nat) : Int) - 1 = (i : Int) := by omega
      rw [e1]
      have hd1 := ref_digit_any (W := W) HA.out i (by omega)
      have hd2 := ref_digit_any (W := W) HB.out i (by omega)
      obtain ⟨x, HX⟩ : ∃ x, Hid (dg l i = x) := ⟨_, Lib.hid rfl⟩
      obtain ⟨y, HY⟩ : ∃ y, Hid (dg m i = y) := ⟨_, Lib.hid rfl⟩
      rw [HX.out] at hd1 hs
      rw [HY.out] at hd2 hs
      have HS := Lib.hid hs
      have HD1 := Lib.hid hd1
      have HD2 := Lib.hid hd2
      clear hd1 hd2 hs e1
      go_wp2_with fail
      refine HD1.out.mono ?_
      rintro e w1 ⟨rfl, rfl⟩
      go_wp2_with fail
      refine HD2.out.mono ?_
      rintro e w2 ⟨rfl, rfl⟩
      rcases Nat.lt_trichotomy x y with hlt | rfl | hgt
      · have HE : Hid (c = -1) := Lib.hid (by have := HS.out; rwa [if_pos hlt] at this)
        have hne : (x == y) = false := by rw [beq_eq_false_iff_ne]; omega
        go_wp2
        go_ret
        exact ⟨by rw [HE.out] <;> rfl, rfl⟩
      · have HE : Hid (cmpI (V 10 l i) (V 10 m i) = c) := Lib.hid (by have := HS.out; rw [if_neg (by omega), if_neg (by omega)] at this; exact this.symm)
        go_wp2
        go_round
        case rel => exact ⟨i, by omega, rfl, HE⟩
        case measure => simp [intOf] <;> omega
      · have HE : Hid (c = 1) := Lib.hid (by have := HS.out; rwa [if_neg (by omega), if_pos hgt] at this)
        have hne : (x == y) = false := by rw [beq_eq_false_iff_ne]; omega
        have hnl : decide (x < y) = false := by rw [decide_eq_false_iff_not]; omega
        go_wp2
        go_ret
        exact ⟨by rw [HE.out] <;> rfl, rfl⟩
end Go.Proofs.YtkpoegdcmnjedaaDoor
