import Derived.Test.YtkpoegdcmnjedaaDoorPR3
import Derived.Test.YtkpoegdcmnjedaaDoorRJ2
import Derived.Test.YtkpoegdcmnjedaaDoorSV2
import Derived.Deep.QuietTactic
import Derived.Test.YtkpoegdcmnjedaaDoorPR4a
import Derived.Test.YtkpoegdcmnjedaaDoorTP3
import Derived.Test.YtkpoegdcmnjedaaDoorRF6
import Derived.Test.YtkpoegdcmnjedaaDoorRF4
import Derived.Deep.CutRange
import Derived.Test.YtkpoegdcmnjedaaDoorSC3
namespace Go.Proofs.YtkpoegdcmnjedaaDoor
open Go.RowKit
set_option linter.unusedVariables false
set_option linter.unusedSimpArgs false

/-! ### the reference's Divided, for divisors of both signs -/
set_option maxRecDepth 100000 in
set_option maxHeartbeats 4000000 in
theorem ref_Divided_same {B B' : Nat} {W : World} {va vb : Value} {x y : Int} (ha : Qn B W va x) (hb : Qn B' W vb y) (hx : nt x.natAbs ≤ 400000) (hy : nt y.natAbs ≤ 400000) (hy0 : y ≠ 0) (hs : decide (x < 0) = decide (y < 0)) (q : Int) (hfl : q = ((x.natAbs / y.natAbs : Nat) : Int)) :
    Calls Tryd.prog 78 #[va, vb] W fun e W' => (∃ v1 v2, e = .returned (.tuple #[v1, v2]) ∧ Qn W.heap.size W' v1 q ∧ Qn W.heap.size W' v2 (x + -(q * y))) ∧ Below W.heap.size W W' := by
  obtain ⟨m1, a1, n1, p1, rfl, hm1, HS1⟩ := ha.view
  obtain ⟨m2, a2, n2, p2, rfl, hm2, HS2⟩ := hb.view
  have e1 : m1 = m2 := by rw [HS1.out, HS2.out]; exact hs
  subst e1
  clear HS1 HS2 hs
  obtain ⟨V, hV, v0, v1, v2, v3, vb, vs⟩ := four_new W (Obj.cells #[.bool m1, .slice a1 n1 p1] 51) (Obj.cells #[.bool m1, .slice a2 n2 p2] 51) (Obj.cells #[.bool false, .slice none 0 0] 51) (Obj.cells #[.bool false, .slice none 0 0] 51)
  have HV := Lib.hid hV
  have HM1 := Lib.hid (hm1.later vb (Nat.le_refl _))
  have HM2 := Lib.hid (hm2.later vb (Nat.le_refl _))
  have HQ1 := Lib.hid (ha.later vb (Nat.le_refl _))
  have HQ2 := Lib.hid (hb.later vb (Nat.le_refl _))
  have HVB := Lib.hid vb
  have HVS := Lib.hid vs
  have F0 := Lib.hid (And.intro (Box2.of v0) (And.intro (Box2.of v1) (And.intro (show Box2 (W.heap.size + 1 + 1) _ _ V from Box2.of v2) (show Box2 (W.heap.size + 1 + 1 + 1) _ _ V from Box2.of v3))))
  have c1 := F0.out.1.c1
  have d1 := F0.out.2.1.c1
  have H88 := Lib.hid (ref_divided_any HM1.out HM2.out (by omega) (by omega) (by omega))
  clear hm1 hm2 vb v0 v1 v2 v3 ha hb hV
  go_enter Tryd.func78, Tryd.ntmps78
  go_upto_region 1 with (fail)
  rw [← HV.out]
  go_upto_region 2 with ((go_at_call 88; (with_reducible refine H88.out.mono ?_); rintro e w5 ⟨⟨v5, v6, rfl, hq5, hr5⟩, hb5⟩; obtain ⟨a5, n5, p5, rfl⟩ := hq5.slice3; obtain ⟨a6, n6, p6, rfl⟩ := hr5.slice3; have HQ5 := Lib.hid hq5; have HR5 := Lib.hid hr5; have HB5 := Lib.hid hb5; have F5 := Lib.hid (And.intro (F0.out.1.after hb5) (And.intro (F0.out.2.1.after hb5) (And.intro (F0.out.2.2.1.after hb5) (F0.out.2.2.2.after hb5)))); clear hq5 hr5 hb5))
  have g0 := F5.out.1.c0
  have k0 := F5.out.2.1.c0
  go_upto_region 3 with ((go_at_call 83; (with_reducible refine (ref_num_any _ _ _ _ _).mono ?_); rintro e w6 ⟨rfl, hb6⟩; have HB6 := Lib.hid hb6; clear hb6; have F6 := Lib.hid (And.intro (F5.out.1.after HB6.out) (And.intro (F5.out.2.1.after HB6.out) (And.intro (F5.out.2.2.1.after HB6.out) (F5.out.2.2.2.after HB6.out))))))
  obtain ⟨w7, hw7, hbx7, hb7, hs7⟩ := box2_new w6 (.bool false) (.slice a5 n5 p5)
  rw [← hw7]
  have FA : Hid (Box2 W.heap.size (.bool m1) (.slice a1 n1 p1) w7 ∧ Box2 (W.heap.size + 1) (.bool m1) (.slice a2 n2 p2) w7 ∧ Box2 (W.heap.size + 1 + 1) (.bool false) (.slice none 0 0) w7 ∧ Box2 (W.heap.size + 1 + 1 + 1) (.bool false) (.slice none 0 0) w7) := Lib.hid ⟨F6.out.1.after hb7, F6.out.2.1.after hb7, F6.out.2.2.1.after hb7, F6.out.2.2.2.after hb7⟩
  have FT := Lib.hid hbx7
  have HV7 : Hid (Below V.heap.size V w7) := Lib.hid ((HB5.out.trans (HB6.out.mono HB5.out.size)).trans (hb7.mono (Nat.le_trans HB5.out.size HB6.out.size)))
  have HWP : Hid (Below W.heap.size W w7) := Lib.hid (HVB.out.trans (HV7.out.mono HVB.out.size))
  have HXW := Lib.hid (HQ1.out.later HV7.out (Nat.le_refl _))
  have HYW := Lib.hid (HQ2.out.later HV7.out (Nat.le_refl _))
  have hqa : q.natAbs = x.natAbs / y.natAbs := by rw [hfl, Int.natAbs_natCast]
  have hqn : 0 ≤ q := by rw [hfl]; exact Int.natCast_nonneg _
  have HQW : Hid (Qn V.heap.size w7 (numR false (.slice a5 n5 p5)) q) := Lib.hid ⟨a5, n5, p5, by rw [decide_eq_false (by omega)], by rw [hqa]; exact HQ5.out.later (HB6.out.trans (hb7.mono HB6.out.size)) (Nat.le_refl _)⟩
  have HNQ : Hid (nt q.natAbs ≤ 1000000) := Lib.hid (by rw [hqa]; exact Nat.le_trans (nt_mono (Nat.div_le_self _ _)) (by omega))
  have HNY : Hid (nt y.natAbs ≤ 1000000) := Lib.hid (by omega)
  have HNX : Hid (nt x.natAbs ≤ 1000000) := Lib.hid (by omega)
  have HNP : Hid (nt (-(q * y)).natAbs ≤ 1000000) := Lib.hid (Nat.le_trans (nt_mono (show (-(q * y)).natAbs ≤ x.natAbs by rw [Int.natAbs_neg, Int.natAbs_mul, hqa]; exact Nat.div_mul_le_self _ _)) (by omega))
  have hG6 : W.heap.size + 4 ≤ w6.heap.size := by have := HVS.out; have := HB5.out.size; have := HB6.out.size; omega
  have q0 := FA.out.1.c0
  have q1 := FA.out.2.1.c0
  clear hw7 hbx7 hb7 hqa hqn hfl g0 k0 c1 d1
  go_upto_region 5 with (fail)
  go_region_held3 (fun w' => (w'.cell? ⟨w6.heap.size, 0, none⟩ = some (.bool false) ∧ w'.cell? ⟨w6.heap.size, 1, none⟩ = some (.slice a5 n5 p5) ∧ w'.cell? ⟨W.heap.size, 0, none⟩ = some (.bool m1) ∧ w'.cell? ⟨W.heap.size, 1, none⟩ = some (.slice a1 n1 p1) ∧ w'.cell? ⟨W.heap.size + 1, 0, none⟩ = some (.bool m1) ∧ w'.cell? ⟨W.heap.size + 1, 1, none⟩ = some (.slice a2 n2 p2))) (with_reducible first | (with_reducible exact six_cells (FT.out.after (Below.drew (Below.refl _ _))) (FA.out.1.after (Below.drew (Below.refl _ _))) (FA.out.2.1.after (Below.drew (Below.refl _ _)))) | (with_reducible exact six_cells (FT.out.after HW8.out) (FA.out.1.after HW8.out) (FA.out.2.1.after HW8.out)) | (with_reducible exact six_cells (FT.out.after HW9.out) (FA.out.1.after HW9.out) (FA.out.2.1.after HW9.out)) | (with_reducible exact six_cells (FT.out.after HW10.out) (FA.out.1.after HW10.out) (FA.out.2.1.after HW10.out)) | (with_reducible exact six_cells (((FT.out.after HW10.out).far (by omega)).far (by omega)) (((FA.out.1.after HW10.out).far (by omega)).far (by omega)) (((FA.out.2.1.after HW10.out).far (by omega)).far (by omega))) | (with_reducible exact six_cells (((((FT.out.after HW10.out).far (by omega)).far (by omega)).far (by omega)).far (by omega)) (((((FA.out.1.after HW10.out).far (by omega)).far (by omega)).far (by omega)).far (by omega)) (((((FA.out.2.1.after HW10.out).far (by omega)).far (by omega)).far (by omega)).far (by omega)))) (first | (go_at_call 74; (with_reducible refine (ref_Times_any (HQW.out.later (Below.drew (Below.refl _ _)) (Nat.le_refl _)) (HYW.out.later (Below.drew (Below.refl _ _)) (Nat.le_refl _)) HNQ.out HNY.out).mono ?_); rintro e w8 ⟨⟨v8, rfl, hm8⟩, hb8⟩; have HM8 := Lib.hid hm8; have HW8 := Lib.hid (undrew hb8); clear hm8 hb8) | (go_at_call 68; (with_reducible refine (ref_opposite_any HM8.out).mono ?_); rintro e w9 ⟨⟨v9, rfl, hm9⟩, hb9⟩; have HM9 := Lib.hid hm9; have HW9 := Lib.hid (HW8.out.trans (hb9.mono HW8.out.size)); clear hm9 hb9) | (go_at_call 66; (with_reducible refine (ref_Plus_any (HXW.out.later HW9.out (Nat.le_refl _)) HM9.out HNX.out HNP.out).mono ?_); rintro e w10 ⟨⟨v10, rfl, hm10⟩, hb10⟩; have HW10 := Lib.hid (HW9.out.trans (hb10.mono HW9.out.size)); have HQ10 := Lib.hid hm10; obtain ⟨m10, a10, n10, p10, rfl, _, _⟩ := hm10.view; clear hm10 hb10; have r8 := FA.out.2.2.1.after HW10.out; have r9 := FA.out.2.2.2.after HW10.out; obtain ⟨x0, x1, x2, x3⟩ := r8; obtain ⟨y0, y1, y2, y3⟩ := r9))
  go_wp2
  refine bodyPost_ret (v := .tuple #[numR false (.slice a5 n5 p5), numR m10 (.slice a10 n10 p10)]) (by simp [results, Tryd.results78, go_sem, x0, x1, y0, y1]) rfl ⟨⟨_, _, rfl, ?_, ?_⟩, ?_⟩
  · exact (((((HQW.out.later HW10.out (Nat.le_refl _)).set (by have := HVS.out; omega) 0 _).set (by have := HVS.out; omega) 1 _).set (by have := HVS.out; omega) 0 _).set (by have := HVS.out; omega) 1 _).mono (by have := HVS.out; omega)
  · exact ((((HQ10.out.set (by have := HVS.out; have := HW9.out.size; have := HWP.out.size; omega) 0 _).set (by have := HVS.out; have := HW9.out.size; have := HWP.out.size; omega) 1 _).set (by have := HVS.out; have := HW9.out.size; have := HWP.out.size; omega) 0 _).set (by have := HVS.out; have := HW9.out.size; have := HWP.out.size; omega) 1 _).mono (by have := HVS.out; have := HW9.out.size; have := HWP.out.size; omega)
  · exact ((((HWP.out.trans (HW10.out.mono HWP.out.size)).setCell (show W.heap.size ≤ W.heap.size + 1 + 1 by omega) _).setCell (show W.heap.size ≤ W.heap.size + 1 + 1 by omega) _).setCell (show W.heap.size ≤ W.heap.size + 1 + 1 + 1 by omega) _).setCell (show W.heap.size ≤ W.heap.size + 1 + 1 + 1 by omega) _
set_option maxRecDepth 100000 in
set_option maxHeartbeats 4000000 in
theorem ref_Divided_diff {B B' : Nat} {W : World} {va vb : Value} {x y : Int} (ha : Qn B W va x) (hb : Qn B' W vb y) (hx : nt x.natAbs ≤ 400000) (hy : nt y.natAbs ≤ 400000) (hy0 : y ≠ 0) (hs : decide (x < 0) ≠ decide (y < 0)) (q : Int) (hfl : q = -((x.natAbs / y.natAbs + (if x.natAbs % y.natAbs = 0 then 0 else 1) : Nat) : Int)) :
    Calls Tryd.prog 78 #[va, vb] W fun e W' => (∃ v1 v2, e = .returned (.tuple #[v1, v2]) ∧ Qn W.heap.size W' v1 q ∧ Qn W.heap.size W' v2 (x + -(q * y))) ∧ Below W.heap.size W W' := by
  obtain ⟨m1, a1, n1, p1, rfl, hm1, HS1⟩ := ha.view
  obtain ⟨m2, a2, n2, p2, rfl, hm2, HS2⟩ := hb.view
  have e1 : m2 = !m1 := by
    have h1 := HS1.out
    have h2 := HS2.out
    rw [← h1, ← h2] at hs
    cases m1 <;> cases m2 <;> first | rfl | exact absurd rfl hs
  subst e1
  have hmm : (m1 != !m1) = true := by cases m1 <;> rfl
  have hmm2 : (m1 == !m1) = false := by cases m1 <;> rfl
  clear HS1 HS2 hs
  obtain ⟨V, hV, v0, v1, v2, v3, vb, vs⟩ := four_new W (Obj.cells #[.bool m1, .slice a1 n1 p1] 51) (Obj.cells #[.bool (!m1), .slice a2 n2 p2] 51) (Obj.cells #[.bool false, .slice none 0 0] 51) (Obj.cells #[.bool false, .slice none 0 0] 51)
  have HV := Lib.hid hV
  have HM1 := Lib.hid (hm1.later vb (Nat.le_refl _))
  have HM2 := Lib.hid (hm2.later vb (Nat.le_refl _))
  have HQ1 := Lib.hid (ha.later vb (Nat.le_refl _))
  have HQ2 := Lib.hid (hb.later vb (Nat.le_refl _))
  have HVB := Lib.hid vb
  have HVS := Lib.hid vs
  have F0 := Lib.hid (And.intro (Box2.of v0) (And.intro (Box2.of v1) (And.intro (show Box2 (W.heap.size + 1 + 1) _ _ V from Box2.of v2) (show Box2 (W.heap.size + 1 + 1 + 1) _ _ V from Box2.of v3))))
  have c1 := F0.out.1.c1
  have d1 := F0.out.2.1.c1
  obtain ⟨sq, HSQ⟩ : ∃ s, Hid (decide (0 < nt (x.natAbs / y.natAbs)) = s) := ⟨_, Lib.hid rfl⟩
  have H88 := Lib.hid (ref_divided_any HM1.out HM2.out (by omega) (by omega) (by omega))
  clear hm1 hm2 vb v0 v1 v2 v3 ha hb hV
  go_enter Tryd.func78, Tryd.ntmps78
  go_upto_region 1 with (fail)
  rw [← HV.out]
  go_upto_region 2 with ((go_at_call 88; (with_reducible refine H88.out.mono ?_); rintro e w5 ⟨⟨v5, v6, rfl, hq5, hr5⟩, hb5⟩; obtain ⟨a5, n5, p5, rfl⟩ := hq5.slice3; obtain ⟨a6, n6, p6, rfl⟩ := hr5.slice3; have HQ5 := Lib.hid hq5; have HR5 := Lib.hid hr5; have HB5 := Lib.hid hb5; have F5 := Lib.hid (And.intro (F0.out.1.after hb5) (And.intro (F0.out.2.1.after hb5) (And.intro (F0.out.2.2.1.after hb5) (F0.out.2.2.2.after hb5)))); clear hq5 hr5 hb5))
  have g0 := F5.out.1.c0
  have k0 := F5.out.2.1.c0
  go_upto_region 3 with ((go_at_call 83; (with_reducible refine (ref_num_any _ _ _ _ _).mono ?_); rintro e w6 ⟨rfl, hb6⟩; have HB6 := Lib.hid hb6; clear hb6; have F6 := Lib.hid (And.intro (F5.out.1.after HB6.out) (And.intro (F5.out.2.1.after HB6.out) (And.intro (F5.out.2.2.1.after HB6.out) (F5.out.2.2.2.after HB6.out))))))
  have hl5 : n5 = nt (x.natAbs / y.natAbs) := HQ5.out.len
  have hl6 : n6 = nt (x.natAbs % y.natAbs) := HR5.out.len
  have hsq : decide (0 < n5) = sq := by rw [hl5]; exact HSQ.out
  have hsq2 : (true && decide (0 < n5)) = sq := by rw [hsq]; cases sq <;> rfl
  obtain ⟨w7, hw7, hbx7, hb7, hs7⟩ := box2_new w6 (.bool (decide (0 < n5))) (.slice a5 n5 p5)
  rw [← hw7]
  rw [hsq] at hbx7 ⊢
  have FA : Hid (Box2 W.heap.size (.bool m1) (.slice a1 n1 p1) w7 ∧ Box2 (W.heap.size + 1) (.bool (!m1)) (.slice a2 n2 p2) w7 ∧ Box2 (W.heap.size + 1 + 1) (.bool false) (.slice none 0 0) w7 ∧ Box2 (W.heap.size + 1 + 1 + 1) (.bool false) (.slice none 0 0) w7) := Lib.hid ⟨F6.out.1.after hb7, F6.out.2.1.after hb7, F6.out.2.2.1.after hb7, F6.out.2.2.2.after hb7⟩
  have FT := Lib.hid hbx7
  have HV7 : Hid (Below V.heap.size V w7) := Lib.hid ((HB5.out.trans (HB6.out.mono HB5.out.size)).trans (hb7.mono (Nat.le_trans HB5.out.size HB6.out.size)))
  have HWP : Hid (Below W.heap.size W w7) := Lib.hid (HVB.out.trans (HV7.out.mono HVB.out.size))
  have HXW := Lib.hid (HQ1.out.later HV7.out (Nat.le_refl _))
  have HYW := Lib.hid (HQ2.out.later HV7.out (Nat.le_refl _))
  obtain ⟨Y, HYN⟩ : ∃ Y : Nat, Hid (y.natAbs = Y) := ⟨_, Lib.hid rfl⟩
  have hY := HYN.out
  have hYp : 0 < Y := by omega
  rw [hY] at hfl
  rw [hY] at HQ5 HR5 HSQ hl5 hl6
  obtain ⟨a, HAN⟩ : ∃ a : Nat, Hid (x.natAbs = a) := ⟨_, Lib.hid rfl⟩
  rw [HAN.out] at hfl HQ5 HR5 HSQ hl5 hl6
  have HQW : Hid (Qn V.heap.size w7 (numR sq (.slice a5 n5 p5)) (-((a / Y : Nat) : Int))) := Lib.hid (by
    have h := Qn.mk (x := -((a / Y : Nat) : Int)) (k := true) (HQ5.out.later (HB6.out.trans (hb7.mono HB6.out.size)) (Nat.le_refl _)) (by rw [Int.natAbs_neg, Int.natAbs_natCast]) (fun h0 => by generalize a / Y = q at h0 ⊢; exact (decide_eq_true (by omega)).symm)
    rw [hsq2] at h; exact h)
  have HNY : Hid (nt y.natAbs ≤ 1000000) := Lib.hid (by omega)
  have HNX : Hid (nt x.natAbs ≤ 1000000) := Lib.hid (by omega)
  have hna : nt a ≤ 400000 := by rw [← HAN.out]; exact hx
  have hdl : nt (a / Y) ≤ 400000 := Nat.le_trans (nt_mono (Nat.div_le_self _ _)) hna
  have HYL : Hid (nt (x.natAbs + y.natAbs) ≤ 1000000) := Lib.hid (Nat.le_trans (nt_mono (show x.natAbs + y.natAbs ≤ 2 * max x.natAbs y.natAbs by omega)) (by
    have h1 := nt_up (y := max x.natAbs y.natAbs) (R := 2 * max x.natAbs y.natAbs) (by omega)
    have h2 : nt (max x.natAbs y.natAbs) ≤ 400000 := by
      rcases Nat.le_total x.natAbs y.natAbs with h | h
      · rw [Nat.max_eq_right h]; exact hy
      · rw [Nat.max_eq_left h]; exact hx
    omega))
  have HNP : Hid (nt (-(q * y)).natAbs ≤ 1000000) := Lib.hid (Nat.le_trans (nt_mono (show (-(q * y)).natAbs ≤ x.natAbs + y.natAbs by
    rw [Int.natAbs_neg, Int.natAbs_mul, hfl, Int.natAbs_neg, Int.natAbs_natCast, HAN.out, hY, Nat.add_mul]
    have h1 := Nat.div_mul_le_self a Y
    have h2 : (if a % Y = 0 then 0 else 1) * Y ≤ Y := by split <;> omega
    omega)) HYL.out)
  have hG6 : W.heap.size + 4 ≤ w6.heap.size := by have := HVS.out; have := HB5.out.size; have := HB6.out.size; omega
  have q0 := FA.out.1.c0
  have q1 := FA.out.2.1.c0
  clear hw7 hbx7 g0 k0 c1 d1 hsq hsq2 hl5
  by_cases hr : a % Y = 0
  · rw [if_pos hr, Nat.add_zero] at hfl
    have h6 : n6 = 0 := by rw [hl6, hr]; exact nt_zero
    subst h6
    have HNQ : Hid (nt (q).natAbs ≤ 1000000) := Lib.hid (by rw [hfl, Int.natAbs_neg, Int.natAbs_natCast]; omega)
    rw [← hfl] at HQW
    clear hfl hr hl6
    go_upto_region 5 with (fail)
    go_region_held3 (fun w' => (w'.cell? ⟨w6.heap.size, 0, none⟩ = some (.bool sq) ∧ w'.cell? ⟨w6.heap.size, 1, none⟩ = some (.slice a5 n5 p5) ∧ w'.cell? ⟨W.heap.size, 0, none⟩ = some (.bool m1) ∧ w'.cell? ⟨W.heap.size, 1, none⟩ = some (.slice a1 n1 p1) ∧ w'.cell? ⟨W.heap.size + 1, 0, none⟩ = some (.bool (!m1)) ∧ w'.cell? ⟨W.heap.size + 1, 1, none⟩ = some (.slice a2 n2 p2))) (with_reducible first | (with_reducible exact six_cells (FT.out.after (Below.drew (Below.refl _ _))) (FA.out.1.after (Below.drew (Below.refl _ _))) (FA.out.2.1.after (Below.drew (Below.refl _ _)))) | (with_reducible exact six_cells (FT.out.after HW8.out) (FA.out.1.after HW8.out) (FA.out.2.1.after HW8.out)) | (with_reducible exact six_cells (FT.out.after HW9.out) (FA.out.1.after HW9.out) (FA.out.2.1.after HW9.out)) | (with_reducible exact six_cells (FT.out.after HW10.out) (FA.out.1.after HW10.out) (FA.out.2.1.after HW10.out)) | (with_reducible exact six_cells (((FT.out.after HW10.out).far (by omega)).far (by omega)) (((FA.out.1.after HW10.out).far (by omega)).far (by omega)) (((FA.out.2.1.after HW10.out).far (by omega)).far (by omega))) | (with_reducible exact six_cells (((((FT.out.after HW10.out).far (by omega)).far (by omega)).far (by omega)).far (by omega)) (((((FA.out.1.after HW10.out).far (by omega)).far (by omega)).far (by omega)).far (by omega)) (((((FA.out.2.1.after HW10.out).far (by omega)).far (by omega)).far (by omega)).far (by omega)))) (first | (go_at_call 74; (with_reducible refine (ref_Times_any (HQW.out.later (Below.drew (Below.refl _ _)) (Nat.le_refl _)) (HYW.out.later (Below.drew (Below.refl _ _)) (Nat.le_refl _)) HNQ.out HNY.out).mono ?_); rintro e w8 ⟨⟨v8, rfl, hm8⟩, hb8⟩; have HM8 := Lib.hid hm8; have HW8 := Lib.hid (undrew hb8); clear hm8 hb8) | (go_at_call 68; (with_reducible refine (ref_opposite_any HM8.out).mono ?_); rintro e w9 ⟨⟨v9, rfl, hm9⟩, hb9⟩; have HM9 := Lib.hid hm9; have HW9 := Lib.hid (HW8.out.trans (hb9.mono HW8.out.size)); clear hm9 hb9) | (go_at_call 66; (with_reducible refine (ref_Plus_any (HXW.out.later HW9.out (Nat.le_refl _)) HM9.out HNX.out HNP.out).mono ?_); rintro e w10 ⟨⟨v10, rfl, hm10⟩, hb10⟩; have HW10 := Lib.hid (HW9.out.trans (hb10.mono HW9.out.size)); have HQ10 := Lib.hid hm10; obtain ⟨m10, a10, n10, p10, rfl, _, _⟩ := hm10.view; clear hm10 hb10; have r8 := FA.out.2.2.1.after HW10.out; have r9 := FA.out.2.2.2.after HW10.out; obtain ⟨x0, x1, x2, x3⟩ := r8; obtain ⟨y0, y1, y2, y3⟩ := r9))
    go_wp2
    refine bodyPost_ret (v := .tuple #[numR sq (.slice a5 n5 p5), numR m10 (.slice a10 n10 p10)]) (by simp [results, Tryd.results78, go_sem, x0, x1, y0, y1]) rfl ⟨⟨_, _, rfl, ?_, ?_⟩, ?_⟩
    · exact (((((HQW.out.later HW10.out (Nat.le_refl _)).set (by have := HVS.out; omega) 0 _).set (by have := HVS.out; omega) 1 _).set (by have := HVS.out; omega) 0 _).set (by have := HVS.out; omega) 1 _).mono (by have := HVS.out; omega)
    · exact ((((HQ10.out.set (by have := HVS.out; have := HW9.out.size; have := HWP.out.size; omega) 0 _).set (by have := HVS.out; have := HW9.out.size; have := HWP.out.size; omega) 1 _).set (by have := HVS.out; have := HW9.out.size; have := HWP.out.size; omega) 0 _).set (by have := HVS.out; have := HW9.out.size; have := HWP.out.size; omega) 1 _).mono (by have := HVS.out; have := HW9.out.size; have := HWP.out.size; omega)
    · exact ((((HWP.out.trans (HW10.out.mono HWP.out.size)).setCell (show W.heap.size ≤ W.heap.size + 1 + 1 by omega) _).setCell (show W.heap.size ≤ W.heap.size + 1 + 1 by omega) _).setCell (show W.heap.size ≤ W.heap.size + 1 + 1 + 1 by omega) _).setCell (show W.heap.size ≤ W.heap.size + 1 + 1 + 1 by omega) _
  · rw [if_neg hr] at hfl
    have h6 : 0 < n6 := by
      rw [hl6]; exact Nat.pos_of_ne_zero fun e => hr (nt_eq_zero e)
    have HNQ0 : Hid (nt (-((a / Y : Nat) : Int)).natAbs ≤ 1000000) := Lib.hid (by rw [Int.natAbs_neg, Int.natAbs_natCast]; omega)
    have HQE : Hid (-((a / Y : Nat) : Int) + -1 = q) := Lib.hid (by rw [hfl]; generalize a / Y = q; omega)
    have HNQ : Hid (nt (q).natAbs ≤ 1000000) := Lib.hid (by
      rw [hfl, Int.natAbs_neg, Int.natAbs_natCast]
      have h1 := nt_succ (a / Y)
      omega)
    clear hfl hr hl6
    go_upto_region 4 with (fail)
    have ft := FT.out
    obtain ⟨z0, z1, z2, z3⟩ := ft
    go_region_with (first | (go_at_call 85; (with_reducible refine (ref_whole_any (-1) _ (by decide) (by decide)).mono ?_); rintro e w8 ⟨⟨v8, rfl, hm8⟩, hb8⟩; have HM8 := Lib.hid hm8; have HW8 := Lib.hid (undrew hb8); clear hm8 hb8; have r7 := FT.out.after HW8.out; obtain ⟨u0, u1, u2, u3⟩ := r7) | (go_at_call 66; (with_reducible refine (ref_Plus_any (HQW.out.later HW8.out (Nat.le_refl _)) HM8.out HNQ0.out (by decide +kernel)).mono ?_); rintro e w9 ⟨⟨v9, rfl, hm9⟩, hb9⟩; have HW9 := Lib.hid (HW8.out.trans (hb9.mono HW8.out.size)); obtain ⟨mz, az, nz, pz, rfl, _, _⟩ := hm9.view; have HM9 := Lib.hid hm9; clear hm9 hb9; have r8 := FT.out.after HW9.out; obtain ⟨x0, x1, x2, x3⟩ := r8))
    all_goals
      have hG7 : w7.heap.size = w6.heap.size + 1 := hs7
      have hG8 : w7.heap.size ≤ w8.heap.size := HW8.out.size
      have hG9 : w7.heap.size ≤ w9.heap.size := HW9.out.size
      obtain ⟨w13, hw13⟩ : ∃ w, w = (w9.setCell ⟨w6.heap.size, 0, none⟩ (.bool mz)).setCell ⟨w6.heap.size, 1, none⟩ (.slice az nz pz) := ⟨_, rfl⟩
      rw [← hw13]
      have HV13 : Hid (Below V.heap.size V w13) := Lib.hid (by rw [hw13]; exact ((HV7.out.trans (HW9.out.mono HV7.out.size)).setCell (by show V.heap.size ≤ w6.heap.size; have := HVS.out; omega) _).setCell (by show V.heap.size ≤ w6.heap.size; have := HVS.out; omega) _)
      replace HXW := Lib.hid (HQ1.out.later HV13.out (Nat.le_refl _))
      replace HYW := Lib.hid (HQ2.out.later HV13.out (Nat.le_refl _))
      have HQZ : Hid (Qn w8.heap.size w13 (numR mz (.slice az nz pz)) (q)) := Lib.hid (by
        have h := (HM9.out.set (b := w6.heap.size) (by omega) 0 (.bool mz)).set (b := w6.heap.size) (by omega) 1 (.slice az nz pz)
        rw [HQE.out, ← hw13] at h; exact h)
      replace FA : Hid (Box2 W.heap.size (.bool m1) (.slice a1 n1 p1) w13 ∧ Box2 (W.heap.size + 1) (.bool (!m1)) (.slice a2 n2 p2) w13 ∧ Box2 (W.heap.size + 1 + 1) (.bool false) (.slice none 0 0) w13 ∧ Box2 (W.heap.size + 1 + 1 + 1) (.bool false) (.slice none 0 0) w13) := Lib.hid (by
        rw [hw13]
        exact ⟨((FA.out.1.after HW9.out).far (by omega)).far (by omega), ((FA.out.2.1.after HW9.out).far (by omega)).far (by omega), ((FA.out.2.2.1.after HW9.out).far (by omega)).far (by omega), ((FA.out.2.2.2.after HW9.out).far (by omega)).far (by omega)⟩)
      replace FT : Hid (Box2 w6.heap.size (.bool mz) (.slice az nz pz) w13) := Lib.hid (by rw [hw13]; exact (FT.out.after HW9.out).two _ _)
      replace HWP : Hid (Below W.heap.size W w13) := Lib.hid (HVB.out.trans (HV13.out.mono HVB.out.size))
      have hG13 : w6.heap.size < w13.heap.size := by rw [hw13]; simp; omega
      clear hw13 x0 x1 x2 x3 u0 u1 u2 u3 z0 z1 z2 z3 HQW HW8 HW9 HM8 HM9 HQE
      go_upto_region 5 with (fail)
      go_region_held3 (fun w' => (w'.cell? ⟨w6.heap.size, 0, none⟩ = some (.bool mz) ∧ w'.cell? ⟨w6.heap.size, 1, none⟩ = some (.slice az nz pz) ∧ w'.cell? ⟨W.heap.size, 0, none⟩ = some (.bool m1) ∧ w'.cell? ⟨W.heap.size, 1, none⟩ = some (.slice a1 n1 p1) ∧ w'.cell? ⟨W.heap.size + 1, 0, none⟩ = some (.bool (!m1)) ∧ w'.cell? ⟨W.heap.size + 1, 1, none⟩ = some (.slice a2 n2 p2))) (with_reducible first | (with_reducible exact six_cells (FT.out.after (Below.drew (Below.refl _ _))) (FA.out.1.after (Below.drew (Below.refl _ _))) (FA.out.2.1.after (Below.drew (Below.refl _ _)))) | (with_reducible exact six_cells (FT.out.after HW8.out) (FA.out.1.after HW8.out) (FA.out.2.1.after HW8.out)) | (with_reducible exact six_cells (FT.out.after HW9.out) (FA.out.1.after HW9.out) (FA.out.2.1.after HW9.out)) | (with_reducible exact six_cells (FT.out.after HW10.out) (FA.out.1.after HW10.out) (FA.out.2.1.after HW10.out)) | (with_reducible exact six_cells (((FT.out.after HW10.out).far (by omega)).far (by omega)) (((FA.out.1.after HW10.out).far (by omega)).far (by omega)) (((FA.out.2.1.after HW10.out).far (by omega)).far (by omega))) | (with_reducible exact six_cells (((((FT.out.after HW10.out).far (by omega)).far (by omega)).far (by omega)).far (by omega)) (((((FA.out.1.after HW10.out).far (by omega)).far (by omega)).far (by omega)).far (by omega)) (((((FA.out.2.1.after HW10.out).far (by omega)).far (by omega)).far (by omega)).far (by omega)))) (first | (go_at_call 74; (with_reducible refine (ref_Times_any (HQZ.out.later (Below.drew (Below.refl _ _)) (Nat.le_refl _)) (HYW.out.later (Below.drew (Below.refl _ _)) (Nat.le_refl _)) HNQ.out HNY.out).mono ?_); rintro e w8 ⟨⟨v8, rfl, hm8⟩, hb8⟩; have HM8 := Lib.hid hm8; have HW8 := Lib.hid (undrew hb8); clear hm8 hb8) | (go_at_call 68; (with_reducible refine (ref_opposite_any HM8.out).mono ?_); rintro e w9 ⟨⟨v9, rfl, hm9⟩, hb9⟩; have HM9 := Lib.hid hm9; have HW9 := Lib.hid (HW8.out.trans (hb9.mono HW8.out.size)); clear hm9 hb9) | (go_at_call 66; (with_reducible refine (ref_Plus_any (HXW.out.later HW9.out (Nat.le_refl _)) HM9.out HNX.out HNP.out).mono ?_); rintro e w10 ⟨⟨v10, rfl, hm10⟩, hb10⟩; have HW10 := Lib.hid (HW9.out.trans (hb10.mono HW9.out.size)); have HQ10 := Lib.hid hm10; obtain ⟨m10, a10, n10, p10, rfl, _, _⟩ := hm10.view; clear hm10 hb10; have r8 := FA.out.2.2.1.after HW10.out; have r9 := FA.out.2.2.2.after HW10.out; obtain ⟨x0, x1, x2, x3⟩ := r8; obtain ⟨y0, y1, y2, y3⟩ := r9))
      go_wp2
      refine bodyPost_ret (v := .tuple #[numR mz (.slice az nz pz), numR m10 (.slice a10 n10 p10)]) (by simp [results, Tryd.results78, go_sem, x0, x1, y0, y1]) rfl ⟨⟨_, _, rfl, ?_, ?_⟩, ?_⟩
      · exact (((((HQZ.out.later HW10.out (Nat.le_refl _)).set (by have := HVS.out; omega) 0 _).set (by have := HVS.out; omega) 1 _).set (by have := HVS.out; omega) 0 _).set (by have := HVS.out; omega) 1 _).mono (by have := HVS.out; omega)
      · exact ((((HQ10.out.set (by have := HVS.out; have := HW9.out.size; have := HWP.out.size; omega) 0 _).set (by have := HVS.out; have := HW9.out.size; have := HWP.out.size; omega) 1 _).set (by have := HVS.out; have := HW9.out.size; have := HWP.out.size; omega) 0 _).set (by have := HVS.out; have := HW9.out.size; have := HWP.out.size; omega) 1 _).mono (by have := HVS.out; have := HW9.out.size; have := HWP.out.size; omega)
      · exact ((((HWP.out.trans (HW10.out.mono HWP.out.size)).setCell (show W.heap.size ≤ W.heap.size + 1 + 1 by omega) _).setCell (show W.heap.size ≤ W.heap.size + 1 + 1 by omega) _).setCell (show W.heap.size ≤ W.heap.size + 1 + 1 + 1 by omega) _).setCell (show W.heap.size ≤ W.heap.size + 1 + 1 + 1 by omega) _
theorem dvH_any {x y : Int} (hx : nt x.natAbs ≤ 400000) (hy : nt y.natAbs ≤ 400000) (hy0 : y ≠ 0) : DvH x y (fq x y) (fr x y) := by
  intro B B' W va vb ha hb
  have hp := (fq_divP (x := x) hy0).eq
  have hr : x + -(fq x y * y) = fr x y := by rw [Int.mul_comm]; omega
  have hd := fun (z : Int) => down_floor (x := z) (p := y.natAbs) (by omega)
  rw [← hr]
  by_cases hs : decide (x < 0) = decide (y < 0)
  · refine ref_Divided_same ha hb hx hy hy0 hs _ ?_
    unfold fq
    by_cases h : 0 < y
    · have hx0 : ¬ x < 0 := by
        intro hc
        rw [decide_eq_true hc, decide_eq_false (by omega)] at hs
        cases hs
      have h1 := hd x
      rw [if_neg hx0, show ((y.natAbs : Nat) : Int) = y by omega] at h1
      rw [if_pos h, h1]
    · have hx0 : x < 0 := by
        refine Classical.byContradiction fun hc => ?_
        rw [decide_eq_false hc, decide_eq_true (by omega)] at hs
        cases hs
      have h1 := hd (-x)
      rw [if_neg (by omega), show ((y.natAbs : Nat) : Int) = -y by omega, Int.natAbs_neg] at h1
      rw [if_neg h, h1]
  · refine ref_Divided_diff ha hb hx hy hy0 hs _ ?_
    unfold fq
    by_cases h : 0 < y
    · have hx0 : x < 0 := by
        refine Classical.byContradiction fun hc => hs ?_
        rw [decide_eq_false hc, decide_eq_false (by omega)]
      have h1 := hd x
      rw [if_pos hx0, show ((y.natAbs : Nat) : Int) = y by omega] at h1
      rw [if_pos h, h1]
    · have hx0 : ¬ x < 0 := by
        intro hc
        exact hs (by rw [decide_eq_true hc, decide_eq_true (by omega)])
      rw [if_neg h]
      by_cases hz : x = 0
      · subst hz
        simp
      · have h1 := hd (-x)
        rw [if_pos (by omega), show ((y.natAbs : Nat) : Int) = -y by omega, Int.natAbs_neg] at h1
        exact h1
end Go.Proofs.YtkpoegdcmnjedaaDoor
namespace Go.Proofs.YtkpoegdcmnjedaaDoor
open Go.RowKit
set_option linter.unusedVariables false
set_option linter.unusedSimpArgs false

/-! ### the reference's Mul, Gcd -/
theorem i64s_inj : ∀ (l m : List Nat), I64s l = I64s m → l = m
  | [], [], _ => rfl
  | [], _ :: _, h => by simp [I64s] at h
  | _ :: _, [], h => by simp [I64s] at h
  | a :: l, b :: m, h => by
    simp only [I64s, List.map_cons, List.cons.injEq, Value.int.injEq, true_and] at h
    rw [i64s_inj l m h.2]
    congr 1
    omega
theorem N.det {B B' : Nat} {W : World} {v : Value} {l m : List Nat} (h : N B W v l) (k : N B' W v m) : l = m := by
  obtain ⟨h0, h1⟩ := h
  obtain ⟨k0, k1⟩ := k
  apply i64s_inj
  rcases h1 with ⟨e, h2⟩ | ⟨g, cap, cur, e, h2, h3, h4, h5, h6, h7⟩
  · rcases k1 with ⟨e', k2⟩ | ⟨g', cap', cur', e', k2, k3, k4, k5, k6, k7⟩
    · have e1 : l = [] := List.length_eq_zero_iff.1 h2
      have e2 : m = [] := List.length_eq_zero_iff.1 k2
      rw [e1, e2]
    · rw [e] at e'; cases e'
  · rcases k1 with ⟨e', k2⟩ | ⟨g', cap', cur', e', k2, k3, k4, k5, k6, k7⟩
    · rw [e] at e'; cases e'
    · rw [e] at e'
      simp only [Value.slice.injEq, Option.some.injEq, Addr.mk.injEq] at e'
      obtain ⟨⟨rfl, _⟩, hl, rfl⟩ := e'
      rw [h3] at k3
      simp only [Option.some.injEq, Obj.cells.injEq] at k3
      obtain ⟨rfl, _⟩ := k3
      rw [← h7, ← k7, hl]
open Classical in
/-- the number whose decimal digits a row holds. -/
noncomputable def rowT (w : World) (v : Value) : Nat := if h : ∃ n, N 0 w v (digs 10 n) then h.choose else 0
theorem rowT_eq {w : World} {v : Value} {n : Nat} (h : N 0 w v (digs 10 n)) : rowT w v = n := by
  have hx : ∃ n, N 0 w v (digs 10 n) := ⟨n, h⟩
  unfold rowT
  rw [dif_pos hx]
  have := N.det hx.choose_spec h
  rw [← val_digs (b := 10) (by decide) hx.choose, this, val_digs (by decide)]
structure GrI (G : Nat) (V wr : World) (av bv : Value) (m n : Nat) : Prop where
  ma : N 0 wr av (digs 10 m)
  mb : N 0 wr bv (digs 10 n)
  g : Nat.gcd m n = G
  km : nt m ≤ 1000
  kn : nt n ≤ 1000
  bel : Below V.heap.size V wr
set_option maxRecDepth 100000 in
set_option maxHeartbeats 4000000 in
theorem ref_mul_any (a b : ByteArray) (W : World) (ha : a.size ≤ 400000) (hb : b.size ≤ 400000) : Calls Tryd.prog 24 #[.string a, .string b] W (TwoR (fun x y => x * y) a b W) := by
  go_enter Tryd.func24, Tryd.ntmps24
  go_wp2_with fail
  refine (ref_both_any a b _ (by omega) (by omega)).mono ?_
  rintro e w2 ⟨m1, ao1, n1, cap1, m2, ao2, n2, cap2, er, rfl, hd, hbd⟩
  have HB := Lib.hid hbd
  clear hbd
  rcases hd with ⟨h1, rfl⟩ | ⟨h1, rfl, h2, h3⟩
  · go_wp2
    exact bodyPost_ret (v := .tuple #[.string ⟨#[]⟩, .int .i64 2]) (by simp [results, Tryd.results24, go_sem]) rfl ⟨_, 2, rfl, Or.inl ⟨h1, rfl, rfl⟩, ((HB.out.alloc HB.out.size _).alloc (by have := HB.out.size; simp; omega) _)⟩
  · obtain ⟨x, hx1, hx2, hx3, hx4⟩ := h2.read h1.1 ha
    obtain ⟨y, hy1, hy2, hy3, hy4⟩ := h3.read h1.2 hb
    obtain ⟨V1, hV1, hbox1, vb1, vs1⟩ := box2_new w2 (.bool m1) (.slice ao1 n1 cap1)
    obtain ⟨V, hV, hbox, vb, vs⟩ := box2_new V1 (.bool m2) (.slice ao2 n2 cap2)
    rw [vs1] at hbox
    have hvb := vb1.trans (vb.mono (by omega))
    have HVB := Lib.hid hvb
    have F1 := Lib.hid (hbox1.after vb)
    have F2 := Lib.hid hbox
    have HX := Lib.hid (hx1.later hvb (Nat.le_refl _))
    have HY := Lib.hid (hy1.later hvb (Nat.le_refl _))
    have HNX := Lib.hid (And.intro hx2 hy2)
    have HVS : Hid (V.heap.size = w2.heap.size + 2) := Lib.hid (by omega)
    obtain ⟨sb, HSB⟩ : ∃ b, Hid ((!decide (Lim ≤ x.natAbs) && !decide (Lim ≤ y.natAbs)) = b) := ⟨_, Lib.hid rfl⟩
    have HSN : Hid (sb = true ↔ natT a < Lim ∧ natT b < Lim) := Lib.hid (by
      rw [← HSB.out, Bool.and_eq_true, Bool.not_eq_true', Bool.not_eq_true', decide_eq_false_iff_not, decide_eq_false_iff_not, hx3, hy3]; omega)
    have HVL : Hid (natT a < Lim ∧ natT b < Lim → x = valT a ∧ y = valT b) := Lib.hid fun h => ⟨hx4 h.1, hy4 h.2⟩
    have hsh := ref_short_two (HX.out.later ((Below.refl V.heap.size V).alloc (Nat.le_refl _) (Obj.cells #[.bool m1, .slice ao1 n1 cap1, .bool m2, .slice ao2 n2 cap2] 51)) (Nat.le_refl _)) (HY.out.later ((Below.refl V.heap.size V).alloc (Nat.le_refl _) (Obj.cells #[.bool m1, .slice ao1 n1 cap1, .bool m2, .slice ao2 n2 cap2] 51)) (Nat.le_refl _)) (Two4.new V m1 m2 (.slice ao1 n1 cap1) (.slice ao2 n2 cap2))
    rw [HSB.out] at hsh
    have HSH := Lib.hid hsh
    have HI := Lib.hid h1
    have hVV : V = (w2.alloc (Obj.cells #[.bool m1, .slice ao1 n1 cap1] 51)).alloc (Obj.cells #[.bool m2, .slice ao2 n2 cap2] 51) := by rw [hV, hV1]
    obtain ⟨c0, c1, -, -⟩ := F1.out
    obtain ⟨d0, d1, -, -⟩ := F2.out
    clear hbox hvb vb hV hV1 hbox1 vb1 vs vs1 hx1 hy1 hx2 hy2 hx3 hy3 hx4 hy4 h2 h3 h1 hsh
    go_upto_region 4 with (fail)
    rw [← hVV]
    clear hVV
    go_wp2_with fail
    refine HSH.out.mono ?_
    rintro e w3 ⟨rfl, hb3⟩
    have HW3 : Hid (Below V.heap.size V w3) := Lib.hid (((Below.refl _ _).alloc (Nat.le_refl _) _).trans (hb3.mono (by simp)))
    clear hb3
    obtain ⟨k0, k1, -, -⟩ := F1.out.after HW3.out
    obtain ⟨l0, l1, -, -⟩ := F2.out.after HW3.out
    have hz2 := HB.out.size
    have hvs := HVS.out
    have HWW : Hid (Below W.heap.size W w3) := Lib.hid ((HB.out.trans (HVB.out.mono hz2)).trans (HW3.out.mono (by omega)))
    clear c0 c1 d0 d1 hvs
    cases sb
    · have HL : Hid (Lim ≤ natT a ∨ Lim ≤ natT b) := Lib.hid (by
        have h := HSN.out
        by_cases h1 : natT a < Lim
        · by_cases h2 : natT b < Lim
          · have := h.2 ⟨h1, h2⟩; cases this
          · right; omega
        · left; omega)
      go_wp2
      exact bodyPost_ret (v := .tuple #[.string ⟨#[]⟩, .int .i64 4]) (by simp [results, Tryd.results24, go_sem]) rfl ⟨_, 4, rfl, Or.inr (Or.inl ⟨HI.out, HL.out, rfl, rfl⟩), HWW.out⟩
    · have HL := Lib.hid (HSN.out.1 rfl)
      have H74 := Lib.hid (ref_Times_any (HX.out.later HW3.out (Nat.le_refl _)) (HY.out.later HW3.out (Nat.le_refl _)) HNX.out.1 HNX.out.2)
      go_wp2_with (first | (go_at_call 74; (with_reducible refine H74.out.mono ?_); rintro e w4 ⟨⟨v4, rfl, hm4⟩, hb4⟩; have HM4 := Lib.hid hm4; have HB4 := Lib.hid hb4; clear hm4 hb4) | (go_at_call 61; (with_reducible refine (ref_told_nil HM4.out).mono ?_); rintro e w5 ⟨rfl, hb5⟩; have HB5 := Lib.hid hb5; clear hb5))
      refine bodyPost_ret (v := .tuple #[.string (toldS (x * y)), .int .i64 (toldE (x * y))]) (by simp [results, Tryd.results24, go_sem]) rfl ⟨_, _, rfl, Or.inr (Or.inr ⟨HI.out, HL.out.1, HL.out.2, ?_, ?_⟩), (HWW.out.trans (HB4.out.mono HWW.out.size)).trans (HB5.out.mono (Nat.le_trans HWW.out.size HB4.out.size))⟩
      · obtain ⟨e1, e2⟩ := HVL.out HL.out
        rw [← e1, ← e2]
      · obtain ⟨e1, e2⟩ := HVL.out HL.out
        rw [← e1, ← e2]
set_option maxRecDepth 100000 in
set_option maxHeartbeats 4000000 in
theorem ref_gcd_any (a b : ByteArray) (W : World) (ha : a.size ≤ 400000) (hb : b.size ≤ 400000) : Calls Tryd.prog 30 #[.string a, .string b] W (TwoR (fun x y => ((Nat.gcd x.natAbs y.natAbs : Nat) : Int)) a b W) := by
  go_enter Tryd.func30, Tryd.ntmps30
  go_wp2_with fail
  refine (ref_both_any a b _ (by omega) (by omega)).mono ?_
  rintro e w2 ⟨m1, ao1, n1, cap1, m2, ao2, n2, cap2, er, rfl, hd, hbd⟩
  have HB := Lib.hid hbd
  clear hbd
  rcases hd with ⟨h1, rfl⟩ | ⟨h1, rfl, h2, h3⟩
  · go_wp2
    exact bodyPost_ret (v := .tuple #[.string ⟨#[]⟩, .int .i64 2]) (by simp [results, Tryd.results30, go_sem]) rfl ⟨_, 2, rfl, Or.inl ⟨h1, rfl, rfl⟩, ((HB.out.alloc HB.out.size _).alloc (by have := HB.out.size; simp; omega) _)⟩
  · obtain ⟨x, hx1, hx2, hx3, hx4⟩ := h2.read h1.1 ha
    obtain ⟨y, hy1, hy2, hy3, hy4⟩ := h3.read h1.2 hb
    obtain ⟨V1, hV1, hbox1, vb1, vs1⟩ := box2_new w2 (.bool m1) (.slice ao1 n1 cap1)
    obtain ⟨V, hV, hbox, vb, vs⟩ := box2_new V1 (.bool m2) (.slice ao2 n2 cap2)
    rw [vs1] at hbox
    have hvb := vb1.trans (vb.mono (by omega))
    have HVB := Lib.hid hvb
    have F1 := Lib.hid (hbox1.after vb)
    have F2 := Lib.hid hbox
    have HX := Lib.hid (hx1.later hvb (Nat.le_refl _))
    have HY := Lib.hid (hy1.later hvb (Nat.le_refl _))
    have HNX := Lib.hid (And.intro hx2 hy2)
    have HVS : Hid (V.heap.size = w2.heap.size + 2) := Lib.hid (by omega)
    obtain ⟨sb, HSB⟩ : ∃ b, Hid ((!decide (Lim ≤ x.natAbs) && !decide (Lim ≤ y.natAbs)) = b) := ⟨_, Lib.hid rfl⟩
    have HSN : Hid (sb = true ↔ natT a < Lim ∧ natT b < Lim) := Lib.hid (by
      rw [← HSB.out, Bool.and_eq_true, Bool.not_eq_true', Bool.not_eq_true', decide_eq_false_iff_not, decide_eq_false_iff_not, hx3, hy3]; omega)
    have HMX : Hid (natT a < Lim ∧ natT b < Lim → max x.natAbs y.natAbs < Lim) := Lib.hid fun h => by
      have k1 := hx4 h.1
      have k2 := hy4 h.2
      have k3 := valT_abs a
      have k4 := valT_abs b
      rw [← k1] at k3
      rw [← k2] at k4
      omega
    have HVL : Hid (natT a < Lim ∧ natT b < Lim → x = valT a ∧ y = valT b) := Lib.hid fun h => ⟨hx4 h.1, hy4 h.2⟩
    have hsh := ref_short_two (HX.out.later ((Below.refl V.heap.size V).alloc (Nat.le_refl _) (Obj.cells #[.bool m1, .slice ao1 n1 cap1, .bool m2, .slice ao2 n2 cap2] 51)) (Nat.le_refl _)) (HY.out.later ((Below.refl V.heap.size V).alloc (Nat.le_refl _) (Obj.cells #[.bool m1, .slice ao1 n1 cap1, .bool m2, .slice ao2 n2 cap2] 51)) (Nat.le_refl _)) (Two4.new V m1 m2 (.slice ao1 n1 cap1) (.slice ao2 n2 cap2))
    rw [HSB.out] at hsh
    have HSH := Lib.hid hsh
    have HI := Lib.hid h1
    have hVV : V = (w2.alloc (Obj.cells #[.bool m1, .slice ao1 n1 cap1] 51)).alloc (Obj.cells #[.bool m2, .slice ao2 n2 cap2] 51) := by rw [hV, hV1]
    obtain ⟨c0, c1, -, -⟩ := F1.out
    obtain ⟨d0, d1, -, -⟩ := F2.out
    clear hbox hvb vb hV hV1 hbox1 vb1 vs vs1 hx1 hy1 hx2 hy2 hx3 hy3 hx4 hy4 h2 h3 h1 hsh
    go_upto_region 4 with (fail)
    rw [← hVV]
    clear hVV
    go_wp2_with fail
    refine HSH.out.mono ?_
    rintro e w3 ⟨rfl, hb3⟩
    have HW3 : Hid (Below V.heap.size V w3) := Lib.hid (((Below.refl _ _).alloc (Nat.le_refl _) _).trans (hb3.mono (by simp)))
    clear hb3
    obtain ⟨k0, k1, -, -⟩ := F1.out.after HW3.out
    obtain ⟨l0, l1, -, -⟩ := F2.out.after HW3.out
    have hz2 := HB.out.size
    have hvs := HVS.out
    have HWW : Hid (Below W.heap.size W w3) := Lib.hid ((HB.out.trans (HVB.out.mono hz2)).trans (HW3.out.mono (by omega)))
    clear c0 c1 d0 d1 hvs
    cases sb
    · have HL : Hid (Lim ≤ natT a ∨ Lim ≤ natT b) := Lib.hid (by
        have h := HSN.out
        by_cases h1 : natT a < Lim
        · by_cases h2 : natT b < Lim
          · have := h.2 ⟨h1, h2⟩; cases this
          · right; omega
        · left; omega)
      go_wp2
      exact bodyPost_ret (v := .tuple #[.string ⟨#[]⟩, .int .i64 4]) (by simp [results, Tryd.results30, go_sem]) rfl ⟨_, 4, rfl, Or.inr (Or.inl ⟨HI.out, HL.out, rfl, rfl⟩), HWW.out⟩
    · have HL := Lib.hid (HSN.out.1 rfl)
      have hnx : nt x.natAbs ≤ 1000 := by
        have h := HSB.out
        rw [Bool.and_eq_true, Bool.not_eq_true', Bool.not_eq_true', decide_eq_false_iff_not, decide_eq_false_iff_not] at h
        exact Nat.le_trans (nt_lim'.2 (by omega)) (by decide)
      have hny : nt y.natAbs ≤ 1000 := by
        have h := HSB.out
        rw [Bool.and_eq_true, Bool.not_eq_true', Bool.not_eq_true', decide_eq_false_iff_not, decide_eq_false_iff_not] at h
        exact Nat.le_trans (nt_lim'.2 (by omega)) (by decide)
      obtain ⟨G, HG⟩ : ∃ G, Hid (Nat.gcd x.natAbs y.natAbs = G) := ⟨_, Lib.hid rfl⟩
      have HNA := HX.out.later HW3.out (Nat.le_refl _)
      have HNB := HY.out.later HW3.out (Nat.le_refl _)
      obtain ⟨_, _, _, _, ea, hna, _⟩ := HNA.view
      obtain ⟨_, _, _, _, eb, hnb, _⟩ := HNB.view
      simp only [numR, Value.agg.injEq, Array.mk.injEq, List.cons.injEq, Value.slice.injEq, Value.bool.injEq] at ea eb
      obtain ⟨rfl, ⟨rfl, rfl, rfl⟩, -⟩ := ea
      obtain ⟨rfl, ⟨rfl, rfl, rfl⟩, -⟩ := eb
      have HI0 : Hid (GrI G w3 w3 (.slice ao1 n1 cap1) (.slice ao2 n2 cap2) x.natAbs y.natAbs) := Lib.hid ⟨hna.mono (Nat.zero_le _), hnb.mono (Nat.zero_le _), HG.out, hnx, hny, Below.refl _ _⟩
      clear hna hnb HNA HNB hnx hny HSH HSB HSN
      go_upto_region 6 with (fail)
      go_quiet (fail)
      go_wp2
      go_loopw [9, 10] (fun av bv wr => ∃ (m n : Nat), Hid (GrI G w3 wr av bv m n)) (fun _ bv w => rowT w bv)
      case atStart => exact ⟨x.natAbs, y.natAbs, Lib.hid ⟨HI0.out.ma, HI0.out.mb, HI0.out.g, HI0.out.km, HI0.out.kn, ⟨rfl, rfl, rfl, Nat.le_refl _, fun _ _ => rfl⟩⟩⟩
      case round =>
        obtain ⟨m, n, hi⟩ := hrel
        obtain ⟨am, pm, rfl, _, _⟩ := hi.out.ma.slice
        obtain ⟨an, pn, rfl, _, _⟩ := hi.out.mb.slice
        have hln : (digs 10 n).length = nt n := rfl
        have hlm : (digs 10 m).length = nt m := rfl
        rw [hln, hlm] at hi
        rw [hln, hlm]
        by_cases h0 : n = 0
        · have hn0 : nt n = 0 := by rw [h0]; exact nt_zero
          have hg : m = G := by have := hi.out.g; rw [h0, Nat.gcd_zero_right] at this; exact this
          have HB := Lib.hid hi.out.bel
          have HQG : Hid (Qn 0 wr (numR false (.slice am (nt m) pm)) ((G : Nat) : Int)) := Lib.hid ⟨am, nt m, pm, by rw [decide_eq_false (by omega : ¬ ((G : Nat) : Int) < 0)], by rw [Int.natAbs_natCast, ← hg]; exact hi.out.ma⟩
          have HGL : Hid (G < Lim) := Lib.hid (by rw [← HG.out]; exact Nat.lt_of_le_of_lt (by
            by_cases hx0 : x.natAbs = 0
            · rw [hx0, Nat.gcd_zero_left]; exact Nat.le_max_right _ _
            · exact Nat.le_trans (Nat.gcd_le_left _ (Nat.pos_of_ne_zero hx0)) (Nat.le_max_left _ _)) (HMX.out HL.out))
          have HNG : Hid (nt (((G : Nat) : Int)).natAbs ≤ 1000000) := Lib.hid (by rw [Int.natAbs_natCast]; exact Nat.le_trans (nt_lim'.2 HGL.out) (by decide))
          rw [hn0]
          clear hg hn0 h0
          go_wp2_with (first | (go_at_call 83; (with_reducible refine (ref_num_any _ _ _ _ _).mono ?_); rintro e w6 ⟨rfl, hb6⟩; have HB6 := Lib.hid hb6; clear hb6) | (go_at_call 79; (with_reducible refine (ref_Text_any (HQG.out.later HB6.out (Nat.le_refl _)) HNG.out).mono ?_); rintro e w7 ⟨rfl, hb7⟩; have HB7 := Lib.hid hb7; clear hb7))
          have HTS : Hid (toldS ((G : Nat) : Int) = ren ((G : Nat) : Int) ∧ toldE ((G : Nat) : Int) = 0) := Lib.hid (told_small (by rw [Int.natAbs_natCast]; exact HGL.out))
          refine bodyPost_ret (v := .tuple #[.string (ren ((G : Nat) : Int)), .int .i64 0]) (by simp [results, Tryd.results30, go_sem]) rfl ⟨_, _, rfl, Or.inr (Or.inr ⟨HI.out, HL.out.1, HL.out.2, ?_, ?_⟩), ((HWW.out.trans (HB.out.mono HWW.out.size)).trans (HB6.out.mono (Nat.le_trans HWW.out.size HB.out.size))).trans (HB7.out.mono (Nat.le_trans HWW.out.size (Nat.le_trans HB.out.size HB6.out.size)))⟩
          · obtain ⟨e1, e2⟩ := HVL.out HL.out
            rw [← HTS.out.1, ← HG.out, e1, e2]
          · obtain ⟨e1, e2⟩ := HVL.out HL.out
            have e3 := HTS.out.2
            rw [← HG.out, e1, e2] at e3
            exact e3.symm
        · have hn0 : 0 < nt n := Nat.pos_of_ne_zero fun e => h0 (nt_eq_zero e)
          have HOV := Lib.hid (ref_divided_any hi.out.ma hi.out.mb (by have := hi.out.km; omega) (by have := hi.out.kn; omega) (Nat.pos_of_ne_zero h0))
          go_wp2_with fail
          refine HOV.out.mono ?_
          rintro e w5 ⟨⟨vq, vr, rfl, hq, hr⟩, hb5⟩
          have HR := Lib.hid (hr.mono (Nat.zero_le _))
          have HB5 := Lib.hid hb5
          obtain ⟨ar, pr, rfl, _, _⟩ := hr.slice
          obtain ⟨aq, pq, rfl, _, _⟩ := hq.slice
          clear hq hr hb5
          go_wp2
          go_roundw
          case rel =>
            refine ⟨n, m % n, Lib.hid ⟨hi.out.mb.later HB5.out (Nat.le_refl _), HR.out, ?_, hi.out.kn, Nat.le_trans (nt_mono (Nat.mod_le _ _)) hi.out.km, hi.out.bel.trans (HB5.out.mono hi.out.bel.size)⟩⟩
            rw [Nat.gcd_comm, ← Nat.gcd_rec, Nat.gcd_comm]
            exact hi.out.g
          case measure =>
            rw [rowT_eq HR.out, rowT_eq hi.out.mb]
            exact Nat.mod_lt _ (Nat.pos_of_ne_zero h0)
end Go.Proofs.YtkpoegdcmnjedaaDoor
namespace Go.Proofs.YtkpoegdcmnjedaaDoor
open Go.RowKit
set_option linter.unusedVariables false
set_option linter.unusedSimpArgs false

/-! ### two variables of the reference's Pow -/
structure PoI (zo zi : Int) (w4 wr : World) (g h : Nat) (mo : Bool) (ao : Option Addr) (no po : Nat) (mi : Bool) (ai : Option Addr) (ni pi : Nat) : Prop where
  bo : Box2 g (.bool mo) (.slice ao no po) wr
  bi : Box2 h (.bool mi) (.slice ai ni pi) wr
  qo : Qn 0 wr (numR mo (.slice ao no po)) zo
  qi : Qn 0 wr (numR mi (.slice ai ni pi)) zi
  oo : ∀ j, (Value.slice ao no po).ownBlock = some j → j ≠ g ∧ j ≠ h
  oi : ∀ j, (Value.slice ai ni pi).ownBlock = some j → j ≠ g ∧ j ≠ h
  ne : g ≠ h
  gg : w4.heap.size ≤ g
  gh : w4.heap.size ≤ h
  bel : Below w4.heap.size w4 wr
section
variable {zo zi : Int} {w4 wr w' : World} {g h : Nat} {mo : Bool} {ao : Option Addr} {no po : Nat} {mi : Bool} {ai : Option Addr} {ni pi : Nat}
theorem PoI.lt (k : PoI zo zi w4 wr g h mo ao no po mi ai ni pi) : g < wr.heap.size ∧ h < wr.heap.size := ⟨World.block_lt_of_cell? wr ⟨g, 0, none⟩ k.bo.c0, World.block_lt_of_cell? wr ⟨h, 0, none⟩ k.bi.c0⟩
theorem PoI.later (k : PoI zo zi w4 wr g h mo ao no po mi ai ni pi) (hb : Below wr.heap.size wr w') : PoI zo zi w4 w' g h mo ao no po mi ai ni pi :=
  ⟨k.bo.after hb, k.bi.after hb, k.qo.later hb (Nat.le_refl _), k.qi.later hb (Nat.le_refl _), k.oo, k.oi, k.ne, k.gg, k.gh, k.bel.trans (hb.mono k.bel.size)⟩
theorem PoI.setO (k : PoI zo zi w4 wr g h mo ao no po mi ai ni pi) (hb : Below wr.heap.size wr w') {m' : Bool} {a' : Option Addr} {n' p' : Nat} {z' : Int} (hq : Qn wr.heap.size w' (numR m' (.slice a' n' p')) z') :
    PoI z' zi w4 ((w'.setCell ⟨g, 0, none⟩ (.bool m')).setCell ⟨g, 1, none⟩ (.slice a' n' p')) g h m' a' n' p' mi ai ni pi := by
  obtain ⟨hg, hh⟩ := k.lt
  have ho := hq.own
  exact ⟨(k.bo.after hb).two _ _, ((k.bi.after hb).far (Ne.symm k.ne)).far (Ne.symm k.ne), ((hq.set hg _ _).set hg _ _).mono (Nat.zero_le _),
    ((k.qi.later hb (Nat.le_refl _)).setFar (fun j e => (k.oi j e).1) _ _).setFar (fun j e => (k.oi j e).1) _ _,
    fun j e => by have := (ho j e).1; omega, k.oi, k.ne, k.gg, k.gh, ((k.bel.trans (hb.mono k.bel.size)).setCell k.gg _).setCell k.gg _⟩
theorem PoI.setI (k : PoI zo zi w4 wr g h mo ao no po mi ai ni pi) (hb : Below wr.heap.size wr w') {m' : Bool} {a' : Option Addr} {n' p' : Nat} {z' : Int} (hq : Qn wr.heap.size w' (numR m' (.slice a' n' p')) z') :
    PoI zo z' w4 ((w'.setCell ⟨h, 0, none⟩ (.bool m')).setCell ⟨h, 1, none⟩ (.slice a' n' p')) g h mo ao no po m' a' n' p' := by
  obtain ⟨hg, hh⟩ := k.lt
  have ho := hq.own
  exact ⟨((k.bo.after hb).far k.ne).far k.ne, (k.bi.after hb).two _ _, ((k.qo.later hb (Nat.le_refl _)).setFar (fun j e => (k.oo j e).2) _ _).setFar (fun j e => (k.oo j e).2) _ _,
    ((hq.set hh _ _).set hh _ _).mono (Nat.zero_le _), k.oo, fun j e => by have := (ho j e).1; omega, k.ne, k.gg, k.gh, ((k.bel.trans (hb.mono k.bel.size)).setCell k.gh _).setCell k.gh _⟩
theorem PoI.newI (k : PoI zo zi w4 wr g h mo ao no po mi ai ni pi) : PoI zo zi w4 (wr.alloc (Obj.cells #[.bool mi, .slice ai ni pi] 51)) g wr.heap.size mo ao no po mi ai ni pi := by
  obtain ⟨hg, hh⟩ := k.lt
  have k2 := k.later ((Below.refl wr.heap.size wr).alloc (Nat.le_refl _) (Obj.cells #[.bool mi, .slice ai ni pi] 51))
  have h1 := k.qo.own
  have h2 := k.qi.own
  exact ⟨k2.bo, box2_at wr _ _, k2.qo, k2.qi, fun j e => ⟨(k.oo j e).1, by have := (h1 j e).2; omega⟩, fun j e => ⟨(k.oi j e).1, by have := (h2 j e).2; omega⟩, by omega, k.gg, k.bel.size, k2.bel⟩
end
/-- the two variables new. -/
theorem PoI.start {w4 w6 w7 : World} {m' : Bool} {a' : Option Addr} {n' p' : Nat} {z' : Int} {m2 : Bool} {a2 : Option Addr} {n2 p2 : Nat} {z2 : Int} (hb : Below w4.heap.size w4 w6) (hq : Qn 0 w6 (numR m' (.slice a' n' p')) z')
    (hb2 : Below (w6.heap.size + 1) (w6.alloc (Obj.cells #[.bool m', .slice a' n' p'] 51)) w7) (hq2 : Qn (w6.heap.size + 1) w7 (numR m2 (.slice a2 n2 p2)) z2) :
    PoI z' z2 w4 (w7.alloc (Obj.cells #[.bool m2, .slice a2 n2 p2] 51)) w6.heap.size w7.heap.size m' a' n' p' m2 a2 n2 p2 := by
  have hz := hb2.size
  rw [World.size_alloc] at hz
  have hbb : Below (w6.alloc (Obj.cells #[.bool m', .slice a' n' p'] 51)).heap.size (w6.alloc (Obj.cells #[.bool m', .slice a' n' p'] 51)) w7 := by rw [World.size_alloc]; exact hb2
  have hbo := ((box2_at w6 (.bool m') (.slice a' n' p')).after hbb).later (Obj.cells #[.bool m2, .slice a2 n2 p2] 51)
  have hq1 := (hq.later ((Below.refl _ _).alloc (Nat.le_refl _) (Obj.cells #[.bool m', .slice a' n' p'] 51)) (Nat.le_refl _)).later hbb (Nat.le_refl _)
  have ho := hq.own
  have ho2 := hq2.own
  have hal : Below w7.heap.size w7 (w7.alloc (Obj.cells #[.bool m2, .slice a2 n2 p2] 51)) := (Below.refl _ _).alloc (Nat.le_refl _) _
  have hs := hb.size
  exact ⟨hbo, box2_at w7 _ _, hq1.later hal (Nat.le_refl _), (hq2.later hal (Nat.le_refl _)).mono (Nat.zero_le _), fun j e => by have := (ho j e).2; omega, fun j e => by have := ho2 j e; omega, by omega, hs, by omega,
    ((hb.alloc hs _).trans (hb2.mono (by omega))).trans (hal.mono (by omega))⟩
/-- a loop's measure: the number in a variable. -/
noncomputable def meaP (w : World) (v : Value) : Nat := match v with
  | .pointer (some a) => rowT w ((w.cell? ⟨a.block, 1, none⟩).getD undef)
  | _ => 0
theorem PoI.mea {zo : Int} {k : Nat} {w4 wr : World} {g h : Nat} {mo : Bool} {ao : Option Addr} {no po : Nat} {mi : Bool} {ai : Option Addr} {ni pi : Nat} (q : PoI zo ((k : Nat) : Int) w4 wr g h mo ao no po mi ai ni pi) : meaP wr (.pointer (some ⟨h, 0, none⟩)) = k := by
  unfold meaP
  show rowT wr ((wr.cell? ⟨h, 1, none⟩).getD undef) = k
  rw [q.bi.c1]
  obtain ⟨m, a, n, p, e, hn, _⟩ := q.qi.view
  simp only [numR, Value.agg.injEq, Array.mk.injEq, List.cons.injEq, Value.slice.injEq, Value.bool.injEq] at e
  obtain ⟨_, ⟨rfl, rfl, rfl⟩, -⟩ := e
  exact rowT_eq hn
end Go.Proofs.YtkpoegdcmnjedaaDoor
namespace Go.Proofs.YtkpoegdcmnjedaaDoor
open Go.RowKit
set_option linter.unusedVariables false
set_option linter.unusedSimpArgs false

/-! ### the reference's Pow -/
theorem N.one (w : World) (d : Nat) : N w.heap.size (w.alloc (Obj.cells #[.int .i64 (d : Int)] 3)) (.slice (some ⟨w.heap.size, 0, none⟩) 1 1) [d] :=
  ⟨by simp [I64s], Or.inr ⟨w.heap.size, 1, _, rfl, Nat.le_refl _, heap_alloc_new w _, by simp, by simp [maxLen], by simp, by simp [I64s]⟩⟩
theorem N.one1 (w : World) : N w.heap.size (w.alloc (Obj.cells #[.int .i64 1] 3)) (.slice (some ⟨w.heap.size, 0, none⟩) 1 1) [1] := N.one w 1
theorem digs10_one : digs 10 1 = [1] := by
  rw [digs_pos (by decide) (by decide)]
  show 1 :: digs 10 0 = [1]
  rw [digs_zero]
theorem cmpI_zero {a b : Nat} : cmpI a b = 0 ↔ a = b := by unfold cmpI; (repeat' split) <;> omega
set_option maxRecDepth 100000 in
set_option maxHeartbeats 8000000 in
theorem ref_pow_any (a b : ByteArray) (W : World) (ha : a.size ≤ 400000) (hb : b.size ≤ 400000) (la : IsNum a → natT a < Lim) (lb : IsNum b → natT b < Lim) :
    Calls Tryd.prog 28 #[.string a, .string b] W (PwQ a b W) := by
  go_enter Tryd.func28, Tryd.ntmps28
  go_wp2_with fail
  refine (ref_both_any a b _ (by omega) (by omega)).mono ?_
  rintro e w2 ⟨m1, ao1, n1, cap1, m2, ao2, n2, cap2, er, rfl, hd, hbd⟩
  have HB := Lib.hid hbd
  clear hbd
  rcases hd with ⟨h1, rfl⟩ | ⟨h1, rfl, h2, h3⟩
  · clear la lb
    go_wp2
    exact bodyPost_ret (v := .tuple #[.string ⟨#[]⟩, .int .i64 2]) (by simp [results, Tryd.results28, go_sem]) rfl ⟨_, 2, rfl, Or.inl ⟨h1, rfl, rfl⟩, ((HB.out.alloc HB.out.size _).alloc (by have := HB.out.size; simp; omega) _)⟩
  obtain ⟨x, hx1, hx2, hx3, hx4⟩ := h2.read h1.1 ha
  obtain ⟨y, hy1, hy2, hy3, hy4⟩ := h3.read h1.2 hb
  have ex := hx4 (la h1.1)
  have ey := hy4 (lb h1.2)
  have hxl : x.natAbs < Lim := by rw [ex, valT_abs]; exact la h1.1
  have hyl : y.natAbs < Lim := by rw [ey, valT_abs]; exact lb h1.2
  have HQ : Hid (∀ (r : ByteArray) (er : Int) (W' : World), (((y < 0 ∧ x.natAbs ≠ 1) ∧ r = ⟨#[]⟩ ∧ er = 7) ∨ (¬ (y < 0 ∧ x.natAbs ≠ 1) ∧ r = toldS (x ^ y.natAbs) ∧ er = toldE (x ^ y.natAbs))) → Below W.heap.size W W' → PwQ a b W (.returned (.tuple #[.string r, .int .i64 er])) W') := Lib.hid (by
    intro r er W' h hw
    have hya : y.natAbs = natT b := by rw [ey, valT_abs]
    have hxa : x.natAbs = natT a := by rw [ex, valT_abs]
    rw [hya, hxa, ex, ey] at h
    refine ⟨r, er, rfl, ?_, hw⟩
    rcases h with h | h
    · exact Or.inr (Or.inl ⟨h1, h⟩)
    · exact Or.inr (Or.inr ⟨h1, h⟩))
  clear ex ey la lb hx4 hy4 hx3 hy3 h2 h3
  obtain ⟨_, _, _, _, ea, hna, hsa⟩ := hx1.view
  obtain ⟨_, _, _, _, eb, hnb, hsb⟩ := hy1.view
  simp only [numR, Value.agg.injEq, Array.mk.injEq, List.cons.injEq, Value.slice.injEq, Value.bool.injEq] at ea eb
  obtain ⟨rfl, ⟨rfl, rfl, rfl⟩, -⟩ := ea
  obtain ⟨rfl, ⟨rfl, rfl, rfl⟩, -⟩ := eb
  obtain ⟨V1, hV1, hbox1, vb1, vs1⟩ := box2_new w2 (.bool m1) (.slice ao1 n1 cap1)
  obtain ⟨V, hV, hbox, vb, vs⟩ := box2_new V1 (.bool m2) (.slice ao2 n2 cap2)
  rw [vs1] at hbox
  have hvb := vb1.trans (vb.mono (by omega))
  have HVB := Lib.hid hvb
  have F1 := Lib.hid (hbox1.after vb)
  have F2 := Lib.hid hbox
  have HX := Lib.hid (hx1.later hvb (Nat.le_refl _))
  have HY := Lib.hid (hy1.later hvb (Nat.le_refl _))
  have HNX := Lib.hid (hna.later hvb (Nat.le_refl _))
  have HNY := Lib.hid (hnb.later hvb (Nat.le_refl _))
  have HSX := Lib.hid hsa.out
  have HSY := Lib.hid hsb.out
  have HLX : Hid (x.natAbs < Lim ∧ y.natAbs < Lim) := Lib.hid ⟨hxl, hyl⟩
  have HTX : Hid (nt x.natAbs ≤ 600 ∧ nt y.natAbs ≤ 600) := Lib.hid ⟨nt_lim'.2 hxl, nt_lim'.2 hyl⟩
  have hl1 : n1 = nt x.natAbs := hna.len
  have hl2 : n2 = nt y.natAbs := hnb.len
  have HL := Lib.hid (And.intro hl1 hl2)
  have hVV : V = (w2.alloc (Obj.cells #[.bool m1, .slice ao1 n1 cap1] 51)).alloc (Obj.cells #[.bool m2, .slice ao2 n2 cap2] 51) := by rw [hV, hV1]
  obtain ⟨c0, c1, -, -⟩ := F1.out
  obtain ⟨d0, d1, -, -⟩ := F2.out
  have HWV : Hid (Below W.heap.size W V) := Lib.hid (HB.out.trans (HVB.out.mono HB.out.size))
  obtain ⟨u, HU⟩ : ∃ u, Hid (decide (x.natAbs = 1) = u) := ⟨_, Lib.hid rfl⟩
  have H82 := ref_order_any (HNX.out.later ((Below.refl _ _).alloc (Nat.le_refl _) (Obj.cells #[.int .i64 1] 3)) (Nat.le_refl _)) (N.one1 V) (digs_dig (by decide) _) (Dig.mem (by decide) (by decide)) (show nt x.natAbs ≤ _ by have := HTX.out.1; omega) (by decide)
  rw [val_digs (by decide), show val 10 [1] = 1 from rfl] at H82
  obtain ⟨cu, hcu⟩ : ∃ c, cmpI x.natAbs 1 = c := ⟨_, rfl⟩
  rw [hcu] at H82
  have HO := Lib.hid H82
  have hcz : (cu == 0) = u := by
    rw [← hcu, ← HU.out]
    by_cases h : x.natAbs = 1
    · rw [cmpI_zero.2 h, decide_eq_true h]; rfl
    · rw [decide_eq_false h, beq_eq_false_iff_ne]; exact fun e => h (cmpI_zero.1 e)
  have HSH := Lib.hid fun (w' : World) (hw : Below V.heap.size V w') => ref_short_two ((HX.out.later hw (Nat.le_refl _)).later ((Below.refl w'.heap.size w').alloc (Nat.le_refl _) (Obj.cells #[.bool m1, .slice ao1 n1 cap1, .bool m2, .slice ao2 n2 cap2] 51)) (Nat.le_refl _)) ((HY.out.later hw (Nat.le_refl _)).later ((Below.refl w'.heap.size w').alloc (Nat.le_refl _) (Obj.cells #[.bool m1, .slice ao1 n1 cap1, .bool m2, .slice ao2 n2 cap2] 51)) (Nat.le_refl _)) (Two4.new w' m1 m2 (.slice ao1 n1 cap1) (.slice ao2 n2 cap2))
  have hsb : (!decide (Lim ≤ x.natAbs) && !decide (Lim ≤ y.natAbs)) = true := by rw [decide_eq_false (by omega), decide_eq_false (by omega)]; rfl
  rw [hsb] at HSH
  clear hx1 hy1 hx2 hy2 hna hnb hsa hsb hbox hvb vb hV hV1 hbox1 vb1 vs vs1 H82 hcu hxl hyl hl1 hl2 h1
  go_upto_region 4 with (fail)
  rw [← hVV]
  clear hVV
  go_upto_region 5 with (go_at_call 82; (with_reducible refine HO.out.mono ?_); rintro e w3 ⟨rfl, rfl⟩)
  have HW3 : Hid (Below V.heap.size V (V.alloc (Obj.cells #[.int .i64 1] 3))) := Lib.hid ((Below.refl _ _).alloc (Nat.le_refl _) _)
  generalize V.alloc (Obj.cells #[.int .i64 1] 3) = w3 at HW3 ⊢
  have HWW : Hid (Below W.heap.size W w3) := Lib.hid (HWV.out.trans (HW3.out.mono HWV.out.size))
  have K1 := Lib.hid (F1.out.after HW3.out)
  have K2 := Lib.hid (F2.out.after HW3.out)
  have HSH3 := Lib.hid (HSH.out w3 HW3.out)
  clear HSH HO c0 c1 d0 d1
  obtain ⟨k0, k1, -, -⟩ := K1.out
  obtain ⟨l0, l1, -, -⟩ := K2.out
  by_cases hyu : y < 0 ∧ x.natAbs ≠ 1
  · obtain rfl : m2 = true := by rw [HSY.out]; exact decide_eq_true hyu.1
    obtain rfl : u = false := by rw [← HU.out]; exact decide_eq_false hyu.2
    have HYU := Lib.hid hyu
    clear hyu
    go_wp2
    exact bodyPost_ret (v := .tuple #[.string ⟨#[]⟩, .int .i64 7]) (by simp [results, Tryd.results28, go_sem]) rfl (HQ.out _ _ _ (Or.inl ⟨HYU.out, rfl, rfl⟩) HWW.out)
  have HYU := Lib.hid hyu
  have hmu : m2 = false ∨ u = true := by
    by_cases h : y < 0
    · right; rw [← HU.out]; exact decide_eq_true (Classical.byContradiction fun c => hyu ⟨h, c⟩)
    · left; rw [HSY.out]; exact decide_eq_false h
  clear hyu
  obtain ⟨o, HO2⟩ : ∃ o, Hid (decide (y.natAbs % 2 = 1) = o) := ⟨_, Lib.hid rfl⟩
  cases u
  case true =>
    clear hmu
    have hx1 : x.natAbs = 1 := of_decide_eq_true HU.out
    have HPU := Lib.hid (pow_unit hx1 y.natAbs)
    obtain ⟨z, HZ⟩ : ∃ z, Hid (x ^ y.natAbs = z) := ⟨_, Lib.hid rfl⟩
    have HZZ : Hid (z.natAbs = 1 ∧ (m1 && o) = decide (z < 0)) := Lib.hid (by
      have h := HPU.out
      rw [HZ.out] at h
      rw [h, HSX.out, ← HO2.out]
      by_cases hc : x < 0 ∧ y.natAbs % 2 = 1
      · rw [if_pos hc, decide_eq_true hc.1, decide_eq_true hc.2]; exact ⟨rfl, rfl⟩
      · rw [if_neg hc]
        refine ⟨rfl, ?_⟩
        rw [show decide ((1 : Int) < 0) = false from rfl]
        by_cases h0 : x < 0
        · rw [decide_eq_false (fun c => hc ⟨h0, c⟩)]; exact Bool.and_false _
        · rw [decide_eq_false h0]; rfl)
    have HTZ : Hid (ren z = toldS (x ^ y.natAbs) ∧ (0 : Int) = toldE (x ^ y.natAbs)) := Lib.hid (by
      rw [HZ.out]
      have h := told_small (x := z) (by rw [HZZ.out.1]; unfold Lim; decide +kernel)
      exact ⟨h.1.symm, h.2.symm⟩)
    have HNZ : Hid (∀ (w' : World) (s : Bool), s = (m1 && o) → Qn w'.heap.size (w'.alloc (Obj.cells #[.int .i64 1] 3)) (numR s (.slice (some ⟨w'.heap.size, 0, none⟩) 1 1)) z) := Lib.hid fun w' s hs => ⟨some ⟨w'.heap.size, 0, none⟩, 1, 1, by rw [hs, HZZ.out.2], by rw [HZZ.out.1, digs10_one]; exact N.one1 w'⟩
    have HNTZ : Hid (nt z.natAbs ≤ 1000000) := Lib.hid (by rw [HZZ.out.1]; show (digs 10 1).length ≤ _; rw [digs10_one]; decide)
    clear hx1
    cases m2
    · go_upto_region 9 with (go_at_call 71; (with_reducible refine HSH3.out.mono ?_); rintro e w4 ⟨rfl, hb4⟩; have HW4 : Hid (Below w3.heap.size w3 w4) := Lib.hid (((Below.refl _ _).alloc (Nat.le_refl _) _).trans (hb4.mono (by simp))); have HB4 := Lib.hid (HW3.out.trans (HW4.out.mono HW3.out.size)); have G1 := Lib.hid (F1.out.after HB4.out); have G2 := Lib.hid (F2.out.after HB4.out); obtain ⟨g0, g1, -, -⟩ := G1.out; obtain ⟨j0, j1, -, -⟩ := G2.out; clear hb4)
      go_cut [10] from 39 to 50 (fun q10 wx => q10 = .bool o ∧ w4 = wx)
      case first =>
        by_cases hn : n2 = 0
        · have ho : Hid (false = o) := Lib.hid (by
            rw [← HO2.out, nt_eq_zero (show nt y.natAbs = 0 by have := HL.out.2; omega)]; rfl)
          subst hn
          go_wp2
          go_meet
          exact ⟨congrArg Value.bool ho.out, rfl⟩
        · have hnp : 0 < n2 := Nat.pos_of_ne_zero hn
          obtain ⟨gy, rfl, _, _⟩ := HNY.out.block hnp
          have hy0 : 0 < y.natAbs := Nat.pos_of_ne_zero fun e => by
            have h := HL.out.2
            rw [e, nt_zero] at h; omega
          have hcy := (HNY.out.later HB4.out (Nat.le_refl _)).cell (i := 0) (by show 0 < nt y.natAbs; have := HL.out.2; omega)
          have hdg : dg (digs 10 y.natAbs) 0 = y.natAbs % 10 := by rw [digs_pos (by decide) hy0]; rfl
          rw [hdg] at hcy
          obtain ⟨dy, HDY⟩ : ∃ d : Nat, Hid (y.natAbs % 10 = d) := ⟨_, Lib.hid rfl⟩
          rw [HDY.out] at hcy
          have ho : Hid (decide (dy % 2 = 1) = o) := Lib.hid (by
            rw [← HO2.out]
            refine decide_eq_decide.2 ?_
            have := HDY.out
            omega)
          clear hn hy0 hdg
          by_cases hd2 : dy % 2 = 1
          · have h1 : ((dy : Int) % 2 == 1) = true := by rw [beq_iff_eq]; omega
            have ho2 : Hid (true = o) := Lib.hid (by rw [← ho.out, decide_eq_true hd2])
            clear hd2
            go_wp2
            go_meet
            exact ⟨congrArg Value.bool ho2.out, rfl⟩
          · have h1 : ((dy : Int) % 2 == 1) = false := by rw [beq_eq_false_iff_ne]; omega
            have ho2 : Hid (false = o) := Lib.hid (by rw [← ho.out, decide_eq_false hd2])
            clear hd2
            go_wp2
            go_meet
            exact ⟨congrArg Value.bool ho2.out, rfl⟩
      case rest =>
        obtain ⟨rfl, rfl⟩ := hcut
        have HWX : Hid (Below W.heap.size W w4) := Lib.hid (HWV.out.trans (HB4.out.mono HWV.out.size))
        cases m1
        · go_wp2_with (first | (go_at_call 83; (with_reducible refine (ref_num_any _ _ _ _ _).mono ?_); rintro e w6 ⟨rfl, hb6⟩; have HB6 := Lib.hid hb6; clear hb6) | (go_at_call 79; (with_reducible refine (ref_Text_any ((HNZ.out w4 _ (by simp)).later HB6.out (Nat.le_refl _)) HNTZ.out).mono ?_); rintro e w7 ⟨rfl, hb7⟩; have HB7 := Lib.hid hb7; clear hb7))
          all_goals exact bodyPost_ret (v := .tuple #[.string (ren z), .int .i64 0]) (by simp [results, Tryd.results28, go_sem]) rfl (HQ.out _ _ _ (Or.inr ⟨HYU.out, HTZ.out.1, HTZ.out.2⟩) ((HWX.out.trans (((Below.refl _ _).alloc (Nat.le_refl _) _).trans (HB6.out.mono (by simp)) |>.mono HWX.out.size)).trans (HB7.out.mono (Nat.le_trans HWX.out.size (Nat.le_trans (by simp) HB6.out.size)))))
        · go_wp2_with (first | (go_at_call 83; (with_reducible refine (ref_num_any _ _ _ _ _).mono ?_); rintro e w6 ⟨rfl, hb6⟩; have HB6 := Lib.hid hb6; clear hb6) | (go_at_call 79; (with_reducible refine (ref_Text_any ((HNZ.out w4 _ (by simp)).later HB6.out (Nat.le_refl _)) HNTZ.out).mono ?_); rintro e w7 ⟨rfl, hb7⟩; have HB7 := Lib.hid hb7; clear hb7))
          all_goals exact bodyPost_ret (v := .tuple #[.string (ren z), .int .i64 0]) (by simp [results, Tryd.results28, go_sem]) rfl (HQ.out _ _ _ (Or.inr ⟨HYU.out, HTZ.out.1, HTZ.out.2⟩) ((HWX.out.trans (((Below.refl _ _).alloc (Nat.le_refl _) _).trans (HB6.out.mono (by simp)) |>.mono HWX.out.size)).trans (HB7.out.mono (Nat.le_trans HWX.out.size (Nat.le_trans (by simp) HB6.out.size)))))
    · go_upto_region 9 with (go_at_call 71; (with_reducible refine HSH3.out.mono ?_); rintro e w4 ⟨rfl, hb4⟩; have HW4 : Hid (Below w3.heap.size w3 w4) := Lib.hid (((Below.refl _ _).alloc (Nat.le_refl _) _).trans (hb4.mono (by simp))); have HB4 := Lib.hid (HW3.out.trans (HW4.out.mono HW3.out.size)); have G1 := Lib.hid (F1.out.after HB4.out); have G2 := Lib.hid (F2.out.after HB4.out); obtain ⟨g0, g1, -, -⟩ := G1.out; obtain ⟨j0, j1, -, -⟩ := G2.out; clear hb4)
      go_cut [10] from 39 to 50 (fun q10 wx => q10 = .bool o ∧ w4 = wx)
      case first =>
        by_cases hn : n2 = 0
        · have ho : Hid (false = o) := Lib.hid (by
            rw [← HO2.out, nt_eq_zero (show nt y.natAbs = 0 by have := HL.out.2; omega)]; rfl)
          subst hn
          go_wp2
          go_meet
          exact ⟨congrArg Value.bool ho.out, rfl⟩
        · have hnp : 0 < n2 := Nat.pos_of_ne_zero hn
          obtain ⟨gy, rfl, _, _⟩ := HNY.out.block hnp
          have hy0 : 0 < y.natAbs := Nat.pos_of_ne_zero fun e => by
            have h := HL.out.2
            rw [e, nt_zero] at h; omega
          have hcy := (HNY.out.later HB4.out (Nat.le_refl _)).cell (i := 0) (by show 0 < nt y.natAbs; have := HL.out.2; omega)
          have hdg : dg (digs 10 y.natAbs) 0 = y.natAbs % 10 := by rw [digs_pos (by decide) hy0]; rfl
          rw [hdg] at hcy
          obtain ⟨dy, HDY⟩ : ∃ d : Nat, Hid (y.natAbs % 10 = d) := ⟨_, Lib.hid rfl⟩
          rw [HDY.out] at hcy
          have ho : Hid (decide (dy % 2 = 1) = o) := Lib.hid (by
            rw [← HO2.out]
            refine decide_eq_decide.2 ?_
            have := HDY.out
            omega)
          clear hn hy0 hdg
          by_cases hd2 : dy % 2 = 1
          · have h1 : ((dy : Int) % 2 == 1) = true := by rw [beq_iff_eq]; omega
            have ho2 : Hid (true = o) := Lib.hid (by rw [← ho.out, decide_eq_true hd2])
            clear hd2
            go_wp2
            go_meet
            exact ⟨congrArg Value.bool ho2.out, rfl⟩
          · have h1 : ((dy : Int) % 2 == 1) = false := by rw [beq_eq_false_iff_ne]; omega
            have ho2 : Hid (false = o) := Lib.hid (by rw [← ho.out, decide_eq_false hd2])
            clear hd2
            go_wp2
            go_meet
            exact ⟨congrArg Value.bool ho2.out, rfl⟩
      case rest =>
        obtain ⟨rfl, rfl⟩ := hcut
        have HWX : Hid (Below W.heap.size W w4) := Lib.hid (HWV.out.trans (HB4.out.mono HWV.out.size))
        cases m1
        · go_wp2_with (first | (go_at_call 83; (with_reducible refine (ref_num_any _ _ _ _ _).mono ?_); rintro e w6 ⟨rfl, hb6⟩; have HB6 := Lib.hid hb6; clear hb6) | (go_at_call 79; (with_reducible refine (ref_Text_any ((HNZ.out w4 _ (by simp)).later HB6.out (Nat.le_refl _)) HNTZ.out).mono ?_); rintro e w7 ⟨rfl, hb7⟩; have HB7 := Lib.hid hb7; clear hb7))
          all_goals exact bodyPost_ret (v := .tuple #[.string (ren z), .int .i64 0]) (by simp [results, Tryd.results28, go_sem]) rfl (HQ.out _ _ _ (Or.inr ⟨HYU.out, HTZ.out.1, HTZ.out.2⟩) ((HWX.out.trans (((Below.refl _ _).alloc (Nat.le_refl _) _).trans (HB6.out.mono (by simp)) |>.mono HWX.out.size)).trans (HB7.out.mono (Nat.le_trans HWX.out.size (Nat.le_trans (by simp) HB6.out.size)))))
        · go_wp2_with (first | (go_at_call 83; (with_reducible refine (ref_num_any _ _ _ _ _).mono ?_); rintro e w6 ⟨rfl, hb6⟩; have HB6 := Lib.hid hb6; clear hb6) | (go_at_call 79; (with_reducible refine (ref_Text_any ((HNZ.out w4 _ (by simp)).later HB6.out (Nat.le_refl _)) HNTZ.out).mono ?_); rintro e w7 ⟨rfl, hb7⟩; have HB7 := Lib.hid hb7; clear hb7))
          all_goals exact bodyPost_ret (v := .tuple #[.string (ren z), .int .i64 0]) (by simp [results, Tryd.results28, go_sem]) rfl (HQ.out _ _ _ (Or.inr ⟨HYU.out, HTZ.out.1, HTZ.out.2⟩) ((HWX.out.trans (((Below.refl _ _).alloc (Nat.le_refl _) _).trans (HB6.out.mono (by simp)) |>.mono HWX.out.size)).trans (HB7.out.mono (Nat.le_trans HWX.out.size (Nat.le_trans (by simp) HB6.out.size)))))
  case false =>
    obtain rfl : m2 = false := by rcases hmu with h | h; exact h; cases h
    go_upto_region 9 with (go_at_call 71; (with_reducible refine HSH3.out.mono ?_); rintro e w4 ⟨rfl, hb4⟩; have HW4 : Hid (Below w3.heap.size w3 w4) := Lib.hid (((Below.refl _ _).alloc (Nat.le_refl _) _).trans (hb4.mono (by simp))); have HB4 := Lib.hid (HW3.out.trans (HW4.out.mono HW3.out.size)); have G1 := Lib.hid (F1.out.after HB4.out); have G2 := Lib.hid (F2.out.after HB4.out); obtain ⟨g0, g1, -, -⟩ := G1.out; obtain ⟨j0, j1, -, -⟩ := G2.out; clear hb4)
    go_cut [10] from 39 to 50 (fun q10 wx => q10 = .bool o ∧ w4 = wx)
    case first =>
      by_cases hn : n2 = 0
      · have ho : Hid (false = o) := Lib.hid (by
          rw [← HO2.out, nt_eq_zero (show nt y.natAbs = 0 by have := HL.out.2; omega)]; rfl)
        subst hn
        go_wp2
        go_meet
        exact ⟨congrArg Value.bool ho.out, rfl⟩
      · have hnp : 0 < n2 := Nat.pos_of_ne_zero hn
        obtain ⟨gy, rfl, _, _⟩ := HNY.out.block hnp
        have hy0 : 0 < y.natAbs := Nat.pos_of_ne_zero fun e => by
          have h := HL.out.2
          rw [e, nt_zero] at h; omega
        have hcy := (HNY.out.later HB4.out (Nat.le_refl _)).cell (i := 0) (by show 0 < nt y.natAbs; have := HL.out.2; omega)
        have hdg : dg (digs 10 y.natAbs) 0 = y.natAbs % 10 := by rw [digs_pos (by decide) hy0]; rfl
        rw [hdg] at hcy
        obtain ⟨dy, HDY⟩ : ∃ d : Nat, Hid (y.natAbs % 10 = d) := ⟨_, Lib.hid rfl⟩
        rw [HDY.out] at hcy
        have ho : Hid (decide (dy % 2 = 1) = o) := Lib.hid (by
          rw [← HO2.out]
          refine decide_eq_decide.2 ?_
          have := HDY.out
          omega)
        clear hn hy0 hdg
        by_cases hd2 : dy % 2 = 1
        · have h1 : ((dy : Int) % 2 == 1) = true := by rw [beq_iff_eq]; omega
          have ho2 : Hid (true = o) := Lib.hid (by rw [← ho.out, decide_eq_true hd2])
          clear hd2
          go_wp2
          go_meet
          exact ⟨congrArg Value.bool ho2.out, rfl⟩
        · have h1 : ((dy : Int) % 2 == 1) = false := by rw [beq_eq_false_iff_ne]; omega
          have ho2 : Hid (false = o) := Lib.hid (by rw [← ho.out, decide_eq_false hd2])
          clear hd2
          go_wp2
          go_meet
          exact ⟨congrArg Value.bool ho2.out, rfl⟩
    case rest =>
      obtain ⟨rfl, rfl⟩ := hcut
      have HWX : Hid (Below W.heap.size W w4) := Lib.hid (HWV.out.trans (HB4.out.mono HWV.out.size))
      by_cases hn2 : n2 = 0
      · have HT1 : Hid ((⟨#[49]⟩ : ByteArray) = toldS (x ^ y.natAbs) ∧ (0 : Int) = toldE (x ^ y.natAbs)) := Lib.hid (by
          rw [nt_eq_zero (show nt y.natAbs = 0 by have := HL.out.2; omega), Int.pow_zero]
          have h := told_small (x := 1) (by unfold Lim; decide +kernel)
          rw [h.1, h.2]
          exact ⟨by unfold ren; decide +kernel, rfl⟩)
        subst hn2
        go_wp2
        exact bodyPost_ret (v := .tuple #[.string ⟨#[49]⟩, .int .i64 0]) (by simp [results, Tryd.results28, go_sem]) rfl (HQ.out _ _ _ (Or.inr ⟨HYU.out, HT1.out.1, HT1.out.2⟩) HWX.out)
      have hn2b : ((n2 : Int) == 0) = false := by rw [beq_eq_false_iff_ne]; omega
      have HY0 : Hid (0 < y.natAbs) := Lib.hid (Nat.pos_of_ne_zero fun e => hn2 (by have h := HL.out.2; rw [e, nt_zero] at h; exact h))
      by_cases hn1 : n1 = 0
      · have HT1 : Hid ((⟨#[48]⟩ : ByteArray) = toldS (x ^ y.natAbs) ∧ (0 : Int) = toldE (x ^ y.natAbs)) := Lib.hid (by
          have h0 : x.natAbs = 0 := nt_eq_zero (show nt x.natAbs = 0 by have := HL.out.1; omega)
          rw [show x = 0 by omega, Int.zero_pow (by have := HY0.out; omega)]
          have h := told_small (x := 0) (by unfold Lim; decide +kernel)
          rw [h.1, h.2]
          exact ⟨by unfold ren; decide +kernel, rfl⟩)
        subst hn1
        clear hn2
        go_wp2
        exact bodyPost_ret (v := .tuple #[.string ⟨#[48]⟩, .int .i64 0]) (by simp [results, Tryd.results28, go_sem]) rfl (HQ.out _ _ _ (Or.inr ⟨HYU.out, HT1.out.1, HT1.out.2⟩) HWX.out)
      have hn1b : ((n1 : Int) == 0) = false := by rw [beq_eq_false_iff_ne]; omega
      have HX2 : Hid (2 ≤ x.natAbs) := Lib.hid (by
        have h1 : x.natAbs ≠ 1 := of_decide_eq_false HU.out
        have h0 : x.natAbs ≠ 0 := fun e => hn1 (by have h := HL.out.1; rw [e, nt_zero] at h; exact h)
        omega)
      obtain ⟨c4, HC4⟩ : ∃ c, Hid (cmpI y.natAbs 10000 = c) := ⟨_, Lib.hid rfl⟩
      have H84 : Hid (∀ w, Calls Tryd.prog 84 #[.int .i64 10000] w fun e W' => (∃ v', e = .returned v' ∧ N w.heap.size W' v' (digs 10 10000)) ∧ Below w.heap.size w W') := Lib.hid fun w => ref_natOf_any 10000 w (by decide)
      have HN4 := Lib.hid (HNY.out.later HB4.out (Nat.le_refl _))
      have HLY : Hid ((digs 10 y.natAbs).length ≤ 1000000 ∧ (digs 10 10000).length ≤ 1000000) := Lib.hid ⟨by show nt _ ≤ _; have := HTX.out.2; omega, by decide +kernel⟩
      clear hn1 hn2
      go_upto_region 16 with (fail)
      go_region_held3 (fun w' => w'.cell? ⟨w2.heap.size + 1, 0, none⟩ = some (.bool false) ∧ w'.cell? ⟨w2.heap.size + 1, 1, none⟩ = some (.slice ao2 n2 cap2)) (with_reducible first | (with_reducible exact two_cells (G2.out.after (Below.drew (Below.refl _ _)))) | (with_reducible exact two_cells (G2.out.after HW8.out))) (first | (go_at_call 84; (with_reducible refine (H84.out _).mono ?_); rintro e w8 ⟨⟨v8, rfl, hm8⟩, hb8⟩; have HM8 := Lib.hid hm8; have HW8 := Lib.hid (undrew hb8); clear hm8 hb8) | (go_at_call 82; (with_reducible refine (ref_order_any (HN4.out.later HW8.out (Nat.le_refl _)) HM8.out (digs_dig (by decide) _) (digs_dig (by decide) _) HLY.out.1 HLY.out.2).mono ?_); rw [val_digs (by decide), val_digs (by decide), HC4.out]; rintro e w9 ⟨rfl, rfl⟩))
      by_cases hbig : 10000 < y.natAbs
      · have hc : 0 < c4 := by rw [← HC4.out]; unfold cmpI; rw [if_neg (by omega), if_pos hbig]; decide
        have HTB := Lib.hid (told_long (pow_big HX2.out (by omega : 2048 ≤ y.natAbs)))
        clear hbig
        go_wp2
        exact bodyPost_ret (v := .tuple #[.string ⟨#[]⟩, .int .i64 4]) (by simp [results, Tryd.results28, go_sem]) rfl (HQ.out _ _ _ (Or.inr ⟨HYU.out, HTB.out.1.symm, HTB.out.2.symm⟩) (HWX.out.trans (HW8.out.mono HWX.out.size)))
      have hc : c4 ≤ 0 := by
        rw [← HC4.out]; unfold cmpI
        (repeat' split) <;> omega
      have HBIG : Hid (y.natAbs ≤ 10000) := Lib.hid (by omega)
      have HB8 : Hid (Below V.heap.size V w8) := Lib.hid (HB4.out.trans (HW8.out.mono HB4.out.size))
      have HWY : Hid (Below W.heap.size W w8) := Lib.hid (HWX.out.trans (HW8.out.mono HWX.out.size))
      clear hbig HN4 HLY HM8 H84
      go_upto_region 19 with (go_at_call 85; (with_reducible refine (ref_whole_any 1 _ (by decide) (by decide)).mono ?_); rintro e w10 ⟨⟨v10, rfl, hm10⟩, hb10⟩; obtain ⟨m10, a10, n10, p10, rfl, _, _⟩ := hm10.view; have HM10 := Lib.hid hm10; have HB10 := Lib.hid hb10; clear hm10 hb10)
      go_wp2_with (go_at_call 85; (with_reducible refine (ref_whole_any 0 _ (by decide) (by decide)).mono ?_); rintro e w11 ⟨⟨v11, rfl, hm11⟩, hb11⟩; obtain ⟨m11, a11, n11, p11, rfl, _, _⟩ := hm11.view; have HM11 := Lib.hid hm11; have HB11 := Lib.hid hb11; clear hm11 hb11)
      have HP0 : Hid (PoI (x ^ 0) ((0 : Nat) : Int) w8 (w11.alloc (Obj.cells #[.bool m11, .slice a11 n11 p11] 51)) w10.heap.size w11.heap.size m10 a10 n10 p10 m11 a11 n11 p11) := Lib.hid (by
        have h1 := HM11.out
        have h2 := HB11.out
        rw [World.size_alloc] at h1 h2
        rw [Int.pow_zero]
        exact PoI.start HB10.out (HM10.out.mono (Nat.zero_le _)) h2 h1)
      generalize w11.alloc (Obj.cells #[.bool m11, .slice a11 n11 p11] 51) = wl at HP0 ⊢
      obtain ⟨gO, HGO⟩ : ∃ g, g = w10.heap.size := ⟨_, rfl⟩
      obtain ⟨gI, HGI⟩ : ∃ g, g = w11.heap.size := ⟨_, rfl⟩
      rw [← HGO, ← HGI] at HP0 ⊢
      clear HGO HGI HM10 HB10 HM11 HB11
      obtain ⟨Y, HYV⟩ : ∃ Y : Nat, Hid (y = Y) := ⟨y.natAbs, Lib.hid (by
        have h := HSY.out
        have : ¬ y < 0 := fun c => by rw [decide_eq_true c] at h; cases h
        omega)⟩
      have hYn : y.natAbs = Y := by have := HYV.out; omega
      have HXP : Hid ((x ^ 0).natAbs < Lim) := Lib.hid (by rw [Int.pow_zero]; unfold Lim; decide +kernel)
      have HYL : Hid (0 < Y ∧ Y ≤ 10000) := Lib.hid (by have h1 := HY0.out; have h2 := HBIG.out; omega)
      rw [hYn] at HQ
      have HT8 : Hid (∀ w', Below w8.heap.size w8 w' → Box2 w2.heap.size (.bool m1) (.slice ao1 n1 cap1) w' ∧ Box2 (w2.heap.size + 1) (.bool false) (.slice ao2 n2 cap2) w' ∧ Qn 0 w' (numR m1 (.slice ao1 n1 cap1)) x ∧ Qn 0 w' (numR false (.slice ao2 n2 cap2)) y) := Lib.hid fun w' hw => by
        have hb := HB8.out.trans (hw.mono HB8.out.size)
        exact ⟨F1.out.after hb, F2.out.after hb, (HX.out.later hb (Nat.le_refl _)).mono (Nat.zero_le _), (HY.out.later hb (Nat.le_refl _)).mono (Nat.zero_le _)⟩
      clear g0 g1 j0 j1 k0 k1 l0 l1 hYn hc
      go_loopw [12] (fun iv wr => ∃ (k gi : Nat) (mo : Bool) (ao : Option Addr) (no po : Nat) (mi : Bool) (ai : Option Addr) (ni pi : Nat), iv = .pointer (some ⟨gi, 0, none⟩) ∧ k ≤ Y ∧ Hid ((x ^ k).natAbs < Lim) ∧ Hid (PoI (x ^ k) ((k : Nat) : Int) w8 wr gO gi mo ao no po mi ai ni pi)) (fun iv wr => Y - meaP wr iv)
      case atStart => exact ⟨0, _, _, _, _, _, _, _, _, _, rfl, Nat.zero_le _, HXP, HP0⟩
      case round =>
        obtain ⟨k, gi, mo, ao, no, po, mi, ai, ni, pi, rfl, hk, hl, hi⟩ := hrel
        obtain ⟨i0, i1, -, -⟩ := hi.out.bi
        obtain ⟨o0, o1, -, -⟩ := hi.out.bo
        obtain ⟨t1, t2, t3, t4⟩ := HT8.out _ hi.out.bel
        obtain ⟨x0, x1, -, -⟩ := t1
        obtain ⟨y0, y1, -, -⟩ := t2
        have HQX := Lib.hid t3
        have HQY := Lib.hid t4
        have HNK : Hid (nt (((k : Nat) : Int)).natAbs ≤ 1000000) := Lib.hid (by rw [Int.natAbs_natCast]; exact Nat.le_trans (nt_mono (show k ≤ 10000 by have := HYL.out; omega)) (by decide +kernel))
        have H72 := Lib.hid (ref_order72_any hi.out.qi HQY.out HNK.out (by have := HTX.out.2; omega))
        clear t3 t4
        by_cases hlt : k < Y
        · have hcm : cmpZ ((k : Nat) : Int) y = -1 := by rw [HYV.out]; unfold cmpZ; rw [if_pos (by omega)]
          rw [hcm] at H72
          clear hcm
          have HMEA := Lib.hid hi.out.mea
          have HNO : Hid (nt (x ^ k).natAbs ≤ 1000000) := Lib.hid (Nat.le_trans (nt_lim'.2 hl.out) (by decide))
          have HNX1 : Hid (nt x.natAbs ≤ 1000000) := Lib.hid (by have := HTX.out.1; omega)
          go_upto_region 23 with (first | (go_at_call 72; (with_reducible refine H72.out.mono ?_); rintro e w5 ⟨rfl, hb5⟩; have HB5 := Lib.hid hb5; have q5 := hi.out.bo.after hb5; obtain ⟨p0, p1, -, -⟩ := q5; have q6 := (HT8.out _ (hi.out.bel.trans (hb5.mono hi.out.bel.size))).1; obtain ⟨p2, p3, -, -⟩ := q6; clear hb5) | (go_at_call 74; (with_reducible refine (ref_Times_any (hi.out.qo.later HB5.out (Nat.le_refl _)) (HQX.out.later HB5.out (Nat.le_refl _)) HNO.out HNX1.out).mono ?_); rintro e w6 ⟨⟨v6, rfl, hm6⟩, hb6⟩; obtain ⟨m6, a6, n6, p6, rfl, _, _⟩ := hm6.view; have HM6 := Lib.hid hm6; have HB6 := Lib.hid hb6; obtain ⟨s0, s1, s2, s3⟩ := (hi.out.bo.after HB5.out).after hb6; clear hm6 hb6))
          have HP6 := Lib.hid ((hi.out.later HB5.out).setO HB6.out HM6.out)
          generalize ((w6.setCell ⟨gO, 0, none⟩ (.bool m6)).setCell ⟨gO, 1, none⟩ (.slice a6 n6 p6)) = w7 at HP6 ⊢
          rw [← Int.pow_succ] at HP6
          clear i0 i1 o0 o1 x0 x1 y0 y1 p0 p1 p2 p3 s0 s1 s2 s3 HM6 HB6 HB5 H72 hi HNO
          obtain ⟨o0, o1, -, -⟩ := HP6.out.bo
          obtain ⟨lg, HLG⟩ : ∃ b, Hid (decide (Lim ≤ (x ^ (k + 1)).natAbs) = b) := ⟨_, Lib.hid rfl⟩
          have h86 := ref_Long_any HP6.out.qo
          rw [HLG.out] at h86
          have H86 := Lib.hid h86
          clear h86
          cases lg
          · have hl2 : (x ^ (k + 1)).natAbs < Lim := by have := of_decide_eq_false HLG.out; omega
            have HL2 := Lib.hid hl2
            clear hl2
            go_upto_region 26 with (go_at_call 86; (with_reducible refine H86.out.mono ?_); rintro e w9 ⟨rfl, hb9⟩; have HP9 := Lib.hid (HP6.out.later hb9); obtain ⟨i0, i1, -, -⟩ := HP9.out.bi; clear hb9)
            have HPN := Lib.hid HP9.out.newI
            have HNK1 : Hid (nt (((k : Nat) : Int)).natAbs ≤ 1000000) := HNK
            clear o0 o1 H86 HP6
            go_upto_region 21 with (fail)
            obtain ⟨gN, HGN⟩ : ∃ g, g = w9.heap.size := ⟨_, rfl⟩
            rw [← HGN] at HPN ⊢
            generalize w9.alloc (Obj.cells #[.bool mi, .slice ai ni pi] 51) = wN at HPN ⊢
            clear HGN i0 i1 HP9
            obtain ⟨b0, b1, -, -⟩ := HPN.out.bi
            go_region_with (first | (go_at_call 85; (with_reducible refine (ref_whole_any 1 _ (by decide) (by decide)).mono ?_); rintro e w10 ⟨⟨v10, rfl, hm10⟩, hb10⟩; have HM10 := Lib.hid hm10; have HW10 := Lib.hid (undrew hb10); obtain ⟨z0, z1, -, -⟩ := HPN.out.bi.after HW10.out; clear hm10 hb10) | (go_at_call 66; (with_reducible refine (ref_Plus_any (HPN.out.qi.later HW10.out (Nat.le_refl _)) HM10.out HNK1.out (by decide +kernel)).mono ?_); rintro e w11 ⟨⟨v11, rfl, hm11⟩, hb11⟩; obtain ⟨m11, a11, n11, p11, rfl, _, _⟩ := hm11.view; have HM11 := Lib.hid (hm11.mono HW10.out.size); have HW11 := Lib.hid (HW10.out.trans (hb11.mono HW10.out.size)); obtain ⟨s0, s1, s2, s3⟩ := HPN.out.bi.after (HW10.out.trans (hb11.mono HW10.out.size)); clear hm11 hb11))
            all_goals
              have HPZ := Lib.hid (HPN.out.setI HW11.out HM11.out)
              generalize ((w11.setCell ⟨gN, 0, none⟩ (.bool m11)).setCell ⟨gN, 1, none⟩ (.slice a11 n11 p11)) = wZ at HPZ ⊢
              have ek : ((k : Nat) : Int) + 1 = ((k + 1 : Nat) : Int) := by omega
              rw [ek] at HPZ
              clear b0 b1 z0 z1 s0 s1 s2 s3 ek
              go_wp2
              go_roundw
              case rel => exact ⟨k + 1, gN, _, _, _, _, _, _, _, _, rfl, by omega, HL2, HPZ⟩
              case measure =>
                rw [HMEA.out, HPZ.out.mea]
                omega
          · have HBG := Lib.hid (told_long (pow_grow (x := x) (j := k + 1) (k := Y) (by have := HX2.out; omega) (by omega) (of_decide_eq_true HLG.out)))
            have HBI := Lib.hid HP6.out.bel
            go_wp2_with (go_at_call 86; (with_reducible refine H86.out.mono ?_); rintro e w9 ⟨rfl, hb9⟩; have HB9 := Lib.hid hb9; clear hb9)
            exact bodyPost_ret (v := .tuple #[.string ⟨#[]⟩, .int .i64 4]) (by simp [results, Tryd.results28, go_sem]) rfl (HQ.out _ _ _ (Or.inr ⟨HYU.out, HBG.out.1.symm, HBG.out.2.symm⟩) ((HWY.out.trans (HBI.out.mono HWY.out.size)).trans (HB9.out.mono (Nat.le_trans HWY.out.size HBI.out.size))))
        · obtain rfl : k = Y := by omega
          have hcm : cmpZ ((k : Nat) : Int) y = 0 := by rw [HYV.out]; unfold cmpZ; rw [if_neg (by omega), if_neg (by omega)]
          rw [hcm] at H72
          clear hcm
          have HQO := Lib.hid hi.out.qo
          have HBI := Lib.hid hi.out.bel
          go_wp2_with (first | (go_at_call 72; (with_reducible refine H72.out.mono ?_); rintro e w5 ⟨rfl, hb5⟩; have HB5 := Lib.hid hb5; have q5 := hi.out.bo.after hb5; obtain ⟨p0, p1, -, -⟩ := q5; clear hb5) | (go_at_call 61; (with_reducible refine (ref_told_nil (HQO.out.later HB5.out (Nat.le_refl _))).mono ?_); rintro e w6 ⟨rfl, hb6⟩; have HB6 := Lib.hid hb6; clear hb6))
          exact bodyPost_ret (v := .tuple #[.string (toldS (x ^ k)), .int .i64 (toldE (x ^ k))]) (by simp [results, Tryd.results28, go_sem]) rfl (HQ.out _ _ _ (Or.inr ⟨HYU.out, rfl, rfl⟩) (((HWY.out.trans (HBI.out.mono HWY.out.size)).trans (HB5.out.mono (Nat.le_trans HWY.out.size HBI.out.size))).trans (HB6.out.mono (Nat.le_trans HWY.out.size (Nat.le_trans HBI.out.size HB5.out.size)))))
end Go.Proofs.YtkpoegdcmnjedaaDoor
namespace Go.Proofs.YtkpoegdcmnjedaaDoor
open Go.RowKit
set_option linter.unusedVariables false
set_option linter.unusedSimpArgs false

/-! ### BigTimes -/
theorem lim_100 : 16 ^ 100 < Lim := by unfold Lim; decide +kernel
theorem lim_100T : ∀ T : Nat, T = 100 → 16 ^ T < Lim := by rintro T rfl; exact lim_100
theorem natT_100 {s : ByteArray} (h : IsNum s) (hs : s.size ≤ 100) : natT s < Lim := by
  obtain ⟨T, hT⟩ : ∃ T : Nat, T = 100 := ⟨_, rfl⟩
  have h1 : natT s < pbs s ^ (pds s).size := rd_lt _ h.2
  have h2 : pbs s ≤ 16 := by
    rcases pbase_cases (pbody (ptext s)) with h | h | h | h <;> (unfold pbs; omega)
  have h3 : (pds s).size ≤ T := by
    have := ptext_size s
    have k1 : (pbody (ptext s)).size ≤ (ptext s).size := by
      unfold pbody; split
      · rw [ByteArray.size_extract]; omega
      · exact Nat.le_refl _
    have k2 : (pdig (pbody (ptext s))).size ≤ (pbody (ptext s)).size := by
      unfold pdig; split
      · exact Nat.le_refl _
      · rw [ByteArray.size_extract]; omega
    show (pdig (pbody (ptext s))).size ≤ T
    omega
  have h4 : pbs s ^ (pds s).size ≤ 16 ^ (pds s).size := Nat.pow_le_pow_left h2 _
  have h5 : 16 ^ (pds s).size ≤ 16 ^ T := Nat.pow_le_pow_right (by decide) h3
  have h6 := lim_100T T hT
  omega
theorem DvQ.det {a b : ByteArray} {W W' W1 W1' : World} {q r q' r' : ByteArray} {er er' : Int} (h : DvQ a b W (.returned (.tuple #[.string q, .string r, .int .i64 er])) W') (h' : DvQ a b W1 (.returned (.tuple #[.string q', .string r', .int .i64 er'])) W1') : q = q' ∧ r = r' ∧ er = er' := by
  obtain ⟨x, x2, ex, e1, h1, _⟩ := h
  obtain ⟨y, y2, ey, e2, h2, _⟩ := h'
  simp only [Ending.returned.injEq, Value.tuple.injEq, Array.mk.injEq, List.cons.injEq, Value.string.injEq, Value.int.injEq, and_true, true_and] at e1 e2
  obtain ⟨rfl, rfl, rfl⟩ := e1
  obtain ⟨rfl, rfl, rfl⟩ := e2
  rcases h1 with ⟨a1, b1, c1, d1⟩ | ⟨a1, z1, b1, c1, d1⟩ | ⟨a1, z1, y1, b1, c1, d1⟩ | ⟨a1, z1, y1, y1', ⟨p1, p2, hp, b1, c1⟩, d1⟩ <;> rcases h2 with ⟨a2, b2, c2, d2⟩ | ⟨a2, z2, b2, c2, d2⟩ | ⟨a2, z2, y2, b2, c2, d2⟩ | ⟨a2, z2, y2, y2', ⟨q1, q2, hq, b2, c2⟩, d2⟩ <;>
    first
    | exact absurd a2 a1
    | exact absurd a1 a2
    | exact absurd z1 z2
    | exact absurd z2 z1
    | (with_reducible exact ⟨b1.trans b2.symm, c1.trans c2.symm, d1.trans d2.symm⟩)
    | omega
    | (obtain ⟨k1, k2⟩ := divP_unique (fun e => z1 (valT_zero.1 e)) hp hq
       exact ⟨by rw [b1, b2, k1], by rw [c1, c2, k2], d1.trans d2.symm⟩)
theorem PwQ.det {a b : ByteArray} {W W' W1 W1' : World} {r r' : ByteArray} {er er' : Int} (h : PwQ a b W (.returned (.tuple #[.string r, .int .i64 er])) W') (h' : PwQ a b W1 (.returned (.tuple #[.string r', .int .i64 er'])) W1') : r = r' ∧ er = er' := by
  obtain ⟨x, ex, e1, h1, _⟩ := h
  obtain ⟨y, ey, e2, h2, _⟩ := h'
  simp only [Ending.returned.injEq, Value.tuple.injEq, Array.mk.injEq, List.cons.injEq, Value.string.injEq, Value.int.injEq, and_true, true_and] at e1 e2
  obtain ⟨rfl, rfl⟩ := e1
  obtain ⟨rfl, rfl⟩ := e2
  rcases h1 with ⟨a1, b1, c1⟩ | ⟨a1, d1, b1, c1⟩ | ⟨a1, d1, b1, c1⟩ <;> rcases h2 with ⟨a2, b2, c2⟩ | ⟨a2, d2, b2, c2⟩ | ⟨a2, d2, b2, c2⟩ <;>
    first
    | exact absurd a2 a1
    | exact absurd a1 a2
    | exact absurd d1 d2
    | exact absurd d2 d1
    | (with_reducible exact ⟨b1.trans b2.symm, c1.trans c2.symm⟩)
set_option maxRecDepth 100000 in
set_option maxHeartbeats 8000000 in
theorem bigTimes_any (a b : ByteArray) (W : World) (ha : a.size ≤ 9223372036854775807) (hb : b.size ≤ 9223372036854775807) :
    Calls Tryd.prog 4 #[.string a, .string b] W fun e W' => e = .returned (.bool true) ∧ Below W.heap.size W W' := by
  obtain ⟨V, hV⟩ : ∃ V, V = W.alloc (Obj.cells #[.string a, .string b] 9) := ⟨_, rfl⟩
  have hv0 : V.heap[W.heap.size]? = some (.cells #[.string a, .string b] 9 (0, 0)) := by rw [hV]; exact heap_alloc_new W _
  have hT : Txs W.heap.size [a, b] V := ⟨by rw [hV]; simp, fun i hi => by
    have : i = 0 ∨ i = 1 := by have h : i < 2 := hi; omega
    rcases this with rfl | rfl <;> exact (cell_of_row _ _ _ _ _ _ hv0).trans rfl⟩
  have hR := long_any 100 W.heap.size 2 [a, b] V hT (by show 2 ≤ 1000; decide) (fun s hs => by
    simp only [List.mem_cons, List.not_mem_nil, or_false] at hs
    rcases hs with rfl | rfl <;> assumption) (by decide)
  obtain ⟨r, HRB⟩ : ∃ r, Hid (longB 100 [a, b] = r) := ⟨_, Lib.hid rfl⟩
  rw [HRB.out] at hR
  have HR : Hid (Calls Tryd.prog 11 #[.int .i64 100, .slice (some ⟨W.heap.size, 0, none⟩) 2 2] V fun e W' => e = .returned (.bool r) ∧ V = W') := Lib.hid hR
  have HVB : Hid (Below W.heap.size W V) := Lib.hid (by rw [hV]; exact (Below.refl _ _).alloc (Nat.le_refl _) _)
  have HAW : Hid (∀ w, Calls Tryd.prog 12 #[] w fun e W' => e = .returned (.bool true) ∧ Below w.heap.size w W') := Lib.hid fun w => awake_any w
  clear hR hT hv0
  cases r
  · have hall := HRB.out
    unfold longB at hall
    rw [List.any_eq_false] at hall
    have ha9 : a.size ≤ 100 := by have := hall a (by simp); simpa using this
    have hb9 : b.size ≤ 100 := by have := hall b (by simp); simpa using this
    have la : IsNum a → natT a < Lim := fun h => natT_100 h ha9
    have lb : IsNum b → natT b < Lim := fun h => natT_100 h hb9
    have A1 := Lib.hid fun w => mul_any a b w (by omega) (by omega)
    have A2 := Lib.hid fun w => ref_mul_any a b w (by omega) (by omega)
    have A3 := Lib.hid fun w => div_any a b w (by omega) (by omega) (fun h1 h2 h3 => overH_any (by have := nd_lim h1; omega) (by have := nd_lim h2; omega) (Nat.pos_of_ne_zero h3))
    have A4 := Lib.hid fun w => ref_div_any a b w (by omega) (by omega) (fun h1 h2 h3 => ⟨_, _, fq_divP (fun e => h3 (valT_zero.1 e)), dvH_any (by rw [valT_abs]; exact Nat.le_trans (nt_lim'.2 h1) (by decide)) (by rw [valT_abs]; exact Nat.le_trans (nt_lim'.2 h2) (by decide)) (fun e => h3 (valT_zero.1 e))⟩)
    have A5 := Lib.hid fun w => pow_any a b w (by omega) (by omega) la lb
    have A6 := Lib.hid fun w => ref_pow_any a b w (by omega) (by omega) la lb
    have A7 := Lib.hid fun w => gcd_any a b w (by omega) (by omega)
    have A8 := Lib.hid fun w => ref_gcd_any a b w (by omega) (by omega)
    clear la lb
    clear hall ha hb ha9 hb9
    go_enter Tryd.func4, Tryd.ntmps4
    go_wp2_with fail
    rw [← hV]
    clear hV
    refine HR.out.mono ?_
    rintro e w2 ⟨rfl, rfl⟩
    have HB0 := HVB
    clear HR HVB HRB
    go_wp2_with fail
    refine (A1.out _).mono ?_
    rintro e w1 ⟨r1, er1, rfl, h1, hb1⟩
    have HQ1 : Hid (TwoR (fun x y => x * y) a b _ (.returned (.tuple #[.string r1, .int .i64 er1])) w1) := Lib.hid ⟨r1, er1, rfl, h1, hb1⟩
    have HB1 := Lib.hid (HB0.out.trans (hb1.mono HB0.out.size))
    clear h1 hb1 HB0
    go_wp2_with fail
    refine (A2.out _).mono ?_
    rintro e w2 ⟨r2, er2, rfl, h2, hb2⟩
    have hdet := TwoR.det HQ1.out (show TwoR (fun x y => x * y) a b _ (.returned (.tuple #[.string r2, .int .i64 er2])) w2 from ⟨r2, er2, rfl, h2, hb2⟩)
    obtain ⟨rfl, rfl⟩ := hdet
    have HB2 := Lib.hid (HB1.out.trans (hb2.mono HB1.out.size))
    clear h2 hb2 HB1 HQ1
    go_wp2_with fail
    refine (A3.out _).mono ?_
    rintro e w3 ⟨r1, q1, er1, rfl, h1, hb1⟩
    have HQ1 : Hid (DvQ a b _ (.returned (.tuple #[.string r1, .string q1, .int .i64 er1])) w3) := Lib.hid ⟨r1, q1, er1, rfl, h1, hb1⟩
    have HB3 := Lib.hid (HB2.out.trans (hb1.mono HB2.out.size))
    clear h1 hb1 HB2
    go_wp2_with fail
    refine (A4.out _).mono ?_
    rintro e w4 ⟨r2, q2, er2, rfl, h2, hb2⟩
    have hdet := DvQ.det HQ1.out (show DvQ a b _ (.returned (.tuple #[.string r2, .string q2, .int .i64 er2])) w4 from ⟨r2, q2, er2, rfl, h2, hb2⟩)
    obtain ⟨rfl, rfl, rfl⟩ := hdet
    have HB4 := Lib.hid (HB3.out.trans (hb2.mono HB3.out.size))
    clear h2 hb2 HB3 HQ1
    go_wp2_with fail
    refine (A5.out _).mono ?_
    rintro e w5 ⟨r1, er1, rfl, h1, hb1⟩
    have HQ1 : Hid (PwQ a b _ (.returned (.tuple #[.string r1, .int .i64 er1])) w5) := Lib.hid ⟨r1, er1, rfl, h1, hb1⟩
    have HB5 := Lib.hid (HB4.out.trans (hb1.mono HB4.out.size))
    clear h1 hb1 HB4
    go_wp2_with fail
    refine (A6.out _).mono ?_
    rintro e w6 ⟨r2, er2, rfl, h2, hb2⟩
    have hdet := PwQ.det HQ1.out (show PwQ a b _ (.returned (.tuple #[.string r2, .int .i64 er2])) w6 from ⟨r2, er2, rfl, h2, hb2⟩)
    obtain ⟨rfl, rfl⟩ := hdet
    have HB6 := Lib.hid (HB5.out.trans (hb2.mono HB5.out.size))
    clear h2 hb2 HB5 HQ1
    go_wp2_with fail
    refine (A7.out _).mono ?_
    rintro e w7 ⟨r1, er1, rfl, h1, hb1⟩
    have HQ1 : Hid (TwoR (fun x y => ((Nat.gcd x.natAbs y.natAbs : Nat) : Int)) a b _ (.returned (.tuple #[.string r1, .int .i64 er1])) w7) := Lib.hid ⟨r1, er1, rfl, h1, hb1⟩
    have HB7 := Lib.hid (HB6.out.trans (hb1.mono HB6.out.size))
    clear h1 hb1 HB6
    go_wp2_with fail
    refine (A8.out _).mono ?_
    rintro e w8 ⟨r2, er2, rfl, h2, hb2⟩
    have hdet := TwoR.det HQ1.out (show TwoR (fun x y => ((Nat.gcd x.natAbs y.natAbs : Nat) : Int)) a b _ (.returned (.tuple #[.string r2, .int .i64 er2])) w8 from ⟨r2, er2, rfl, h2, hb2⟩)
    obtain ⟨rfl, rfl⟩ := hdet
    have HB8 := Lib.hid (HB7.out.trans (hb2.mono HB7.out.size))
    clear h2 hb2 HB7 HQ1
    go_wp2_with fail
    refine (HAW.out _).mono ?_
    rintro e w20 ⟨rfl, hb⟩
    have HB20 := Lib.hid (HB8.out.trans (hb.mono HB8.out.size))
    clear hb
    go_wp2
    go_ret
    exact ⟨rfl, HB20.out⟩
  · go_enter Tryd.func4, Tryd.ntmps4
    go_wp2_with fail
    rw [← hV]
    clear hV
    refine HR.out.mono ?_
    rintro e w2 ⟨rfl, rfl⟩
    go_wp2_with (go_at_call 12; refine (HAW.out _).mono ?_; rintro e w3 ⟨rfl, hb3⟩; have HB3 := Lib.hid hb3; clear hb3)
    go_ret
    exact ⟨rfl, HVB.out.trans (HB3.out.mono HVB.out.size)⟩
end Go.Proofs.YtkpoegdcmnjedaaDoor
