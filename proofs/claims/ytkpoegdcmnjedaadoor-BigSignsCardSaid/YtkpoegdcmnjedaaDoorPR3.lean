import Derived.Test.YtkpoegdcmnjedaaDoorRG2
import Derived.Test.YtkpoegdcmnjedaaDoorRF3
import Derived.Test.YtkpoegdcmnjedaaDoorMH4
import Derived.Test.YtkpoegdcmnjedaaDoorPA2
namespace Go.Proofs.YtkpoegdcmnjedaaDoor
open Go.RowKit
set_option linter.unusedVariables false
set_option linter.unusedSimpArgs false

/-! ### the reference's Whole, Times -/
theorem ref_whole_any (z : Int) (W : World) (h0 : -1000000000 ≤ z) (h1 : z ≤ 1000000000) : Calls Tryd.prog 85 #[.int .i64 z] W fun e W' => (∃ v', e = .returned v' ∧ Qn W.heap.size W' v' z) ∧ Below W.heap.size W W' := by
  obtain ⟨V, hV, hbox, vb, vs⟩ := box2_new W (.bool false) (.slice none 0 0)
  have HV := Lib.hid hV
  have F0 := Lib.hid hbox
  have HVB := Lib.hid vb
  have HVS := Lib.hid vs
  have hmax : max z (-z) = (z.natAbs : Int) := by omega
  have HN : Hid (Calls Tryd.prog 84 #[.int .i64 (z.natAbs : Int)] V fun e W' => (∃ v', e = .returned v' ∧ N V.heap.size W' v' (digs 10 z.natAbs)) ∧ Below V.heap.size V W') := Lib.hid (ref_natOf_any z.natAbs V (by omega))
  obtain ⟨s, HS⟩ : ∃ s, Hid (decide (z < 0) = s) := ⟨_, Lib.hid rfl⟩
  have hs := HS.out
  clear hV hbox vb vs
  go_enter Tryd.func85, Tryd.ntmps85
  go_upto_region 1 with (fail)
  rw [← HV.out]
  go_wp2_with (first | (go_at_call 84; (with_reducible refine HN.out.mono ?_); rintro e w5 ⟨⟨v5, rfl, hm5⟩, hb5⟩; obtain ⟨a5, n5, p5, rfl⟩ := hm5.slice3; have HM5 := Lib.hid hm5; have HB5 := Lib.hid hb5; clear hm5 hb5) | (go_at_call 83; (with_reducible refine (ref_num_any _ _ _ _ _).mono ?_); rintro e w6 ⟨rfl, hb6⟩; have HB6 := Lib.hid hb6; clear hb6; have f6 := (F0.out.after HB5.out).after HB6.out; obtain ⟨x0, x1, y0, y1⟩ := f6))
  refine bodyPost_ret (v := numR (s && decide (0 < n5)) (.slice a5 n5 p5)) (by simp [results, Tryd.results85, go_sem, x0, x1]) rfl ⟨⟨_, rfl, ?_⟩, ?_⟩
  · refine Qn.mk (((HM5.out.later HB6.out (Nat.le_refl _)).setOther (b := W.heap.size) (by have := HVS.out; omega) 0 _).setOther (b := W.heap.size) (by have := HVS.out; omega) 1 _ |>.mono (by have := HVS.out; omega)) rfl (fun _ => HS.out.symm)
  · exact ((HVB.out.trans (HB5.out.mono HVB.out.size)).trans (HB6.out.mono (Nat.le_trans HVB.out.size HB5.out.size))).setCell (Nat.le_refl _) _ |>.setCell (Nat.le_refl _) _
theorem bne_signs {x y : Int} (hx : x ≠ 0) (hy : y ≠ 0) : (decide (x < 0) != decide (y < 0)) = decide (x * y < 0) := (mul_sign hx hy).symm
set_option maxRecDepth 100000 in
set_option maxHeartbeats 4000000 in
theorem ref_Times_any {B B' : Nat} {W : World} {va vb : Value} {x y : Int} (ha : Qn B W va x) (hb : Qn B' W vb y) (hx : nt x.natAbs ≤ 1000000) (hy : nt y.natAbs ≤ 1000000) :
    Calls Tryd.prog 74 #[va, vb] W fun e W' => (∃ v, e = .returned v ∧ Qn W.heap.size W' v (x * y)) ∧ Below W.heap.size W W' := by
  obtain ⟨m1, a1, n1, p1, rfl, hm1, HS1⟩ := ha.view
  obtain ⟨m2, a2, n2, p2, rfl, hm2, HS2⟩ := hb.view
  obtain ⟨V, hV, v0, v1, v2, vb, vs⟩ := three_new W (Obj.cells #[.bool m1, .slice a1 n1 p1] 51) (Obj.cells #[.bool m2, .slice a2 n2 p2] 51) (Obj.cells #[.bool false, .slice none 0 0] 51)
  have HM1 := Lib.hid (hm1.later vb (Nat.le_refl _))
  have HM2 := Lib.hid (hm2.later vb (Nat.le_refl _))
  have HVB := Lib.hid vb
  have F0 := Lib.hid (And.intro (Box2.of v0) (And.intro (Box2.of v1) (show Box2 (W.heap.size + 1 + 1) _ _ V from Box2.of v2)))
  have HPE : Hid (∀ _u : World, Calls Tryd.prog 94 #[.slice a1 n1 p1, .slice a2 n2 p2] V.drew fun e W' => (∃ v', e = .returned v' ∧ N V.drew.heap.size W' v' (digs 10 (x.natAbs * y.natAbs))) ∧ Below V.drew.heap.size V.drew W') := Lib.hid fun _ =>
    ref_times_any (HM1.out.later (Below.drew (Below.refl _ _)) (Nat.le_refl _)) (HM2.out.later (Below.drew (Below.refl _ _)) (Nat.le_refl _)) hx hy
  obtain ⟨s3, HS3⟩ : ∃ s, Hid ((m1 != m2) = s) := ⟨_, Lib.hid rfl⟩
  have hs3 := HS3.out
  clear hm1 hm2 vb v0 v1 v2 ha hb hx hy
  go_enter Tryd.func74, Tryd.ntmps74
  go_upto_region 1 with (fail)
  rw [← hV]
  clear hV
  go_region_held3 (fun w' => (w'.cell? ⟨W.heap.size, 0, none⟩ = some (.bool m1) ∧ w'.cell? ⟨W.heap.size, 1, none⟩ = some (.slice a1 n1 p1) ∧ w'.cell? ⟨W.heap.size + 1, 0, none⟩ = some (.bool m2) ∧ w'.cell? ⟨W.heap.size + 1, 1, none⟩ = some (.slice a2 n2 p2))) (with_reducible first | (with_reducible exact four_cells2 (F0.out.1.after (Below.drew (Below.refl _ _))) (F0.out.2.1.after (Below.drew (Below.refl _ _)))) | (with_reducible exact four_cells2 (F0.out.1.after (undrew hb5)) (F0.out.2.1.after (undrew hb5))) | (with_reducible exact four_cells2 ((F0.out.1.after (undrew hb5)).after hb6) ((F0.out.2.1.after (undrew hb5)).after hb6)) | (with_reducible exact four_cells2 ((((F0.out.1.after (undrew hb5)).after hb6).far (by omega)).far (by omega)) ((((F0.out.2.1.after (undrew hb5)).after hb6).far (by omega)).far (by omega)))) (first | (go_at_call 94; refine (HPE.out V.drew).mono ?_; rintro e w5 ⟨⟨v5, rfl, hm5⟩, hb5⟩; obtain ⟨a5, n5, p5, rfl⟩ := hm5.slice3) | (go_at_call 83; refine (ref_num_any _ _ _ _ _).mono ?_; rintro e w6 ⟨rfl, hb6⟩; obtain ⟨x0, x1, y0, y1⟩ := (F0.out.2.2.after (undrew hb5)).after hb6))
  go_wp2
  have B5 := undrew hb5
  have hvz : W.heap.size + 3 ≤ V.heap.size := by omega
  refine bodyPost_ret (v := numR ((!(m1 == m2)) && decide (0 < n5)) (.slice a5 n5 p5)) (by simp [results, Tryd.results74, go_sem, x0, x1]) rfl ⟨⟨_, rfl, ?_⟩, ?_⟩
  · refine Qn.mk ((((hm5.mono (B' := W.heap.size + 3) hvz).later hb6 (Nat.le_refl _)).setOther (by omega) 0 _).setOther (by omega) 1 _ |>.mono (by omega)) (Int.natAbs_mul x y) ?_
    intro h0
    have hx : x ≠ 0 := by rintro rfl; simp at h0
    have hy : y ≠ 0 := by rintro rfl; simp at h0
    rw [mul_sign hx hy, HS1.out, HS2.out]; rfl
  · exact (((HVB.out.trans (B5.mono (by omega))).trans (hb6.mono (by have := B5.size; omega))).setCell (show W.heap.size ≤ W.heap.size + 1 + 1 by omega) _).setCell (show W.heap.size ≤ W.heap.size + 1 + 1 by omega) _
end Go.Proofs.YtkpoegdcmnjedaaDoor
namespace Go.Proofs.YtkpoegdcmnjedaaDoor
open Go.RowKit
set_option linter.unusedVariables false
set_option linter.unusedSimpArgs false

/-! ### the reference's Divided -/
theorem six_cells {g h k : Nat} {x0 x1 y0 y1 z0 z1 : Value} {W : World} (a : Box2 g x0 x1 W) (b : Box2 h y0 y1 W) (c : Box2 k z0 z1 W) :
    W.cell? ⟨g, 0, none⟩ = some x0 ∧ W.cell? ⟨g, 1, none⟩ = some x1 ∧ W.cell? ⟨h, 0, none⟩ = some y0 ∧ W.cell? ⟨h, 1, none⟩ = some y1 ∧ W.cell? ⟨k, 0, none⟩ = some z0 ∧ W.cell? ⟨k, 1, none⟩ = some z1 :=
  ⟨a.c0, a.c1, b.c0, b.c1, c.c0, c.c1⟩
theorem two_cells {g : Nat} {x0 x1 : Value} {W : World} (a : Box2 g x0 x1 W) : W.cell? ⟨g, 0, none⟩ = some x0 ∧ W.cell? ⟨g, 1, none⟩ = some x1 := ⟨a.c0, a.c1⟩
/-- what Divided tells. -/
def RdvQ (x y : Int) (W : World) (e : Ending) (W' : World) : Prop :=
  (∃ v1 v2, e = .returned (.tuple #[v1, v2]) ∧ Qn W.heap.size W' v1 (x / y) ∧ Qn W.heap.size W' v2 (x % y)) ∧ Below W.heap.size W W'
theorem nt_succ (a : Nat) : nt (a + 1) ≤ nt a + 1 := by
  refine (digs_length_le (by decide)).2 ?_
  have h1 : a < 10 ^ nt a := (digs_length_le (by decide)).1 (Nat.le_refl _)
  rw [Nat.pow_succ]
  omega
theorem nt_eq_zero {a : Nat} (h : nt a = 0) : a = 0 := by
  have h1 : a < 10 ^ nt a := (digs_length_le (by decide)).1 (Nat.le_refl _)
  rw [h] at h1
  simpa using h1
set_option maxRecDepth 100000 in
set_option maxHeartbeats 4000000 in
theorem ref_Divided_pos {B B' : Nat} {W : World} {va vb : Value} {x y : Int} (ha : Qn B W va x) (hb : Qn B' W vb y) (hx : nt x.natAbs ≤ 400000) (hy : nt y.natAbs ≤ 400000) (hy0 : 0 < y) (hx0 : 0 ≤ x) :
    Calls Tryd.prog 78 #[va, vb] W (RdvQ x y W) := by
  obtain ⟨m1, a1, n1, p1, rfl, hm1, HS1⟩ := ha.view
  obtain ⟨m2, a2, n2, p2, rfl, hm2, HS2⟩ := hb.view
  have e1 : m1 = false := by rw [HS1.out]; exact decide_eq_false (by omega)
  have e2 : m2 = false := by rw [HS2.out]; exact decide_eq_false (by omega)
  subst e1
  subst e2
  obtain ⟨V, hV, v0, v1, v2, v3, vb, vs⟩ := four_new W (Obj.cells #[.bool false, .slice a1 n1 p1] 51) (Obj.cells #[.bool false, .slice a2 n2 p2] 51) (Obj.cells #[.bool false, .slice none 0 0] 51) (Obj.cells #[.bool false, .slice none 0 0] 51)
  have HV := Lib.hid hV
  have HM1 := Lib.hid (hm1.later vb (Nat.le_refl _))
  have HM2 := Lib.hid (hm2.later vb (Nat.le_refl _))
  have HQ1 := Lib.hid (ha.later vb (Nat.le_refl _))
  have HQ2 := Lib.hid (hb.later vb (Nat.le_refl _))
  have HVB := Lib.hid vb
  have HVS := Lib.hid vs
  have F0 := Lib.hid (And.intro (Box2.of v0) (And.intro (Box2.of v1) (And.intro (show Box2 (W.heap.size + 1 + 1) _ _ V from Box2.of v2) (show Box2 (W.heap.size + 1 + 1 + 1) _ _ V from Box2.of v3))))
  have c1 := F0.out.1.c1
  have d1 := F0.out.2.1.c1
  have H88 := Lib.hid (ref_divided_any HM1.out HM2.out (by omega) (by omega) (by omega))
  clear hm1 hm2 vb v0 v1 v2 v3 ha hb hV
  go_enter Tryd.func78, Tryd.ntmps78
  go_upto_region 1 with (fail)
  rw [← HV.out]
  go_upto_region 2 with ((go_at_call 88; (with_reducible refine H88.out.mono ?_); rintro e w5 ⟨⟨v5, v6, rfl, hq5, hr5⟩, hb5⟩; obtain ⟨a5, n5, p5, rfl⟩ := hq5.slice3; obtain ⟨a6, n6, p6, rfl⟩ := hr5.slice3; have HQ5 := Lib.hid hq5; have HR5 := Lib.hid hr5; have HB5 := Lib.hid hb5; have F5 := Lib.hid (And.intro (F0.out.1.after hb5) (And.intro (F0.out.2.1.after hb5) (And.intro (F0.out.2.2.1.after hb5) (F0.out.2.2.2.after hb5)))); clear hq5 hr5 hb5))
  have g0 := F5.out.1.c0
  have k0 := F5.out.2.1.c0
  go_upto_region 3 with ((go_at_call 83; (with_reducible refine (ref_num_any _ _ _ _ _).mono ?_); rintro e w6 ⟨rfl, hb6⟩; have HB6 := Lib.hid hb6; clear hb6; have F6 := Lib.hid (And.intro (F5.out.1.after HB6.out) (And.intro (F5.out.2.1.after HB6.out) (And.intro (F5.out.2.2.1.after HB6.out) (F5.out.2.2.2.after HB6.out))))))
  obtain ⟨w7, hw7, hbx7, hb7, hs7⟩ := box2_new w6 (.bool false) (.slice a5 n5 p5)
  rw [← hw7]
  have FA : Hid (Box2 W.heap.size (.bool false) (.slice a1 n1 p1) w7 ∧ Box2 (W.heap.size + 1) (.bool false) (.slice a2 n2 p2) w7 ∧ Box2 (W.heap.size + 1 + 1) (.bool false) (.slice none 0 0) w7 ∧ Box2 (W.heap.size + 1 + 1 + 1) (.bool false) (.slice none 0 0) w7) := Lib.hid ⟨F6.out.1.after hb7, F6.out.2.1.after hb7, F6.out.2.2.1.after hb7, F6.out.2.2.2.after hb7⟩
  have FT := Lib.hid hbx7
  have HV7 : Hid (Below V.heap.size V w7) := Lib.hid ((HB5.out.trans (HB6.out.mono HB5.out.size)).trans (hb7.mono (Nat.le_trans HB5.out.size HB6.out.size)))
  have HWP : Hid (Below W.heap.size W w7) := Lib.hid (HVB.out.trans (HV7.out.mono HVB.out.size))
  have HXW := Lib.hid (HQ1.out.later HV7.out (Nat.le_refl _))
  have HYW := Lib.hid (HQ2.out.later HV7.out (Nat.le_refl _))
  have hdv : x.natAbs / y.natAbs = (x / y).natAbs := by
    obtain ⟨p, rfl⟩ : ∃ p : Nat, x = p := ⟨x.natAbs, by omega⟩
    obtain ⟨q, rfl⟩ : ∃ q : Nat, y = q := ⟨y.natAbs, by omega⟩
    rw [Int.natAbs_natCast, Int.natAbs_natCast, ← Int.natCast_ediv, Int.natAbs_natCast]
  have hqn : 0 ≤ x / y := Int.ediv_nonneg hx0 (by omega)
  have HQW : Hid (Qn V.heap.size w7 (numR false (.slice a5 n5 p5)) (x / y)) := Lib.hid ⟨a5, n5, p5, by rw [decide_eq_false (by omega)], by rw [← hdv]; exact HQ5.out.later (HB6.out.trans (hb7.mono HB6.out.size)) (Nat.le_refl _)⟩
  have HNQ : Hid (nt (x / y).natAbs ≤ 1000000) := Lib.hid (by rw [← hdv]; exact Nat.le_trans (nt_mono (Nat.div_le_self _ _)) (by omega))
  have HNY : Hid (nt y.natAbs ≤ 1000000) := Lib.hid (by omega)
  have HNX : Hid (nt x.natAbs ≤ 1000000) := Lib.hid (by omega)
  have hem := Int.emod_add_mul_ediv x y
  have hmc := Int.mul_comm y (x / y)
  have hnn := Int.emod_nonneg x (show y ≠ 0 by omega)
  have hml := Int.emod_lt_of_pos x hy0
  have HREM : Hid (x + -(x / y * y) = x % y) := Lib.hid (by rw [← hmc]; omega)
  have HNP : Hid (nt (-(x / y * y)).natAbs ≤ 1000000) := Lib.hid (Nat.le_trans (nt_mono (show (-(x / y * y)).natAbs ≤ x.natAbs by rw [← hmc]; have := Int.mul_nonneg (show 0 ≤ y by omega) hqn; omega)) (by omega))
  have hG6 : W.heap.size + 4 ≤ w6.heap.size := by have := HVS.out; have := HB5.out.size; have := HB6.out.size; omega
  have q0 := FA.out.1.c0
  have q1 := FA.out.2.1.c0
  clear hw7 hbx7 hb7 hem hmc hnn hml hdv hqn g0 k0 c1 d1
  go_upto_region 5 with (fail)
  go_region_held3 (fun w' => (w'.cell? ⟨w6.heap.size, 0, none⟩ = some (.bool false) ∧ w'.cell? ⟨w6.heap.size, 1, none⟩ = some (.slice a5 n5 p5) ∧ w'.cell? ⟨W.heap.size, 0, none⟩ = some (.bool false) ∧ w'.cell? ⟨W.heap.size, 1, none⟩ = some (.slice a1 n1 p1) ∧ w'.cell? ⟨W.heap.size + 1, 0, none⟩ = some (.bool false) ∧ w'.cell? ⟨W.heap.size + 1, 1, none⟩ = some (.slice a2 n2 p2))) (with_reducible first | (with_reducible exact six_cells (FT.out.after (Below.drew (Below.refl _ _))) (FA.out.1.after (Below.drew (Below.refl _ _))) (FA.out.2.1.after (Below.drew (Below.refl _ _)))) | (with_reducible exact six_cells (FT.out.after HW8.out) (FA.out.1.after HW8.out) (FA.out.2.1.after HW8.out)) | (with_reducible exact six_cells (FT.out.after HW9.out) (FA.out.1.after HW9.out) (FA.out.2.1.after HW9.out)) | (with_reducible exact six_cells (FT.out.after HW10.out) (FA.out.1.after HW10.out) (FA.out.2.1.after HW10.out)) | (with_reducible exact six_cells (((FT.out.after HW10.out).far (by omega)).far (by omega)) (((FA.out.1.after HW10.out).far (by omega)).far (by omega)) (((FA.out.2.1.after HW10.out).far (by omega)).far (by omega))) | (with_reducible exact six_cells (((((FT.out.after HW10.out).far (by omega)).far (by omega)).far (by omega)).far (by omega)) (((((FA.out.1.after HW10.out).far (by omega)).far (by omega)).far (by omega)).far (by omega)) (((((FA.out.2.1.after HW10.out).far (by omega)).far (by omega)).far (by omega)).far (by omega)))) (first | (go_at_call 74; (with_reducible refine (ref_Times_any (HQW.out.later (Below.drew (Below.refl _ _)) (Nat.le_refl _)) (HYW.out.later (Below.drew (Below.refl _ _)) (Nat.le_refl _)) HNQ.out HNY.out).mono ?_); rintro e w8 ⟨⟨v8, rfl, hm8⟩, hb8⟩; have HM8 := Lib.hid hm8; have HW8 := Lib.hid (undrew hb8); clear hm8 hb8) | (go_at_call 68; (with_reducible refine (ref_opposite_any HM8.out).mono ?_); rintro e w9 ⟨⟨v9, rfl, hm9⟩, hb9⟩; have HM9 := Lib.hid hm9; have HW9 := Lib.hid (HW8.out.trans (hb9.mono HW8.out.size)); clear hm9 hb9) | (go_at_call 66; (with_reducible refine (ref_Plus_any (HXW.out.later HW9.out (Nat.le_refl _)) HM9.out HNX.out HNP.out).mono ?_); rintro e w10 ⟨⟨v10, rfl, hm10⟩, hb10⟩; have HW10 := Lib.hid (HW9.out.trans (hb10.mono HW9.out.size)); have HQ10 := Lib.hid hm10; obtain ⟨m10, a10, n10, p10, rfl, _, _⟩ := hm10.view; clear hm10 hb10; have r8 := FA.out.2.2.1.after HW10.out; have r9 := FA.out.2.2.2.after HW10.out; obtain ⟨x0, x1, x2, x3⟩ := r8; obtain ⟨y0, y1, y2, y3⟩ := r9))
  go_wp2
  refine bodyPost_ret (v := .tuple #[numR false (.slice a5 n5 p5), numR m10 (.slice a10 n10 p10)]) (by simp [results, Tryd.results78, go_sem, x0, x1, y0, y1]) rfl ⟨⟨_, _, rfl, ?_, ?_⟩, ?_⟩
  · exact (((((HQW.out.later HW10.out (Nat.le_refl _)).set (by have := HVS.out; omega) 0 _).set (by have := HVS.out; omega) 1 _).set (by have := HVS.out; omega) 0 _).set (by have := HVS.out; omega) 1 _).mono (by have := HVS.out; omega)
  · have e := HREM.out
    rw [← e]
    exact ((((HQ10.out.set (by have := HVS.out; have := HW9.out.size; have := HWP.out.size; omega) 0 _).set (by have := HVS.out; have := HW9.out.size; have := HWP.out.size; omega) 1 _).set (by have := HVS.out; have := HW9.out.size; have := HWP.out.size; omega) 0 _).set (by have := HVS.out; have := HW9.out.size; have := HWP.out.size; omega) 1 _).mono (by have := HVS.out; have := HW9.out.size; have := HWP.out.size; omega)
  · exact ((((HWP.out.trans (HW10.out.mono HWP.out.size)).setCell (show W.heap.size ≤ W.heap.size + 1 + 1 by omega) _).setCell (show W.heap.size ≤ W.heap.size + 1 + 1 by omega) _).setCell (show W.heap.size ≤ W.heap.size + 1 + 1 + 1 by omega) _).setCell (show W.heap.size ≤ W.heap.size + 1 + 1 + 1 by omega) _
set_option maxRecDepth 100000 in
set_option maxHeartbeats 4000000 in
theorem ref_Divided_neg {B B' : Nat} {W : World} {va vb : Value} {x y : Int} (ha : Qn B W va x) (hb : Qn B' W vb y) (hx : nt x.natAbs ≤ 400000) (hy : nt y.natAbs ≤ 400000) (hy0 : 0 < y) (hx0 : x < 0) :
    Calls Tryd.prog 78 #[va, vb] W (RdvQ x y W) := by
  obtain ⟨m1, a1, n1, p1, rfl, hm1, HS1⟩ := ha.view
  obtain ⟨m2, a2, n2, p2, rfl, hm2, HS2⟩ := hb.view
  have e1 : m1 = true := by rw [HS1.out]; exact decide_eq_true hx0
  have e2 : m2 = false := by rw [HS2.out]; exact decide_eq_false (by omega)
  subst e1
  subst e2
  obtain ⟨V, hV, v0, v1, v2, v3, vb, vs⟩ := four_new W (Obj.cells #[.bool true, .slice a1 n1 p1] 51) (Obj.cells #[.bool false, .slice a2 n2 p2] 51) (Obj.cells #[.bool false, .slice none 0 0] 51) (Obj.cells #[.bool false, .slice none 0 0] 51)
  have HV := Lib.hid hV
  have HM1 := Lib.hid (hm1.later vb (Nat.le_refl _))
  have HM2 := Lib.hid (hm2.later vb (Nat.le_refl _))
  have HQ1 := Lib.hid (ha.later vb (Nat.le_refl _))
  have HQ2 := Lib.hid (hb.later vb (Nat.le_refl _))
  have HVB := Lib.hid vb
  have HVS := Lib.hid vs
  have F0 := Lib.hid (And.intro (Box2.of v0) (And.intro (Box2.of v1) (And.intro (show Box2 (W.heap.size + 1 + 1) _ _ V from Box2.of v2) (show Box2 (W.heap.size + 1 + 1 + 1) _ _ V from Box2.of v3))))
  have c1 := F0.out.1.c1
  have d1 := F0.out.2.1.c1
  obtain ⟨sq, HSQ⟩ : ∃ s, Hid (decide (0 < nt (x.natAbs / y.natAbs)) = s) := ⟨_, Lib.hid rfl⟩
  have H88 := Lib.hid (ref_divided_any HM1.out HM2.out (by omega) (by omega) (by omega))
  clear hm1 hm2 vb v0 v1 v2 v3 ha hb hV
  go_enter Tryd.func78, Tryd.ntmps78
  go_upto_region 1 with (fail)
  rw [← HV.out]
  go_upto_region 2 with ((go_at_call 88; (with_reducible refine H88.out.mono ?_); rintro e w5 ⟨⟨v5, v6, rfl, hq5, hr5⟩, hb5⟩; obtain ⟨a5, n5, p5, rfl⟩ := hq5.slice3; obtain ⟨a6, n6, p6, rfl⟩ := hr5.slice3; have HQ5 := Lib.hid hq5; have HR5 := Lib.hid hr5; have HB5 := Lib.hid hb5; have F5 := Lib.hid (And.intro (F0.out.1.after hb5) (And.intro (F0.out.2.1.after hb5) (And.intro (F0.out.2.2.1.after hb5) (F0.out.2.2.2.after hb5)))); clear hq5 hr5 hb5))
  have g0 := F5.out.1.c0
  have k0 := F5.out.2.1.c0
  go_upto_region 3 with ((go_at_call 83; (with_reducible refine (ref_num_any _ _ _ _ _).mono ?_); rintro e w6 ⟨rfl, hb6⟩; have HB6 := Lib.hid hb6; clear hb6; have F6 := Lib.hid (And.intro (F5.out.1.after HB6.out) (And.intro (F5.out.2.1.after HB6.out) (And.intro (F5.out.2.2.1.after HB6.out) (F5.out.2.2.2.after HB6.out))))))
  have hl5 : n5 = nt (x.natAbs / y.natAbs) := HQ5.out.len
  have hl6 : n6 = nt (x.natAbs % y.natAbs) := HR5.out.len
  have hsq : decide (0 < n5) = sq := by rw [hl5]; exact HSQ.out
  have hsq2 : (true && decide (0 < n5)) = sq := by rw [hsq]; cases sq <;> rfl
  obtain ⟨w7, hw7, hbx7, hb7, hs7⟩ := box2_new w6 (.bool (decide (0 < n5))) (.slice a5 n5 p5)
  rw [← hw7]
  rw [hsq] at hbx7 ⊢
  have FA : Hid (Box2 W.heap.size (.bool true) (.slice a1 n1 p1) w7 ∧ Box2 (W.heap.size + 1) (.bool false) (.slice a2 n2 p2) w7 ∧ Box2 (W.heap.size + 1 + 1) (.bool false) (.slice none 0 0) w7 ∧ Box2 (W.heap.size + 1 + 1 + 1) (.bool false) (.slice none 0 0) w7) := Lib.hid ⟨F6.out.1.after hb7, F6.out.2.1.after hb7, F6.out.2.2.1.after hb7, F6.out.2.2.2.after hb7⟩
  have FT := Lib.hid hbx7
  have HV7 : Hid (Below V.heap.size V w7) := Lib.hid ((HB5.out.trans (HB6.out.mono HB5.out.size)).trans (hb7.mono (Nat.le_trans HB5.out.size HB6.out.size)))
  have HWP : Hid (Below W.heap.size W w7) := Lib.hid (HVB.out.trans (HV7.out.mono HVB.out.size))
  have HXW := Lib.hid (HQ1.out.later HV7.out (Nat.le_refl _))
  have HYW := Lib.hid (HQ2.out.later HV7.out (Nat.le_refl _))
  obtain ⟨Y, HYN⟩ : ∃ Y : Nat, Hid (y = Y) := ⟨y.natAbs, Lib.hid (by omega)⟩
  have hY : y.natAbs = Y := by have := HYN.out; omega
  have hfl := down_floor (x := x) (p := Y) (by omega)
  rw [← HYN.out, if_pos hx0] at hfl
  rw [hY] at HQ5 HR5 HSQ hl5 hl6
  obtain ⟨a, HAN⟩ : ∃ a : Nat, Hid (x.natAbs = a) := ⟨_, Lib.hid rfl⟩
  rw [HAN.out] at hfl HQ5 HR5 HSQ hl5 hl6
  have HQW : Hid (Qn V.heap.size w7 (numR sq (.slice a5 n5 p5)) (-((a / Y : Nat) : Int))) := Lib.hid (by
    have h := Qn.mk (x := -((a / Y : Nat) : Int)) (k := true) (HQ5.out.later (HB6.out.trans (hb7.mono HB6.out.size)) (Nat.le_refl _)) (by rw [Int.natAbs_neg, Int.natAbs_natCast]) (fun h0 => by generalize a / Y = q at h0 ⊢; exact (decide_eq_true (by omega)).symm)
    rw [hsq2] at h; exact h)
  have HNY : Hid (nt y.natAbs ≤ 1000000) := Lib.hid (by omega)
  have HNX : Hid (nt x.natAbs ≤ 1000000) := Lib.hid (by omega)
  have hna : nt a ≤ 400000 := by rw [← HAN.out]; exact hx
  have hdl : nt (a / Y) ≤ 400000 := Nat.le_trans (nt_mono (Nat.div_le_self _ _)) hna
  have hem := Int.emod_add_mul_ediv x y
  have hmc := Int.mul_comm y (x / y)
  have hnn := Int.emod_nonneg x (show y ≠ 0 by omega)
  have hml := Int.emod_lt_of_pos x hy0
  have HREM : Hid (x + -(x / y * y) = x % y) := Lib.hid (by rw [← hmc]; omega)
  have HYL : Hid (nt (x.natAbs + y.natAbs) ≤ 1000000) := Lib.hid (Nat.le_trans (nt_mono (show x.natAbs + y.natAbs ≤ 2 * max x.natAbs y.natAbs by omega)) (by
    have h1 := nt_up (y := max x.natAbs y.natAbs) (R := 2 * max x.natAbs y.natAbs) (by omega)
    have h2 : nt (max x.natAbs y.natAbs) ≤ 400000 := by
      rcases Nat.le_total x.natAbs y.natAbs with h | h
      · rw [Nat.max_eq_right h]; exact hy
      · rw [Nat.max_eq_left h]; exact hx
    omega))
  have HNP : Hid (nt (-(x / y * y)).natAbs ≤ 1000000) := Lib.hid (Nat.le_trans (nt_mono (show (-(x / y * y)).natAbs ≤ x.natAbs + y.natAbs by rw [← hmc]; omega)) HYL.out)
  have hG6 : W.heap.size + 4 ≤ w6.heap.size := by have := HVS.out; have := HB5.out.size; have := HB6.out.size; omega
  have q0 := FA.out.1.c0
  have q1 := FA.out.2.1.c0
  clear hw7 hbx7 hem hmc hnn hml g0 k0 c1 d1 hsq hsq2 hl5
  by_cases hr : a % Y = 0
  · rw [if_pos hr, Nat.add_zero] at hfl
    have h6 : n6 = 0 := by rw [hl6, hr]; exact nt_zero
    subst h6
    have HNQ : Hid (nt (x / y).natAbs ≤ 1000000) := Lib.hid (by rw [hfl, Int.natAbs_neg, Int.natAbs_natCast]; omega)
    rw [← hfl] at HQW
    clear hfl hr hl6
    go_upto_region 5 with (fail)
    go_region_held3 (fun w' => (w'.cell? ⟨w6.heap.size, 0, none⟩ = some (.bool sq) ∧ w'.cell? ⟨w6.heap.size, 1, none⟩ = some (.slice a5 n5 p5) ∧ w'.cell? ⟨W.heap.size, 0, none⟩ = some (.bool true) ∧ w'.cell? ⟨W.heap.size, 1, none⟩ = some (.slice a1 n1 p1) ∧ w'.cell? ⟨W.heap.size + 1, 0, none⟩ = some (.bool false) ∧ w'.cell? ⟨W.heap.size + 1, 1, none⟩ = some (.slice a2 n2 p2))) (with_reducible first | (with_reducible exact six_cells (FT.out.after (Below.drew (Below.refl _ _))) (FA.out.1.after (Below.drew (Below.refl _ _))) (FA.out.2.1.after (Below.drew (Below.refl _ _)))) | (with_reducible exact six_cells (FT.out.after HW8.out) (FA.out.1.after HW8.out) (FA.out.2.1.after HW8.out)) | (with_reducible exact six_cells (FT.out.after HW9.out) (FA.out.1.after HW9.out) (FA.out.2.1.after HW9.out)) | (with_reducible exact six_cells (FT.out.after HW10.out) (FA.out.1.after HW10.out) (FA.out.2.1.after HW10.out)) | (with_reducible exact six_cells (((FT.out.after HW10.out).far (by omega)).far (by omega)) (((FA.out.1.after HW10.out).far (by omega)).far (by omega)) (((FA.out.2.1.after HW10.out).far (by omega)).far (by omega))) | (with_reducible exact six_cells (((((FT.out.after HW10.out).far (by omega)).far (by omega)).far (by omega)).far (by omega)) (((((FA.out.1.after HW10.out).far (by omega)).far (by omega)).far (by omega)).far (by omega)) (((((FA.out.2.1.after HW10.out).far (by omega)).far (by omega)).far (by omega)).far (by omega)))) (first | (go_at_call 74; (with_reducible refine (ref_Times_any (HQW.out.later (Below.drew (Below.refl _ _)) (Nat.le_refl _)) (HYW.out.later (Below.drew (Below.refl _ _)) (Nat.le_refl _)) HNQ.out HNY.out).mono ?_); rintro e w8 ⟨⟨v8, rfl, hm8⟩, hb8⟩; have HM8 := Lib.hid hm8; have HW8 := Lib.hid (undrew hb8); clear hm8 hb8) | (go_at_call 68; (with_reducible refine (ref_opposite_any HM8.out).mono ?_); rintro e w9 ⟨⟨v9, rfl, hm9⟩, hb9⟩; have HM9 := Lib.hid hm9; have HW9 := Lib.hid (HW8.out.trans (hb9.mono HW8.out.size)); clear hm9 hb9) | (go_at_call 66; (with_reducible refine (ref_Plus_any (HXW.out.later HW9.out (Nat.le_refl _)) HM9.out HNX.out HNP.out).mono ?_); rintro e w10 ⟨⟨v10, rfl, hm10⟩, hb10⟩; have HW10 := Lib.hid (HW9.out.trans (hb10.mono HW9.out.size)); have HQ10 := Lib.hid hm10; obtain ⟨m10, a10, n10, p10, rfl, _, _⟩ := hm10.view; clear hm10 hb10; have r8 := FA.out.2.2.1.after HW10.out; have r9 := FA.out.2.2.2.after HW10.out; obtain ⟨x0, x1, x2, x3⟩ := r8; obtain ⟨y0, y1, y2, y3⟩ := r9))
    go_wp2
    refine bodyPost_ret (v := .tuple #[numR sq (.slice a5 n5 p5), numR m10 (.slice a10 n10 p10)]) (by simp [results, Tryd.results78, go_sem, x0, x1, y0, y1]) rfl ⟨⟨_, _, rfl, ?_, ?_⟩, ?_⟩
    · exact (((((HQW.out.later HW10.out (Nat.le_refl _)).set (by have := HVS.out; omega) 0 _).set (by have := HVS.out; omega) 1 _).set (by have := HVS.out; omega) 0 _).set (by have := HVS.out; omega) 1 _).mono (by have := HVS.out; omega)
    · have e := HREM.out
      rw [← e]
      exact ((((HQ10.out.set (by have := HVS.out; have := HW9.out.size; have := HWP.out.size; omega) 0 _).set (by have := HVS.out; have := HW9.out.size; have := HWP.out.size; omega) 1 _).set (by have := HVS.out; have := HW9.out.size; have := HWP.out.size; omega) 0 _).set (by have := HVS.out; have := HW9.out.size; have := HWP.out.size; omega) 1 _).mono (by have := HVS.out; have := HW9.out.size; have := HWP.out.size; omega)
    · exact ((((HWP.out.trans (HW10.out.mono HWP.out.size)).setCell (show W.heap.size ≤ W.heap.size + 1 + 1 by omega) _).setCell (show W.heap.size ≤ W.heap.size + 1 + 1 by omega) _).setCell (show W.heap.size ≤ W.heap.size + 1 + 1 + 1 by omega) _).setCell (show W.heap.size ≤ W.heap.size + 1 + 1 + 1 by omega) _
  · rw [if_neg hr] at hfl
    have h6 : 0 < n6 := by
      rw [hl6]; exact Nat.pos_of_ne_zero fun e => hr (nt_eq_zero e)
    have HNQ0 : Hid (nt (-((a / Y : Nat) : Int)).natAbs ≤ 1000000) := Lib.hid (by rw [Int.natAbs_neg, Int.natAbs_natCast]; omega)
    have HQE : Hid (-((a / Y : Nat) : Int) + -1 = x / y) := Lib.hid (by rw [hfl]; generalize a / Y = q; omega)
    have HNQ : Hid (nt (x / y).natAbs ≤ 1000000) := Lib.hid (by
      rw [hfl, Int.natAbs_neg, Int.natAbs_natCast]
      have h1 := nt_succ (a / Y)
      omega)
    clear hfl hr hl6
    go_upto_region 4 with (fail)
    have ft := FT.out
    obtain ⟨z0, z1, z2, z3⟩ := ft
    go_region_with (first | (go_at_call 85; (with_reducible refine (ref_whole_any (-1) _ (by decide) (by decide)).mono ?_); rintro e w8 ⟨⟨v8, rfl, hm8⟩, hb8⟩; have HM8 := Lib.hid hm8; have HW8 := Lib.hid (undrew hb8); clear hm8 hb8; have r7 := FT.out.after HW8.out; obtain ⟨u0, u1, u2, u3⟩ := r7) | (go_at_call 66; (with_reducible refine (ref_Plus_any (HQW.out.later HW8.out (Nat.le_refl _)) HM8.out HNQ0.out (by decide +kernel)).mono ?_); rintro e w9 ⟨⟨v9, rfl, hm9⟩, hb9⟩; have HW9 := Lib.hid (HW8.out.trans (hb9.mono HW8.out.size)); obtain ⟨mz, az, nz, pz, rfl, _, _⟩ := hm9.view; have HM9 := Lib.hid hm9; clear hm9 hb9; have r8 := FT.out.after HW9.out; obtain ⟨x0, x1, x2, x3⟩ := r8))
    all_goals
      have hG7 : w7.heap.size = w6.heap.size + 1 := hs7
      have hG8 : w7.heap.size ≤ w8.heap.size := HW8.out.size
      have hG9 : w7.heap.size ≤ w9.heap.size := HW9.out.size
      obtain ⟨w13, hw13⟩ : ∃ w, w = (w9.setCell ⟨w6.heap.size, 0, none⟩ (.bool mz)).setCell ⟨w6.heap.size, 1, none⟩ (.slice az nz pz) := ⟨_, rfl⟩
      rw [← hw13]
      have HV13 : Hid (Below V.heap.size V w13) := Lib.hid (by rw [hw13]; exact ((HV7.out.trans (HW9.out.mono HV7.out.size)).setCell (by show V.heap.size ≤ w6.heap.size; have := HVS.out; omega) _).setCell (by show V.heap.size ≤ w6.heap.size; have := HVS.out; omega) _)
      replace HXW := Lib.hid (HQ1.out.later HV13.out (Nat.le_refl _))
      replace HYW := Lib.hid (HQ2.out.later HV13.out (Nat.le_refl _))
      have HQZ : Hid (Qn w8.heap.size w13 (numR mz (.slice az nz pz)) (x / y)) := Lib.hid (by
        have h := (HM9.out.set (b := w6.heap.size) (by omega) 0 (.bool mz)).set (b := w6.heap.size) (by omega) 1 (.slice az nz pz)
        rw [HQE.out, ← hw13] at h; exact h)
      replace FA : Hid (Box2 W.heap.size (.bool true) (.slice a1 n1 p1) w13 ∧ Box2 (W.heap.size + 1) (.bool false) (.slice a2 n2 p2) w13 ∧ Box2 (W.heap.size + 1 + 1) (.bool false) (.slice none 0 0) w13 ∧ Box2 (W.heap.size + 1 + 1 + 1) (.bool false) (.slice none 0 0) w13) := Lib.hid (by
        rw [hw13]
        exact ⟨((FA.out.1.after HW9.out).far (by omega)).far (by omega), ((FA.out.2.1.after HW9.out).far (by omega)).far (by omega), ((FA.out.2.2.1.after HW9.out).far (by omega)).far (by omega), ((FA.out.2.2.2.after HW9.out).far (by omega)).far (by omega)⟩)
      replace FT : Hid (Box2 w6.heap.size (.bool mz) (.slice az nz pz) w13) := Lib.hid (by rw [hw13]; exact (FT.out.after HW9.out).two _ _)
      replace HWP : Hid (Below W.heap.size W w13) := Lib.hid (HVB.out.trans (HV13.out.mono HVB.out.size))
      have hG13 : w6.heap.size < w13.heap.size := by rw [hw13]; simp; omega
      clear hw13 x0 x1 x2 x3 u0 u1 u2 u3 z0 z1 z2 z3 HQW HW8 HW9 HM8 HM9 HQE
      go_upto_region 5 with (fail)
      go_region_held3 (fun w' => (w'.cell? ⟨w6.heap.size, 0, none⟩ = some (.bool mz) ∧ w'.cell? ⟨w6.heap.size, 1, none⟩ = some (.slice az nz pz) ∧ w'.cell? ⟨W.heap.size, 0, none⟩ = some (.bool true) ∧ w'.cell? ⟨W.heap.size, 1, none⟩ = some (.slice a1 n1 p1) ∧ w'.cell? ⟨W.heap.size + 1, 0, none⟩ = some (.bool false) ∧ w'.cell? ⟨W.heap.size + 1, 1, none⟩ = some (.slice a2 n2 p2))) (with_reducible first | (with_reducible exact six_cells (FT.out.after (Below.drew (Below.refl _ _))) (FA.out.1.after (Below.drew (Below.refl _ _))) (FA.out.2.1.after (Below.drew (Below.refl _ _)))) | (with_reducible exact six_cells (FT.out.after HW8.out) (FA.out.1.after HW8.out) (FA.out.2.1.after HW8.out)) | (with_reducible exact six_cells (FT.out.after HW9.out) (FA.out.1.after HW9.out) (FA.out.2.1.after HW9.out)) | (with_reducible exact six_cells (FT.out.after HW10.out) (FA.out.1.after HW10.out) (FA.out.2.1.after HW10.out)) | (with_reducible exact six_cells (((FT.out.after HW10.out).far (by omega)).far (by omega)) (((FA.out.1.after HW10.out).far (by omega)).far (by omega)) (((FA.out.2.1.after HW10.out).far (by omega)).far (by omega))) | (with_reducible exact six_cells (((((FT.out.after HW10.out).far (by omega)).far (by omega)).far (by omega)).far (by omega)) (((((FA.out.1.after HW10.out).far (by omega)).far (by omega)).far (by omega)).far (by omega)) (((((FA.out.2.1.after HW10.out).far (by omega)).far (by omega)).far (by omega)).far (by omega)))) (first | (go_at_call 74; (with_reducible refine (ref_Times_any (HQZ.out.later (Below.drew (Below.refl _ _)) (Nat.le_refl _)) (HYW.out.later (Below.drew (Below.refl _ _)) (Nat.le_refl _)) HNQ.out HNY.out).mono ?_); rintro e w8 ⟨⟨v8, rfl, hm8⟩, hb8⟩; have HM8 := Lib.hid hm8; have HW8 := Lib.hid (undrew hb8); clear hm8 hb8) | (go_at_call 68; (with_reducible refine (ref_opposite_any HM8.out).mono ?_); rintro e w9 ⟨⟨v9, rfl, hm9⟩, hb9⟩; have HM9 := Lib.hid hm9; have HW9 := Lib.hid (HW8.out.trans (hb9.mono HW8.out.size)); clear hm9 hb9) | (go_at_call 66; (with_reducible refine (ref_Plus_any (HXW.out.later HW9.out (Nat.le_refl _)) HM9.out HNX.out HNP.out).mono ?_); rintro e w10 ⟨⟨v10, rfl, hm10⟩, hb10⟩; have HW10 := Lib.hid (HW9.out.trans (hb10.mono HW9.out.size)); have HQ10 := Lib.hid hm10; obtain ⟨m10, a10, n10, p10, rfl, _, _⟩ := hm10.view; clear hm10 hb10; have r8 := FA.out.2.2.1.after HW10.out; have r9 := FA.out.2.2.2.after HW10.out; obtain ⟨x0, x1, x2, x3⟩ := r8; obtain ⟨y0, y1, y2, y3⟩ := r9))
      go_wp2
      refine bodyPost_ret (v := .tuple #[numR mz (.slice az nz pz), numR m10 (.slice a10 n10 p10)]) (by simp [results, Tryd.results78, go_sem, x0, x1, y0, y1]) rfl ⟨⟨_, _, rfl, ?_, ?_⟩, ?_⟩
      · exact (((((HQZ.out.later HW10.out (Nat.le_refl _)).set (by have := HVS.out; omega) 0 _).set (by have := HVS.out; omega) 1 _).set (by have := HVS.out; omega) 0 _).set (by have := HVS.out; omega) 1 _).mono (by have := HVS.out; omega)
      · have e := HREM.out
        rw [← e]
        exact ((((HQ10.out.set (by have := HVS.out; have := HW9.out.size; have := HWP.out.size; omega) 0 _).set (by have := HVS.out; have := HW9.out.size; have := HWP.out.size; omega) 1 _).set (by have := HVS.out; have := HW9.out.size; have := HWP.out.size; omega) 0 _).set (by have := HVS.out; have := HW9.out.size; have := HWP.out.size; omega) 1 _).mono (by have := HVS.out; have := HW9.out.size; have := HWP.out.size; omega)
      · exact ((((HWP.out.trans (HW10.out.mono HWP.out.size)).setCell (show W.heap.size ≤ W.heap.size + 1 + 1 by omega) _).setCell (show W.heap.size ≤ W.heap.size + 1 + 1 by omega) _).setCell (show W.heap.size ≤ W.heap.size + 1 + 1 + 1 by omega) _).setCell (show W.heap.size ≤ W.heap.size + 1 + 1 + 1 by omega) _
theorem ref_Divided_any {B B' : Nat} {W : World} {va vb : Value} {x y : Int} (ha : Qn B W va x) (hb : Qn B' W vb y) (hx : nt x.natAbs ≤ 400000) (hy : nt y.natAbs ≤ 400000) (hy0 : 0 < y) :
    Calls Tryd.prog 78 #[va, vb] W (RdvQ x y W) := by
  by_cases h : x < 0
  · exact ref_Divided_neg ha hb hx hy hy0 h
  · exact ref_Divided_pos ha hb hx hy hy0 (by omega)
end Go.Proofs.YtkpoegdcmnjedaaDoor
namespace Go.Proofs.YtkpoegdcmnjedaaDoor
open Go.RowKit
set_option linter.unusedVariables false
set_option linter.unusedSimpArgs false

/-! ### the reference's two -/
theorem nt_two (n : Nat) : nt (2 ^ n) ≤ n + 1 := by
  refine (digs_length_le (by decide)).2 ?_
  refine Nat.lt_of_le_of_lt (Nat.pow_le_pow_left (show 2 ≤ 10 by decide) n) ?_
  exact Nat.pow_lt_pow_right (by decide) (by omega)
structure TwI (W wr : World) (G k : Nat) (m : Bool) (a : Option Addr) (nn p : Nat) : Prop where
  box : Box2 G (.bool m) (.slice a nn p) wr
  num : Qn (W.heap.size + 1) wr (numR m (.slice a nn p)) ((2 ^ k : Nat) : Int)
  res : Box2 W.heap.size (.bool false) (.slice none 0 0) wr
  bel : Below W.heap.size W wr
  lt : W.heap.size < G ∧ G < wr.heap.size
set_option maxRecDepth 100000 in
set_option maxHeartbeats 4000000 in
theorem ref_two_any (n : Nat) (hn : n ≤ 4000) (W : World) : Calls Tryd.prog 96 #[.int .i64 n] W fun e W' => (∃ v, e = .returned v ∧ Qn (W.heap.size + 1) W' v ((2 ^ n : Nat) : Int)) ∧ Below W.heap.size W W' := by
  obtain ⟨V, hV, hbox, vb, vs⟩ := box2_new W (.bool false) (.slice none 0 0)
  have HV := Lib.hid hV
  have F0 := Lib.hid hbox
  have HVB := Lib.hid vb
  have HVS := Lib.hid vs
  clear hV hbox vb vs
  go_enter Tryd.func96, Tryd.ntmps96
  go_upto_region 1 with (fail)
  rw [← HV.out]
  go_upto_region 2 with ((go_at_call 85; (with_reducible refine (ref_whole_any 1 _ (by decide) (by decide)).mono ?_); rintro e w5 ⟨⟨v5, rfl, hm5⟩, hb5⟩; obtain ⟨m5, a5, n5, p5, rfl, _, _⟩ := hm5.view; have HM5 := Lib.hid hm5; have HB5 := Lib.hid hb5; clear hm5 hb5))
  obtain ⟨w6, hw6, hbx6, hb6, hs6⟩ := box2_new w5 (.bool m5) (.slice a5 n5 p5)
  rw [← hw6]
  have HI0 : Hid (TwI W w6 w5.heap.size 0 m5 a5 n5 p5) := Lib.hid ⟨hbx6, by
    have h := (HM5.out.later hb6 (Nat.le_refl _)).mono (B' := W.heap.size + 1) (by have := HVS.out; omega)
    exact h, (F0.out.after HB5.out).after hb6, HVB.out.trans ((HB5.out.trans (hb6.mono HB5.out.size)).mono HVB.out.size), by have := HVS.out; have := HB5.out.size; omega, by omega⟩
  obtain ⟨G, hG⟩ : ∃ G, w5.heap.size = G := ⟨_, rfl⟩
  rw [hG] at HI0 ⊢
  clear hw6 hbx6 hb6 hs6 HM5 HB5 hG
  go_wp2
  go_loopw [6] (fun iv wr => ∃ (k : Nat) (m : Bool) (a : Option Addr) (nn p : Nat), iv = .int .i64 k ∧ k ≤ n ∧ Hid (TwI W wr G k m a nn p)) (fun iv _ => n - (intOf iv).toNat)
  case atStart => exact ⟨0, _, _, _, _, rfl, Nat.zero_le _, HI0⟩
  case round =>
    obtain ⟨k, m, a, nn, p, rfl, hk, hi⟩ := hrel
    obtain ⟨x0, x1, x2, x3⟩ := hi.out.box
    by_cases hlt : k < n
    · have HNT : Hid (nt (((2 ^ k : Nat) : Int)).natAbs ≤ 1000000) := Lib.hid (by rw [Int.natAbs_natCast]; exact Nat.le_trans (nt_two k) (by omega))
      go_wp2_with ((go_at_call 66; (with_reducible refine (ref_Plus_any hi.out.num hi.out.num HNT.out HNT.out).mono ?_); rintro e w8 ⟨⟨v8, rfl, hm8⟩, hb8⟩; obtain ⟨m8, a8, n8, p8, rfl, _, _⟩ := hm8.view; have HM8 := Lib.hid hm8; have HB8 := Lib.hid hb8; clear hm8 hb8; have r8 := hi.out.box.after HB8.out; obtain ⟨u0, u1, u2, u3⟩ := r8))
      go_roundw
      case rel =>
        refine ⟨k + 1, m8, a8, n8, p8, by go_num, by omega, Lib.hid ⟨(hi.out.box.after HB8.out).two _ _, ?_, ((hi.out.res.after HB8.out).far (by have := hi.out.lt; omega)).far (by have := hi.out.lt; omega), ((hi.out.bel.trans (HB8.out.mono hi.out.bel.size)).setCell (by show _ ≤ G; have := hi.out.lt; omega) _).setCell (by show _ ≤ G; have := hi.out.lt; omega) _, hi.out.lt.1, by have := hi.out.lt; have := HB8.out.size; simp; omega⟩⟩
        have h := (HM8.out.set (b := G) hi.out.lt.2 0 (.bool m8)).set (b := G) hi.out.lt.2 1 (.slice a8 n8 p8) |>.mono (B' := W.heap.size + 1) (by have := hi.out.lt; omega)
        have e2 : (((2 ^ k : Nat) : Int) + ((2 ^ k : Nat) : Int)) = ((2 ^ (k + 1) : Nat) : Int) := by rw [Nat.pow_succ]; omega
        rw [e2] at h; exact h
      case measure => simp [intOf]; omega
    · obtain rfl : k = n := by omega
      obtain ⟨u0, u1, u2, u3⟩ := hi.out.res
      go_wp2
      refine bodyPost_ret (v := numR m (.slice a nn p)) (by simp [results, Tryd.results96, go_sem, u0, u1]) rfl ⟨⟨_, rfl, ?_⟩, ?_⟩
      · exact (hi.out.num.set (b := W.heap.size) (Nat.lt_succ_self _) 0 _).set (b := W.heap.size) (Nat.lt_succ_self _) 1 _
      · exact (hi.out.bel.setCell (Nat.le_refl _) _).setCell (Nat.le_refl _) _
end Go.Proofs.YtkpoegdcmnjedaaDoor
