import Derived.Test.YtkpoegdcmnjedaaDoorRF3
namespace Go.Proofs.YtkpoegdcmnjedaaDoor
open Go.RowKit
set_option linter.unusedVariables false
set_option linter.unusedSimpArgs false

set_option maxRecDepth 100000 in
set_option maxHeartbeats 4000000 in
/-- short of two numbers. -/
theorem ref_short_two {B1 B2 g : Nat} {W : World} {x1 x2 : Int} {m1 m2 : Bool} {a1 a2 : Option Addr} {n1 n2 p1 p2 : Nat} (h1 : Qn B1 W (numR m1 (.slice a1 n1 p1)) x1) (h2 : Qn B2 W (numR m2 (.slice a2 n2 p2)) x2) (ht : Two4 g m1 (.slice a1 n1 p1) m2 (.slice a2 n2 p2) W) :
    Calls Tryd.prog 71 #[.slice (some ⟨g, 0, none⟩) 2 2] W fun e W' => e = .returned (.bool (!decide (Lim ≤ x1.natAbs) && !decide (Lim ≤ x2.natAbs))) ∧ Below W.heap.size W W' := by
  have H1 := Lib.hid h1
  have H2 := Lib.hid h2
  have HT := Lib.hid ht
  obtain ⟨hlt, k0, k1, k2, k3⟩ := HT.out
  obtain ⟨b1, hb1⟩ : ∃ b, decide (Lim ≤ x1.natAbs) = b := ⟨_, rfl⟩
  obtain ⟨b2, hb2⟩ : ∃ b, decide (Lim ≤ x2.natAbs) = b := ⟨_, rfl⟩
  have HL1 := Lib.hid (long_is hb1)
  have HL2 := Lib.hid (long_is hb2)
  rw [hb1, hb2]
  clear h1 h2 ht hb1 hb2
  cases b1
  · cases b2
    · go_enter Tryd.func71, Tryd.ntmps71
      go_wp2
      refine wp_loop_rounds 3 ?_
      rw [rounds_succ]
      go_wp2_with fail
      refine (HL1.out _ _ _ (H1.out.later ((Below.refl _ _).alloc (Nat.le_refl _) _) (Nat.le_refl _))).mono ?_
      rintro e w2 ⟨rfl, hb2⟩
      have HW2 : Hid (Below W.heap.size W w2) := Lib.hid (((Below.refl _ _).alloc (Nat.le_refl _) _).trans (hb2.mono (by simp)))
      clear hb2
      obtain ⟨hlt2, l0, l1, l2, l3⟩ := HT.out.after HW2.out
      clear k0 k1 k2 k3
      go_wp2
      rw [rounds_succ]
      go_wp2_with fail
      refine (HL2.out _ _ _ ((H2.out.later HW2.out (Nat.le_refl _)).later ((Below.refl _ _).alloc (Nat.le_refl _) _) (Nat.le_refl _))).mono ?_
      rintro e w3 ⟨rfl, hb3⟩
      have HW3 : Hid (Below W.heap.size W w3) := Lib.hid (HW2.out.trans (((Below.refl _ _).alloc (Nat.le_refl _) _).trans (hb3.mono (by simp)) |>.mono HW2.out.size))
      clear hb3
      go_wp2
      rw [rounds_succ]
      go_wp2
      go_ret
      exact ⟨rfl, HW3.out⟩
    · go_enter Tryd.func71, Tryd.ntmps71
      go_wp2
      refine wp_loop_rounds 3 ?_
      rw [rounds_succ]
      go_wp2_with fail
      refine (HL1.out _ _ _ (H1.out.later ((Below.refl _ _).alloc (Nat.le_refl _) _) (Nat.le_refl _))).mono ?_
      rintro e w2 ⟨rfl, hb2⟩
      have HW2 : Hid (Below W.heap.size W w2) := Lib.hid (((Below.refl _ _).alloc (Nat.le_refl _) _).trans (hb2.mono (by simp)))
      clear hb2
      obtain ⟨hlt2, l0, l1, l2, l3⟩ := HT.out.after HW2.out
      clear k0 k1 k2 k3
      go_wp2
      rw [rounds_succ]
      go_wp2_with fail
      refine (HL2.out _ _ _ ((H2.out.later HW2.out (Nat.le_refl _)).later ((Below.refl _ _).alloc (Nat.le_refl _) _) (Nat.le_refl _))).mono ?_
      rintro e w3 ⟨rfl, hb3⟩
      have HW3 : Hid (Below W.heap.size W w3) := Lib.hid (HW2.out.trans (((Below.refl _ _).alloc (Nat.le_refl _) _).trans (hb3.mono (by simp)) |>.mono HW2.out.size))
      clear hb3
      go_wp2
      go_ret
      exact ⟨rfl, HW3.out⟩
  · go_enter Tryd.func71, Tryd.ntmps71
    go_wp2
    refine wp_loop_rounds 3 ?_
    rw [rounds_succ]
    go_wp2_with fail
    refine (HL1.out _ _ _ (H1.out.later ((Below.refl _ _).alloc (Nat.le_refl _) _) (Nat.le_refl _))).mono ?_
    rintro e w2 ⟨rfl, hb2⟩
    have HW2 : Hid (Below W.heap.size W w2) := Lib.hid (((Below.refl _ _).alloc (Nat.le_refl _) _).trans (hb2.mono (by simp)))
    clear hb2
    go_wp2
    go_ret
    exact ⟨by cases b2 <;> rfl, HW2.out⟩
end Go.Proofs.YtkpoegdcmnjedaaDoor
namespace Go.Proofs.YtkpoegdcmnjedaaDoor
open Go.RowKit
set_option linter.unusedVariables false
set_option linter.unusedSimpArgs false

set_option maxRecDepth 100000 in
set_option maxHeartbeats 8000000 in
theorem ref_order72_any {B B' : Nat} {W : World} {va vb : Value} {x y : Int} (ha : Qn B W va x) (hb : Qn B' W vb y) (hx : nt x.natAbs ≤ 1000000) (hy : nt y.natAbs ≤ 1000000) :
    Calls Tryd.prog 72 #[va, vb] W fun e W' => e = .returned (.int .i64 (cmpZ x y)) ∧ Below W.heap.size W W' := by
  obtain ⟨m1, a1, n1, p1, rfl, hqa, -, -, -⟩ := ha.parts
  obtain ⟨m2, a2, n2, p2, rfl, hqb, -, -, -⟩ := hb.parts
  obtain ⟨V1, hV1, hbox1, vb1, vs1⟩ := box2_new W (.bool m1) (.slice a1 n1 p1)
  obtain ⟨V, hV, hbox, vb, vs⟩ := box2_new V1 (.bool m2) (.slice a2 n2 p2)
  rw [vs1] at hbox
  have hvb := vb1.trans (vb.mono (by omega))
  have HVB := Lib.hid hvb
  have HVS : Hid (V.heap.size = W.heap.size + 2) := Lib.hid (by omega)
  have F0 := Lib.hid (And.intro (hbox1.after vb) hbox)
  have hqx := hqa.later hvb (Nat.le_refl _)
  have hqy := hqb.later hvb (Nat.le_refl _)
  have HO : Hid (∀ w' : World, Below V.heap.size V w' → Calls Tryd.prog 68 #[numR m2 (.slice a2 n2 p2)] w' fun e W' => ∃ m a n p, e = .returned (numR m (.slice a n p)) ∧ Qn 0 W' (numR m (.slice a n p)) (-y) ∧ Below V.heap.size V W' ∧ Below w'.heap.size w' W') := Lib.hid fun w' hb => by
    refine (ref_opposite_any (hqy.later hb (Nat.le_refl _))).mono ?_
    rintro e W' ⟨⟨v, rfl, hq⟩, hb2⟩
    obtain ⟨m, a, n, p, rfl, hq', -⟩ := hq.parts
    exact ⟨m, a, n, p, rfl, hq'.mono (Nat.zero_le _), hb.trans (hb2.mono hb.size), hb2⟩
  have HP : Hid (∀ (w' : World) (m3 : Bool) (a3 : Option Addr) (n3 p3 : Nat), Below V.heap.size V w' → Qn 0 w' (numR m3 (.slice a3 n3 p3)) (-y) → Calls Tryd.prog 66 #[numR m1 (.slice a1 n1 p1), numR m3 (.slice a3 n3 p3)] w' fun e W' => ∃ m a n p, e = .returned (numR m (.slice a n p)) ∧ (m = decide (x + -y < 0) ∧ n = nt (x + -y).natAbs) ∧ Below V.heap.size V W' ∧ Below w'.heap.size w' W') := Lib.hid fun w' m3 a3 n3 p3 hb h3 => by
    refine (ref_Plus_any (hqx.later hb (Nat.le_refl _)) h3 hx (by rw [Int.natAbs_neg]; exact hy)).mono ?_
    rintro e W' ⟨⟨v, rfl, hq⟩, hb2⟩
    obtain ⟨m, a, n, p, rfl, hq', -, e1, e2⟩ := hq.parts
    exact ⟨m, a, n, p, rfl, ⟨e1, e2⟩, hb.trans (hb2.mono hb.size), hb2⟩
  have hVV : V = (W.alloc (Obj.cells #[.bool m1, .slice a1 n1 p1] 51)).alloc (Obj.cells #[.bool m2, .slice a2 n2 p2] 51) := by rw [hV, hV1]
  clear hbox hvb vb hV hV1 hbox1 vb1 vs vs1 hqx hqy hqa hqb ha hb hx hy
  go_enter Tryd.func72, Tryd.ntmps72
  go_upto_region 1 with (fail)
  rw [← hVV]
  clear hVV
  go_region_held3 (fun w' => (w'.cell? ⟨W.heap.size, 0, none⟩ = some (.bool m1) ∧ w'.cell? ⟨W.heap.size, 1, none⟩ = some (.slice a1 n1 p1) ∧ w'.cell? ⟨W.heap.size + 1, 0, none⟩ = some (.bool m2) ∧ w'.cell? ⟨W.heap.size + 1, 1, none⟩ = some (.slice a2 n2 p2))) (with_reducible first | (with_reducible exact four_cells2 (F0.out.1.after (Below.drew (Below.refl _ _))) (F0.out.2.after (Below.drew (Below.refl _ _)))) | (with_reducible exact four_cells2 (F0.out.1.after (Below.drew ((Below.refl _ _).alloc (Nat.le_refl _) _))) (F0.out.2.after (Below.drew ((Below.refl _ _).alloc (Nat.le_refl _) _)))) | (with_reducible exact four_cells2 (F0.out.1.after (HW4.out)) (F0.out.2.after (HW4.out))) | (with_reducible exact four_cells2 (F0.out.1.after (HW5.out)) (F0.out.2.after (HW5.out))) | (with_reducible exact four_cells2 ((F0.out.1.after HW4.out).after ((Below.refl _ _).alloc (Nat.le_refl _) _)) ((F0.out.2.after HW4.out).after ((Below.refl _ _).alloc (Nat.le_refl _) _))) | (with_reducible exact four_cells2 ((F0.out.1.after HW5.out).after ((Below.refl _ _).alloc (Nat.le_refl _) _)) ((F0.out.2.after HW5.out).after ((Below.refl _ _).alloc (Nat.le_refl _) _))) | (with_reducible exact four_cells2 (((F0.out.1.after HW5.out).far (by have := HVS.out; have := HW5.out.size; have := HW4.out.size; omega)).far (by have := HVS.out; have := HW5.out.size; have := HW4.out.size; omega)) (((F0.out.2.after HW5.out).far (by have := HVS.out; have := HW5.out.size; have := HW4.out.size; omega)).far (by have := HVS.out; have := HW5.out.size; have := HW4.out.size; omega))) | (with_reducible exact four_cells2 ((((F0.out.1.after HW5.out).after ((Below.refl _ _).alloc (Nat.le_refl _) _)).far (by have := HVS.out; have := HW5.out.size; have := HW4.out.size; omega)).far (by have := HVS.out; have := HW5.out.size; have := HW4.out.size; omega)) ((((F0.out.2.after HW5.out).after ((Below.refl _ _).alloc (Nat.le_refl _) _)).far (by have := HVS.out; have := HW5.out.size; have := HW4.out.size; omega)).far (by have := HVS.out; have := HW5.out.size; have := HW4.out.size; omega)))) (first | (go_at_call 68; refine (HO.out _ (by first | exact Below.drew (Below.refl _ _) | exact Below.drew ((Below.refl _ _).alloc (Nat.le_refl _) _))).mono ?_; rintro e w4 ⟨m3, a3, n3, p3, rfl, hq5, hb5, hbw⟩; have HQ4 := Lib.hid hq5; have HW4 := Lib.hid hb5; (try have HF4 : Hid (Box2 V.heap.size (.bool false) (.slice none 0 0) w4) := Lib.hid (((Box2.of (heap_alloc_new V _)).after (Below.drew (Below.refl _ _))).after hbw)); clear hq5 hb5 hbw) | (go_at_call 66; (first | (with_reducible refine (HP.out _ _ _ _ _ HW4.out HQ4.out).mono ?_) | (with_reducible refine (HP.out _ _ _ _ _ (HW4.out.alloc HW4.out.size _) (HQ4.out.later ((Below.refl _ _).alloc (Nat.le_refl _) _) (Nat.le_refl _))).mono ?_)); rintro e w5 ⟨m5, a5, n5, p5, rfl, hq5, hb5, hbw⟩; have HQ5 := Lib.hid hq5; have HW5 := Lib.hid hb5; (try have HF5 : Hid (Box2 V.heap.size (.bool false) (.slice none 0 0) w5) := Lib.hid (HF4.out.after hbw)); (try have HF5 : Hid (Box2 w4.heap.size (.bool false) (.slice none 0 0) w5) := Lib.hid ((Box2.of (heap_alloc_new w4 _)).after hbw)); (try obtain ⟨z0, z1, z2, z3⟩ := HF5.out); clear hq5 hb5 hbw))
  all_goals
    rcases Int.lt_trichotomy x y with h | h | h
    · obtain rfl : m5 = true := by rw [HQ5.out.1, decide_eq_true_eq]; omega
      have HC : Hid (cmpZ x y = -1) := Lib.hid (by unfold cmpZ; rw [if_pos h])
      clear h HQ5
      go_wp2
      go_ret
      refine ⟨by rw [HC.out] <;> rfl, ?_⟩
      have hs := HVS.out
      have hz5 := HW5.out.size
      have hz4 := HW4.out.size
      have hbw := HVB.out.trans (HW5.out.mono (by omega))
      first
      | exact (hbw.setCell (by first | omega | (simp; omega)) _).setCell (by first | omega | (simp; omega)) _
      | exact ((hbw.alloc (by omega) _).setCell (by first | omega | (simp; omega)) _).setCell (by first | omega | (simp; omega)) _
      | exact hbw.alloc (by omega) _
    · obtain rfl : m5 = false := by rw [HQ5.out.1, decide_eq_false_iff_not]; omega
      obtain rfl : n5 = 0 := by rw [HQ5.out.2, show (x + -y).natAbs = 0 by omega]; exact nt_zero
      have HC : Hid (cmpZ x y = 0) := Lib.hid (by unfold cmpZ; rw [if_neg (by omega), if_neg (by omega)])
      clear h HQ5
      go_wp2
      go_ret
      refine ⟨by rw [HC.out] <;> rfl, ?_⟩
      have hs := HVS.out
      have hz5 := HW5.out.size
      have hz4 := HW4.out.size
      have hbw := HVB.out.trans (HW5.out.mono (by omega))
      first
      | exact (hbw.setCell (by first | omega | (simp; omega)) _).setCell (by first | omega | (simp; omega)) _
      | exact ((hbw.alloc (by omega) _).setCell (by first | omega | (simp; omega)) _).setCell (by first | omega | (simp; omega)) _
      | exact hbw.alloc (by omega) _
    · obtain rfl : m5 = false := by rw [HQ5.out.1, decide_eq_false_iff_not]; omega
      have hn5 : 0 < n5 := by rw [HQ5.out.2]; exact Nat.pos_of_ne_zero fun e => by have := (digs_eq_nil (b := 10) (by decide)).1 (List.length_eq_zero_iff.1 e); omega
      have HC : Hid (cmpZ x y = 1) := Lib.hid (by unfold cmpZ; rw [if_neg (by omega), if_pos h])
      clear h HQ5
      go_wp2
      go_ret
      refine ⟨by rw [HC.out] <;> rfl, ?_⟩
      have hs := HVS.out
      have hz5 := HW5.out.size
      have hz4 := HW4.out.size
      have hbw := HVB.out.trans (HW5.out.mono (by omega))
      first
      | exact (hbw.setCell (by first | omega | (simp; omega)) _).setCell (by first | omega | (simp; omega)) _
      | exact ((hbw.alloc (by omega) _).setCell (by first | omega | (simp; omega)) _).setCell (by first | omega | (simp; omega)) _
      | exact hbw.alloc (by omega) _
end Go.Proofs.YtkpoegdcmnjedaaDoor
