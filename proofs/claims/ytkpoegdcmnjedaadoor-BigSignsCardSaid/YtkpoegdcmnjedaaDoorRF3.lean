import Derived.Test.YtkpoegdcmnjedaaDoorRE2
import Derived.Test.YtkpoegdcmnjedaaDoorMH3
namespace Go.Proofs.YtkpoegdcmnjedaaDoor
open Go.RowKit
set_option linter.unusedVariables false
set_option linter.unusedSimpArgs false

theorem four_cells2 {g h : Nat} {x0 x1 y0 y1 : Value} {W : World} (a : Box2 g x0 x1 W) (b : Box2 h y0 y1 W) :
    W.cell? ⟨g, 0, none⟩ = some x0 ∧ W.cell? ⟨g, 1, none⟩ = some x1 ∧ W.cell? ⟨h, 0, none⟩ = some y0 ∧ W.cell? ⟨h, 1, none⟩ = some y1 := ⟨a.c0, a.c1, b.c0, b.c1⟩
theorem Box2.far {g c j : Nat} {x0 x1 y : Value} {W : World} (h : Box2 g x0 x1 W) (hc : g ≠ c) : Box2 g x0 x1 (W.setCell ⟨c, j, none⟩ y) :=
  ⟨(far_set hc).trans h.c0, (far_set hc).trans h.c1, by rw [World.frozen?_setCell]; exact h.f0, by rw [World.frozen?_setCell]; exact h.f1⟩
theorem Box2.two {g : Nat} {x0 x1 : Value} {W : World} (h : Box2 g x0 x1 W) (y0 y1 : Value) : Box2 g y0 y1 ((W.setCell ⟨g, 0, none⟩ y0).setCell ⟨g, 1, none⟩ y1) := by
  have k0 := World.cell?_setCell_same W ⟨g, 0, none⟩ y0 h.c0
  have k1 : (W.setCell ⟨g, 0, none⟩ y0).cell? ⟨g, 1, none⟩ = some x1 := (World.cell?_setCell_other _ _ _ _ (by simp)).trans h.c1
  exact ⟨(World.cell?_setCell_other _ _ _ _ (by simp)).trans k0, World.cell?_setCell_same _ _ _ k1, by rw [World.frozen?_setCell, World.frozen?_setCell]; exact h.f0, by rw [World.frozen?_setCell, World.frozen?_setCell]; exact h.f1⟩
set_option maxHeartbeats 1000000 in
theorem ref_opposite_any {B : Nat} {W : World} {v : Value} {x : Int} (h : Qn B W v x) : Calls Tryd.prog 68 #[v] W fun e W' => (∃ v', e = .returned v' ∧ Qn B W' v' (-x)) ∧ Below W.heap.size W W' := by
  obtain ⟨m, a, n, p, rfl, hq, hn, hs, -⟩ := h.parts
  have HN := Lib.hid hn
  have HS := Lib.hid hs
  obtain ⟨V1, hV1, hbox1, vb1, vs1⟩ := box2_new W (.bool m) (.slice a n p)
  obtain ⟨V, hV, hbox, vb, vs⟩ := box2_new V1 (.bool false) (.slice none 0 0)
  rw [vs1] at hbox
  have HB1 := Lib.hid (hbox1.after vb)
  have HB2 := Lib.hid hbox
  have HVB := Lib.hid (vb1.trans (vb.mono (by omega)))
  have c0 := HB1.out.c0
  have c1 := HB1.out.c1
  have hVV : V = (W.alloc (Obj.cells #[.bool m, .slice a n p] 51)).alloc (Obj.cells #[.bool false, .slice none 0 0] 51) := by rw [hV, hV1]
  clear hbox vb hV hV1 hbox1 vb1 hq hn hs h
  go_enter Tryd.func68, Tryd.ntmps68
  go_upto_region 1 with (fail)
  rw [← hVV]
  clear hVV
  go_wp2_with (go_at_call 83; refine (ref_num_any _ _ _ _ _).mono ?_; rintro e w2 ⟨rfl, hb2⟩; have HW2 := Lib.hid hb2; have HX2 := Lib.hid (HB2.out.after hb2); obtain ⟨x0, x1, y0, y1⟩ := HX2.out; clear hb2)
  have hbb : Below W.heap.size W ((w2.setCell ⟨W.heap.size + 1, 0, none⟩ (.bool (!m && decide (0 < n)))).setCell ⟨W.heap.size + 1, 1, none⟩ (.slice a n p)) := ((HVB.out.trans (HW2.out.mono (by omega))).setCell (by simp) _).setCell (by simp) _
  refine bodyPost_ret (v := numR (!m && decide (0 < n)) (.slice a n p)) (by simp [results, Tryd.results68, go_sem, x0, x1]) rfl ⟨⟨_, rfl, ?_⟩, hbb⟩
  refine Qn.mk (a := x.natAbs) (HN.out.later hbb (Nat.le_refl _)) (by omega) ?_
  intro h0
  rw [HS.out]
  by_cases c : x < 0
  · rw [decide_eq_true c, decide_eq_false (by omega)]; rfl
  · rw [decide_eq_false c, decide_eq_true (by omega)]; rfl

/-- a Num's sign, and its digits. -/
theorem Qn.view {B : Nat} {W : World} {v : Value} {x : Int} (h : Qn B W v x) : ∃ m a n p, v = numR m (.slice a n p) ∧ N B W (.slice a n p) (digs 10 x.natAbs) ∧ Hid (m = decide (x < 0)) := by
  obtain ⟨m, a, n, p, e, _, h1, h2, _⟩ := h.parts
  exact ⟨m, a, n, p, e, h1, Lib.hid h2⟩
set_option maxRecDepth 100000 in
set_option maxHeartbeats 4000000 in
theorem ref_Plus_any {B B' : Nat} {W : World} {va vb : Value} {x y : Int} (ha : Qn B W va x) (hb : Qn B' W vb y) (hx : nt x.natAbs ≤ 1000000) (hy : nt y.natAbs ≤ 1000000) :
    Calls Tryd.prog 66 #[va, vb] W fun e W' => (∃ v, e = .returned v ∧ Qn W.heap.size W' v (x + y)) ∧ Below W.heap.size W W' := by
  obtain ⟨m1, a1, n1, p1, rfl, hm1, HS1⟩ := ha.view
  obtain ⟨m2, a2, n2, p2, rfl, hm2, HS2⟩ := hb.view
  obtain ⟨V, hV, v0, v1, v2, vb, vs⟩ := three_new W (Obj.cells #[.bool m1, .slice a1 n1 p1] 51) (Obj.cells #[.bool m2, .slice a2 n2 p2] 51) (Obj.cells #[.bool false, .slice none 0 0] 51)
  have HM1 := Lib.hid (hm1.later vb (Nat.le_refl _))
  have HM2 := Lib.hid (hm2.later vb (Nat.le_refl _))
  have HVB := Lib.hid vb
  have HX := Lib.hid hx
  have HY := Lib.hid hy
  have F0 := Lib.hid (And.intro (Box2.of v0) (And.intro (Box2.of v1) (show Box2 (W.heap.size + 1 + 1) _ _ V from Box2.of v2)))
  have c0 := F0.out.1.c0
  have d0 := F0.out.2.1.c0
  have hsg := signs HS1.out.symm HS2.out.symm
  clear hm1 hm2 vb v0 v1 v2 ha hb hx hy
  by_cases hs : m1 = m2
  · subst hs
    have HPH : Hid (∀ w', Below V.heap.size V w' → Calls Tryd.prog 114 #[.slice a1 n1 p1, .slice a2 n2 p2] w' fun e W' => (∃ v', e = .returned v' ∧ N w'.heap.size W' v' (digs 10 (x.natAbs + y.natAbs))) ∧ Below w'.heap.size w' W') := Lib.hid fun w' hb =>
      ref_plus_any (HM1.out.later hb (Nat.le_refl _)) (HM2.out.later hb (Nat.le_refl _)) HX.out HY.out
    have HPD : Hid (∀ w' : World, w' = V.drew → Calls Tryd.prog 114 #[.slice a1 n1 p1, .slice a2 n2 p2] w' fun e W' => (∃ v', e = .returned v' ∧ N w'.heap.size W' v' (digs 10 (x.natAbs + y.natAbs))) ∧ Below w'.heap.size w' W') := Lib.hid fun w' e => by subst e; exact HPH.out _ (Below.drew (Below.refl _ _))
    have HPE : Hid (∀ _u : World, Calls Tryd.prog 114 #[.slice a1 n1 p1, .slice a2 n2 p2] V.drew fun e W' => (∃ v', e = .returned v' ∧ N V.drew.heap.size W' v' (digs 10 (x.natAbs + y.natAbs))) ∧ Below V.drew.heap.size V.drew W') := Lib.hid fun _ => HPD.out _ rfl
    clear HPH HPD
    go_enter Tryd.func66, Tryd.ntmps66
    go_upto_region 1 with (fail)
    rw [← hV]
    clear hV
    go_upto_region 2 with (fail)
    go_region_held3 (fun w' => (w'.cell? ⟨W.heap.size, 0, none⟩ = some (.bool m1) ∧ w'.cell? ⟨W.heap.size, 1, none⟩ = some (.slice a1 n1 p1) ∧ w'.cell? ⟨W.heap.size + 1, 0, none⟩ = some (.bool m1) ∧ w'.cell? ⟨W.heap.size + 1, 1, none⟩ = some (.slice a2 n2 p2))) (with_reducible first | (with_reducible exact four_cells2 (F0.out.1.after (Below.drew (Below.refl _ _))) (F0.out.2.1.after (Below.drew (Below.refl _ _)))) | (with_reducible exact four_cells2 (F0.out.1.after (undrew hb5)) (F0.out.2.1.after (undrew hb5))) | (with_reducible exact four_cells2 ((F0.out.1.after (undrew hb5)).after hb6) ((F0.out.2.1.after (undrew hb5)).after hb6)) | (with_reducible exact four_cells2 ((((F0.out.1.after (undrew hb5)).after hb6).far (by omega)).far (by omega)) ((((F0.out.2.1.after (undrew hb5)).after hb6).far (by omega)).far (by omega)))) (first | (go_at_call 114; refine (HPE.out V.drew).mono ?_; rintro e w5 ⟨⟨v5, rfl, hm5⟩, hb5⟩; obtain ⟨a5, n5, p5, rfl⟩ := hm5.slice3) | (go_at_call 83; refine (ref_num_any _ _ _ _ _).mono ?_; rintro e w6 ⟨rfl, hb6⟩; obtain ⟨x0, x1, y0, y1⟩ := (F0.out.2.2.after (undrew hb5)).after hb6))
    go_wp2
    have B5 := undrew hb5
    have hvz : W.heap.size + 3 ≤ V.heap.size := by omega
    refine bodyPost_ret (v := numR (m1 && decide (0 < n5)) (.slice a5 n5 p5)) (by simp [results, Tryd.results66, go_sem, x0, x1]) rfl ⟨⟨_, rfl, ?_⟩, ?_⟩
    · refine Qn.mk ((((hm5.mono (B' := W.heap.size + 3) hvz).later hb6 (Nat.le_refl _)).setOther (by omega) 0 _).setOther (by omega) 1 _ |>.mono (by omega)) (by have h3 := hsg.1; have h4 := hsg.2; by_cases h : x < 0 <;> by_cases h2 : y < 0 <;> simp_all <;> omega) ?_
      intro h0
      have h3 := hsg.1; have h4 := hsg.2; rw [HS1.out]; by_cases h : x < 0 <;> by_cases h2 : y < 0 <;> simp_all <;> omega
    · exact (((HVB.out.trans (B5.mono (by omega))).trans (hb6.mono (by have := B5.size; omega))).setCell (show W.heap.size ≤ W.heap.size + 1 + 1 by omega) _).setCell (show W.heap.size ≤ W.heap.size + 1 + 1 by omega) _
  · have hbe : (m1 == m2) = false := by simpa using hs
    have hxor : (x < 0 ∧ 0 ≤ y) ∨ (0 ≤ x ∧ y < 0) := by
      by_cases h : x < 0 <;> by_cases h2 : y < 0 <;> cases m1 <;> cases m2 <;> simp_all
    have HC := Lib.hid (by
      have h := ref_order_any HM1.out HM2.out (digs_dig (by decide) _) (digs_dig (by decide) _) HX.out HY.out
      rw [val_digs (by decide), val_digs (by decide)] at h
      exact h)
    have c1 := F0.out.1.c1
    have d1 := F0.out.2.1.c1
    by_cases hlt : x.natAbs < y.natAbs
    · have hcm : cmpI x.natAbs y.natAbs = -1 := by unfold cmpI; rw [if_pos hlt]
      rw [hcm] at HC
      have HPE : Hid (∀ _u : World, Calls Tryd.prog 115 #[.slice a2 n2 p2, .slice a1 n1 p1] V.drew fun e W' => (∃ v', e = .returned v' ∧ N V.drew.heap.size W' v' (digs 10 (y.natAbs - x.natAbs))) ∧ Below V.drew.heap.size V.drew W') := Lib.hid fun _ =>
        ref_minus_any (HM2.out.later (Below.drew (Below.refl _ _)) (Nat.le_refl _)) (HM1.out.later (Below.drew (Below.refl _ _)) (Nat.le_refl _)) HY.out HX.out (by omega)
      go_enter Tryd.func66, Tryd.ntmps66
      go_upto_region 1 with (fail)
      rw [← hV]
      clear hV
      go_upto_region 5 with (go_at_call 82; refine HC.out.mono ?_; rintro e w4 ⟨rfl, rfl⟩)
      go_region_held3 (fun w' => (w'.cell? ⟨W.heap.size, 0, none⟩ = some (.bool m1) ∧ w'.cell? ⟨W.heap.size, 1, none⟩ = some (.slice a1 n1 p1) ∧ w'.cell? ⟨W.heap.size + 1, 0, none⟩ = some (.bool m2) ∧ w'.cell? ⟨W.heap.size + 1, 1, none⟩ = some (.slice a2 n2 p2))) (with_reducible first | (with_reducible exact four_cells2 (F0.out.1.after (Below.drew (Below.refl _ _))) (F0.out.2.1.after (Below.drew (Below.refl _ _)))) | (with_reducible exact four_cells2 (F0.out.1.after (undrew hb5)) (F0.out.2.1.after (undrew hb5))) | (with_reducible exact four_cells2 ((F0.out.1.after (undrew hb5)).after hb6) ((F0.out.2.1.after (undrew hb5)).after hb6)) | (with_reducible exact four_cells2 ((((F0.out.1.after (undrew hb5)).after hb6).far (by omega)).far (by omega)) ((((F0.out.2.1.after (undrew hb5)).after hb6).far (by omega)).far (by omega)))) (first | (go_at_call 115; refine (HPE.out V.drew).mono ?_; rintro e w5 ⟨⟨v5, rfl, hm5⟩, hb5⟩; obtain ⟨a5, n5, p5, rfl⟩ := hm5.slice3) | (go_at_call 83; refine (ref_num_any _ _ _ _ _).mono ?_; rintro e w6 ⟨rfl, hb6⟩; obtain ⟨x0, x1, y0, y1⟩ := (F0.out.2.2.after (undrew hb5)).after hb6))
      go_wp2
      have B5 := undrew hb5
      have hvz : W.heap.size + 3 ≤ V.heap.size := by omega
      refine bodyPost_ret (v := numR (m2 && decide (0 < n5)) (.slice a5 n5 p5)) (by simp [results, Tryd.results66, go_sem, x0, x1]) rfl ⟨⟨_, rfl, ?_⟩, ?_⟩
      · refine Qn.mk ((((hm5.mono (B' := W.heap.size + 3) hvz).later hb6 (Nat.le_refl _)).setOther (by omega) 0 _).setOther (by omega) 1 _ |>.mono (by omega)) (by omega) ?_
        intro h0
        rw [HS2.out]; congr 1; exact propext (by omega)
      · exact (((HVB.out.trans (B5.mono (by omega))).trans (hb6.mono (by have := B5.size; omega))).setCell (show W.heap.size ≤ W.heap.size + 1 + 1 by omega) _).setCell (show W.heap.size ≤ W.heap.size + 1 + 1 by omega) _
    · have hcm : 0 ≤ cmpI x.natAbs y.natAbs := by unfold cmpI; rw [if_neg hlt]; split <;> decide
      generalize cmpI x.natAbs y.natAbs = cc at HC hcm
      have HPE : Hid (∀ _u : World, Calls Tryd.prog 115 #[.slice a1 n1 p1, .slice a2 n2 p2] V.drew fun e W' => (∃ v', e = .returned v' ∧ N V.drew.heap.size W' v' (digs 10 (x.natAbs - y.natAbs))) ∧ Below V.drew.heap.size V.drew W') := Lib.hid fun _ =>
        ref_minus_any (HM1.out.later (Below.drew (Below.refl _ _)) (Nat.le_refl _)) (HM2.out.later (Below.drew (Below.refl _ _)) (Nat.le_refl _)) HX.out HY.out (by omega)
      go_enter Tryd.func66, Tryd.ntmps66
      go_upto_region 1 with (fail)
      rw [← hV]
      clear hV
      go_upto_region 4 with (go_at_call 82; refine HC.out.mono ?_; rintro e w4 ⟨rfl, rfl⟩)
      go_region_held3 (fun w' => (w'.cell? ⟨W.heap.size, 0, none⟩ = some (.bool m1) ∧ w'.cell? ⟨W.heap.size, 1, none⟩ = some (.slice a1 n1 p1) ∧ w'.cell? ⟨W.heap.size + 1, 0, none⟩ = some (.bool m2) ∧ w'.cell? ⟨W.heap.size + 1, 1, none⟩ = some (.slice a2 n2 p2))) (with_reducible first | (with_reducible exact four_cells2 (F0.out.1.after (Below.drew (Below.refl _ _))) (F0.out.2.1.after (Below.drew (Below.refl _ _)))) | (with_reducible exact four_cells2 (F0.out.1.after (undrew hb5)) (F0.out.2.1.after (undrew hb5))) | (with_reducible exact four_cells2 ((F0.out.1.after (undrew hb5)).after hb6) ((F0.out.2.1.after (undrew hb5)).after hb6)) | (with_reducible exact four_cells2 ((((F0.out.1.after (undrew hb5)).after hb6).far (by omega)).far (by omega)) ((((F0.out.2.1.after (undrew hb5)).after hb6).far (by omega)).far (by omega)))) (first | (go_at_call 115; refine (HPE.out V.drew).mono ?_; rintro e w5 ⟨⟨v5, rfl, hm5⟩, hb5⟩; obtain ⟨a5, n5, p5, rfl⟩ := hm5.slice3) | (go_at_call 83; refine (ref_num_any _ _ _ _ _).mono ?_; rintro e w6 ⟨rfl, hb6⟩; obtain ⟨x0, x1, y0, y1⟩ := (F0.out.2.2.after (undrew hb5)).after hb6))
      go_wp2
      have B5 := undrew hb5
      have hvz : W.heap.size + 3 ≤ V.heap.size := by omega
      refine bodyPost_ret (v := numR (m1 && decide (0 < n5)) (.slice a5 n5 p5)) (by simp [results, Tryd.results66, go_sem, x0, x1]) rfl ⟨⟨_, rfl, ?_⟩, ?_⟩
      · refine Qn.mk ((((hm5.mono (B' := W.heap.size + 3) hvz).later hb6 (Nat.le_refl _)).setOther (by omega) 0 _).setOther (by omega) 1 _ |>.mono (by omega)) (by omega) ?_
        intro h0
        rw [HS1.out]; congr 1; exact propext (by omega)
      · exact (((HVB.out.trans (B5.mono (by omega))).trans (hb6.mono (by have := B5.size; omega))).setCell (show W.heap.size ≤ W.heap.size + 1 + 1 by omega) _).setCell (show W.heap.size ≤ W.heap.size + 1 + 1 by omega) _
end Go.Proofs.YtkpoegdcmnjedaaDoor
namespace Go.Proofs.YtkpoegdcmnjedaaDoor
open Go.RowKit
set_option linter.unusedVariables false
set_option linter.unusedSimpArgs false

theorem Rn.set {B : Nat} {s : ByteArray} {W : World} {v : Value} (h : Rn B s W v) {b : Nat} (hb : b < B) (j : Nat) (y : Value) : Rn B s (W.setCell ⟨b, j, none⟩ y) v := by
  obtain ⟨x, h1, h2⟩ := h
  exact ⟨x, h1.set hb j y, h2⟩
theorem Rn.mono {B B' : Nat} {s : ByteArray} {W : World} {v : Value} (h : Rn B s W v) (hb : B' ≤ B) : Rn B' s W v := by
  obtain ⟨x, h1, h2⟩ := h
  exact ⟨x, h1.mono hb, h2⟩
theorem two_finR {g h : Nat} (hne : g ≠ h) {w : World} {a0 a1 b0 b1 : Value} (h1 : Box2 g a0 a1 w) (h2 : Box2 h b0 b1 w) (x0 x1 y0 y1 : Value) :
    ∃ w', w' = ((((w.setCell ⟨g, 0, none⟩ x0).setCell ⟨g, 1, none⟩ x1).setCell ⟨h, 0, none⟩ y0).setCell ⟨h, 1, none⟩ y1).drew ∧
      Box2 g x0 x1 w' ∧ Box2 h y0 y1 w' ∧ (∀ B W, Below B W w → B ≤ g → B ≤ h → Below B W w') ∧ (∀ B s v, Rn B s w v → g < B → h < B → Rn B s w' v) := by
  refine ⟨_, rfl, ?_, ?_, ?_, ?_⟩
  · exact Box2.after (((h1.two x0 x1).far hne).far hne) (Below.drew (Below.refl _ _))
  · exact Box2.after (((h2.far (Ne.symm hne)).far (Ne.symm hne)).two y0 y1) (Below.drew (Below.refl _ _))
  · intro B W hb hg hh
    exact Below.drew ((((hb.setCell hg _).setCell hg _).setCell hh _).setCell hh _)
  · intro B s v hr hg hh
    exact Rn.later ((((hr.set hg 0 _).set hg 1 _).set hh 0 _).set hh 1 _) (Below.drew (Below.refl _ _)) (Nat.le_refl _)
/-- what the reference's both tells. -/
def BoQ (a b : ByteArray) (W : World) (e : Ending) (W' : World) : Prop :=
  ∃ m1 ao1 n1 cap1 m2 ao2 n2 cap2, ∃ er : Int, e = .returned (.tuple #[numR m1 (.slice ao1 n1 cap1), numR m2 (.slice ao2 n2 cap2), .int .i64 er]) ∧
    ((¬ (IsNum a ∧ IsNum b) ∧ er = 2) ∨ ((IsNum a ∧ IsNum b) ∧ er = 0 ∧ Rn W.heap.size a W' (numR m1 (.slice ao1 n1 cap1)) ∧ Rn W.heap.size b W' (numR m2 (.slice ao2 n2 cap2)))) ∧ Below W.heap.size W W'
set_option maxRecDepth 100000 in
set_option maxHeartbeats 4000000 in
theorem ref_both_any (a b : ByteArray) (W : World) (ha : a.size ≤ 2000000) (hb : b.size ≤ 2000000) : Calls Tryd.prog 65 #[.string a, .string b] W (BoQ a b W) := by
  obtain ⟨V1, hV1, hbox1, vb1, vs1⟩ := box2_new W (.bool false) (.slice none 0 0)
  obtain ⟨V, hV, hbox, vb, vs⟩ := box2_new V1 (.bool false) (.slice none 0 0)
  rw [vs1] at hbox
  have HB1 := Lib.hid (hbox1.after vb)
  have HB2 := Lib.hid hbox
  have HVB := Lib.hid (vb1.trans (vb.mono (by omega)))
  have hvs : V.heap.size = W.heap.size + 2 := by omega
  have hVV : V = (W.alloc (Obj.cells #[.bool false, .slice none 0 0] 51)).alloc (Obj.cells #[.bool false, .slice none 0 0] 51) := by rw [hV, hV1]
  clear hbox vb hV hV1 hbox1 vb1
  go_enter Tryd.func65, Tryd.ntmps65
  go_upto_region 1 with (fail)
  rw [← hVV]
  clear hVV
  go_wp2_with fail
  refine (ref_Number_any a _ ha).mono ?_
  rintro e w2 hq
  obtain ⟨m1, ao1, n1, cap1, ok1, rfl, hok1, hr1, hb2⟩ := hq.read
  have HOK1 := Lib.hid hok1
  have HR1 := Lib.hid hr1
  have HBD2 := Lib.hid hb2
  clear hok1 hr1 hq hb2
  obtain ⟨V2, hV2, hbx7, vb2, vs2⟩ := box2_new w2 (.bool m1) (.slice ao1 n1 cap1)
  have HX7 := Lib.hid hbx7
  have HVB2 := Lib.hid vb2
  clear hbx7 vb2
  go_upto_region 2 with (fail)
  rw [← hV2]
  clear hV2
  go_wp2_with fail
  refine (ref_Number_any b _ hb).mono ?_
  rintro e w3 hq
  obtain ⟨m2, ao2, n2, cap2, ok2, rfl, hok2, hr2, hb3⟩ := hq.read
  have HOK2 := Lib.hid hok2
  have HR2 := Lib.hid hr2
  have HBD3 := Lib.hid hb3
  clear hok2 hr2 hq hb3
  obtain ⟨V3, hV3, hbx9, vb3, vs3⟩ := box2_new w3 (.bool m2) (.slice ao2 n2 cap2)
  have HX9 := Lib.hid hbx9
  have HVB3 := Lib.hid vb3
  clear hbx9 vb3
  go_upto_region 3 with (fail)
  rw [← hV3]
  clear hV3
  have s2 := HBD2.out.size
  have s3 := HBD3.out.size
  have HW23 : Hid (Below w2.heap.size w2 V3) := Lib.hid ((HVB2.out.trans (HBD3.out.mono (by omega))).trans (HVB3.out.mono (by omega)))
  have HWV : Hid (Below V.heap.size V V3) := Lib.hid (HBD2.out.trans (HW23.out.mono (by omega)))
  have HY4 := Lib.hid (HB1.out.after HWV.out)
  have HY5 := Lib.hid (HB2.out.after HWV.out)
  have HY7 := Lib.hid ((HX7.out.after HBD3.out).after HVB3.out)
  have HWW : Hid (Below W.heap.size W V3) := Lib.hid (HVB.out.trans (HWV.out.mono (by omega)))
  cases ok1
  · have HN : Hid (¬ (IsNum a ∧ IsNum b)) := Lib.hid fun h => by have := HOK1.out.2 h.1; cases this
    obtain ⟨x0, x1, x2, x3⟩ := HY4.out
    obtain ⟨y0, y1, y2, y3⟩ := HY5.out
    have HF4 := Lib.hid ((((HY4.out.two (.bool false) (.slice none 0 0)).far (c := W.heap.size + 1) (j := 0) (y := .bool false) (by omega))).far (c := W.heap.size + 1) (j := 1) (y := .slice none 0 0) (by omega))
    have HF5 := Lib.hid (((HY5.out.far (c := W.heap.size) (j := 0) (y := .bool false) (by omega)).far (c := W.heap.size) (j := 1) (y := .slice none 0 0) (by omega)).two (.bool false) (.slice none 0 0))
    go_wp2
    obtain ⟨p0, p1, -, -⟩ := HF4.out
    obtain ⟨q0, q1, -, -⟩ := HF5.out
    exact bodyPost_ret (v := .tuple #[numR false (.slice none 0 0), numR false (.slice none 0 0), .int .i64 2]) (by simp [results, Tryd.results65, go_sem, p0, p1, q0, q1]) rfl ⟨_, _, _, _, _, _, _, _, 2, rfl, Or.inl ⟨HN.out, rfl⟩, (((HWW.out.setCell (show W.heap.size ≤ W.heap.size by omega) _).setCell (show W.heap.size ≤ W.heap.size by omega) _).setCell (show W.heap.size ≤ W.heap.size + 1 by omega) _).setCell (show W.heap.size ≤ W.heap.size + 1 by omega) _⟩
  · cases ok2
    · have HN : Hid (¬ (IsNum a ∧ IsNum b)) := Lib.hid fun h => by have := HOK2.out.2 h.2; cases this
      obtain ⟨x0, x1, x2, x3⟩ := HY4.out
      obtain ⟨y0, y1, y2, y3⟩ := HY5.out
      have HF4 := Lib.hid ((((HY4.out.two (.bool false) (.slice none 0 0)).far (c := W.heap.size + 1) (j := 0) (y := .bool false) (by omega))).far (c := W.heap.size + 1) (j := 1) (y := .slice none 0 0) (by omega))
      have HF5 := Lib.hid (((HY5.out.far (c := W.heap.size) (j := 0) (y := .bool false) (by omega)).far (c := W.heap.size) (j := 1) (y := .slice none 0 0) (by omega)).two (.bool false) (.slice none 0 0))
      go_wp2
      obtain ⟨p0, p1, -, -⟩ := HF4.out
      obtain ⟨q0, q1, -, -⟩ := HF5.out
      exact bodyPost_ret (v := .tuple #[numR false (.slice none 0 0), numR false (.slice none 0 0), .int .i64 2]) (by simp [results, Tryd.results65, go_sem, p0, p1, q0, q1]) rfl ⟨_, _, _, _, _, _, _, _, 2, rfl, Or.inl ⟨HN.out, rfl⟩, (((HWW.out.setCell (show W.heap.size ≤ W.heap.size by omega) _).setCell (show W.heap.size ≤ W.heap.size by omega) _).setCell (show W.heap.size ≤ W.heap.size + 1 by omega) _).setCell (show W.heap.size ≤ W.heap.size + 1 by omega) _⟩
    · have HI : Hid (IsNum a ∧ IsNum b) := Lib.hid ⟨HOK1.out.1 rfl, HOK2.out.1 rfl⟩
      have HRA : Hid (Rn (W.heap.size + 2) a V3 (numR m1 (.slice ao1 n1 cap1))) := Lib.hid (((HR1.out HI.out.1).mono (by omega)).later HW23.out (Nat.le_refl _))
      have HRB : Hid (Rn (W.heap.size + 2) b V3 (numR m2 (.slice ao2 n2 cap2))) := Lib.hid (((HR2.out HI.out.2).mono (by omega)).later HVB3.out (Nat.le_refl _))
      obtain ⟨w', hw', hf1, hf2, hfb, hfr⟩ := two_finR (g := W.heap.size) (h := W.heap.size + 1) (by omega) HY4.out HY5.out (.bool m1) (.slice ao1 n1 cap1) (.bool m2) (.slice ao2 n2 cap2)
      have HF1 := Lib.hid hf1
      have HF2 := Lib.hid hf2
      have HFB := Lib.hid (hfb _ _ HWW.out (Nat.le_refl _) (Nat.le_succ _))
      have HFA := Lib.hid ((hfr _ _ _ HRA.out (by omega) (by omega)).mono (B' := W.heap.size) (by omega))
      have HFC := Lib.hid ((hfr _ _ _ HRB.out (by omega) (by omega)).mono (B' := W.heap.size) (by omega))
      have HW' := Lib.hid hw'
      clear hf1 hf2 hfb hfr hw'
      obtain ⟨x0, x1, x2, x3⟩ := HY4.out
      obtain ⟨y0, y1, y2, y3⟩ := HY5.out
      obtain ⟨z0, z1, z2, z3⟩ := HY7.out
      obtain ⟨t0, t1, t2, t3⟩ := HX9.out
      go_upto_region 5 with (fail)
      go_region
      rw [← HW'.out]
      obtain ⟨p0, p1, -, -⟩ := HF1.out
      obtain ⟨q0, q1, -, -⟩ := HF2.out
      go_wp2_with fail
      exact bodyPost_ret (v := .tuple #[numR m1 (.slice ao1 n1 cap1), numR m2 (.slice ao2 n2 cap2), .int .i64 0]) (by simp [results, Tryd.results65, go_sem, p0, p1, q0, q1]) rfl ⟨_, _, _, _, _, _, _, _, 0, rfl, Or.inr ⟨HI.out, rfl, HFA.out, HFC.out⟩, HFB.out⟩
end Go.Proofs.YtkpoegdcmnjedaaDoor
namespace Go.Proofs.YtkpoegdcmnjedaaDoor
open Go.RowKit
set_option linter.unusedVariables false
set_option linter.unusedSimpArgs false

/-- two Nums in a row. -/
structure Two4 (g : Nat) (m1 : Bool) (s1 : Value) (m2 : Bool) (s2 : Value) (W : World) : Prop where
  lt : g < W.heap.size
  c0 : W.cell? ⟨g, 0, none⟩ = some (.bool m1)
  c1 : W.cell? ⟨g, 1, none⟩ = some s1
  c2 : W.cell? ⟨g, 2, none⟩ = some (.bool m2)
  c3 : W.cell? ⟨g, 3, none⟩ = some s2
theorem Two4.after {g : Nat} {m1 m2 : Bool} {s1 s2 : Value} {W W' : World} (h : Two4 g m1 s1 m2 s2 W) (hb : Below W.heap.size W W') : Two4 g m1 s1 m2 s2 W' :=
  ⟨Nat.lt_of_lt_of_le h.lt hb.size, cell_after hb h.c0, cell_after hb h.c1, cell_after hb h.c2, cell_after hb h.c3⟩
theorem Two4.new (W : World) (m1 m2 : Bool) (s1 s2 : Value) : Two4 W.heap.size m1 s1 m2 s2 (W.alloc (Obj.cells #[.bool m1, s1, .bool m2, s2] 51)) := by
  have h := heap_alloc_new W (Obj.cells #[.bool m1, s1, .bool m2, s2] 51)
  exact ⟨by simp, (cell_of_row _ _ _ _ _ _ h).trans rfl, (cell_of_row _ _ _ _ _ _ h).trans rfl, (cell_of_row _ _ _ _ _ _ h).trans rfl, (cell_of_row _ _ _ _ _ _ h).trans rfl⟩
theorem long_is {x : Int} {b : Bool} (h : decide (Lim ≤ x.natAbs) = b) : ∀ (B : Nat) (w : World) (v : Value), Qn B w v x → Calls Tryd.prog 86 #[v] w fun e W' => e = .returned (.bool b) ∧ Below w.heap.size w W' := by
  intro B w v hq
  have := ref_Long_any hq
  rwa [h] at this
set_option maxRecDepth 100000 in
set_option maxHeartbeats 4000000 in
/-- told of a number, with two others. -/
theorem ref_told_two {B B1 B2 g : Nat} {W : World} {v : Value} {x x1 x2 : Int} {m1 m2 : Bool} {a1 a2 : Option Addr} {n1 n2 p1 p2 : Nat} (h : Qn B W v x) (h1 : Qn B1 W (numR m1 (.slice a1 n1 p1)) x1) (h2 : Qn B2 W (numR m2 (.slice a2 n2 p2)) x2) (ht : Two4 g m1 (.slice a1 n1 p1) m2 (.slice a2 n2 p2) W) :
    Calls Tryd.prog 61 #[v, .slice (some ⟨g, 0, none⟩) 2 2] W fun e W' => ((Lim ≤ x1.natAbs ∨ Lim ≤ x2.natAbs) ∧ e = .returned (.tuple #[.string ⟨#[]⟩, .int .i64 4]) ∨ (x1.natAbs < Lim ∧ x2.natAbs < Lim) ∧ e = .returned (.tuple #[.string (toldS x), .int .i64 (toldE x)])) ∧ Below W.heap.size W W' := by
  obtain ⟨m, a, n, p, rfl, hq, -, -, -⟩ := h.parts
  obtain ⟨V, hV, hbox, vb, vs⟩ := box2_new W (.bool m) (.slice a n p)
  have HBX := Lib.hid hbox
  have HVB := Lib.hid vb
  have HQ := Lib.hid (hq.later vb (Nat.le_refl _))
  have H1 := Lib.hid (h1.later vb (Nat.le_refl _))
  have H2 := Lib.hid (h2.later vb (Nat.le_refl _))
  have HT := Lib.hid (ht.after vb)
  obtain ⟨hlt, k0, k1, k2, k3⟩ := HT.out
  obtain ⟨b1, hb1⟩ : ∃ b, decide (Lim ≤ x1.natAbs) = b := ⟨_, rfl⟩
  obtain ⟨b2, hb2⟩ : ∃ b, decide (Lim ≤ x2.natAbs) = b := ⟨_, rfl⟩
  obtain ⟨b0, hb0⟩ : ∃ b, decide (Lim ≤ x.natAbs) = b := ⟨_, rfl⟩
  have HL1 := Lib.hid (long_is hb1)
  have HL2 := Lib.hid (long_is hb2)
  have HL0 := Lib.hid (long_is hb0)
  have HD1 := Lib.hid hb1
  have HD2 := Lib.hid hb2
  have HD0 := Lib.hid hb0
  clear hbox vb hq h h1 h2 ht hb1 hb2 hb0
  have hz := HVB.out.size
  cases b1
  · cases b2
    · have HE : Hid (x1.natAbs < Lim ∧ x2.natAbs < Lim) := Lib.hid ⟨by have := of_decide_eq_false HD1.out; omega, by have := of_decide_eq_false HD2.out; omega⟩
      cases b0
      · have hl : x.natAbs < Lim := by have := of_decide_eq_false HD0.out; omega
        have HS : Hid (toldS x = ren x ∧ toldE x = 0) := Lib.hid (by unfold toldS toldE; rw [if_pos hl, if_pos hl]; exact ⟨rfl, rfl⟩)
        have HNT : Hid (nt x.natAbs ≤ 1000000) := Lib.hid (by have := nt_lim' (n := x.natAbs); omega)
        clear hl
        rw [HS.out.1, HS.out.2]
        go_enter Tryd.func61, Tryd.ntmps61
        go_upto_region 1 with (fail)
        rw [← hV]
        clear hV
        go_wp2
        refine wp_loop_rounds 3 ?_
        rw [rounds_succ]
        go_wp2_with fail
        refine (HL1.out _ _ _ (H1.out.later ((Below.refl _ _).alloc (Nat.le_refl _) _) (Nat.le_refl _))).mono ?_
        rintro e w2 ⟨rfl, hb2⟩
        have HW2 : Hid (Below V.heap.size V w2) := Lib.hid (((Below.refl _ _).alloc (Nat.le_refl _) _).trans (hb2.mono (by simp)))
        clear hb2
        obtain ⟨hlt2, l0, l1, l2, l3⟩ := HT.out.after HW2.out
        clear k0 k1 k2 k3
        go_wp2
        rw [rounds_succ]
        go_wp2_with fail
        refine (HL2.out _ _ _ ((H2.out.later HW2.out (Nat.le_refl _)).later ((Below.refl _ _).alloc (Nat.le_refl _) _) (Nat.le_refl _))).mono ?_
        rintro e w3 ⟨rfl, hb3⟩
        have HW3 : Hid (Below V.heap.size V w3) := Lib.hid (HW2.out.trans (((Below.refl _ _).alloc (Nat.le_refl _) _).trans (hb3.mono (by simp)) |>.mono HW2.out.size))
        clear hb3
        have HBX3 := Lib.hid (HBX.out.after HW3.out)
        obtain ⟨c0, c1, -, -⟩ := HBX3.out
        clear l0 l1 l2 l3
        go_wp2
        rw [rounds_succ]
        go_wp2_with fail
        refine (HL0.out _ _ _ (HQ.out.later HW3.out (Nat.le_refl _))).mono ?_
        rintro e w4 ⟨rfl, hb4⟩
        have HW4 : Hid (Below V.heap.size V w4) := Lib.hid (HW3.out.trans (hb4.mono HW3.out.size))
        have d0 := cell_after hb4 c0
        have d1 := cell_after hb4 c1
        clear hb4
        go_wp2_with fail
        refine (ref_Text_any (HQ.out.later HW4.out (Nat.le_refl _)) HNT.out).mono ?_
        rintro e w5 ⟨rfl, hb5⟩
        have HW5 : Hid (Below V.heap.size V w5) := Lib.hid (HW4.out.trans (hb5.mono HW4.out.size))
        clear hb5
        go_wp2
        go_ret2
        exact ⟨Or.inr ⟨HE.out, rfl⟩, HVB.out.trans (HW5.out.mono hz)⟩
      · have hl : ¬ x.natAbs < Lim := by have := of_decide_eq_true HD0.out; omega
        have HS : Hid (toldS x = ⟨#[]⟩ ∧ toldE x = 4) := Lib.hid (by unfold toldS toldE; rw [if_neg hl, if_neg hl]; exact ⟨rfl, rfl⟩)
        clear hl
        rw [HS.out.1, HS.out.2]
        go_enter Tryd.func61, Tryd.ntmps61
        go_upto_region 1 with (fail)
        rw [← hV]
        clear hV
        go_wp2
        refine wp_loop_rounds 3 ?_
        rw [rounds_succ]
        go_wp2_with fail
        refine (HL1.out _ _ _ (H1.out.later ((Below.refl _ _).alloc (Nat.le_refl _) _) (Nat.le_refl _))).mono ?_
        rintro e w2 ⟨rfl, hb2⟩
        have HW2 : Hid (Below V.heap.size V w2) := Lib.hid (((Below.refl _ _).alloc (Nat.le_refl _) _).trans (hb2.mono (by simp)))
        clear hb2
        obtain ⟨hlt2, l0, l1, l2, l3⟩ := HT.out.after HW2.out
        clear k0 k1 k2 k3
        go_wp2
        rw [rounds_succ]
        go_wp2_with fail
        refine (HL2.out _ _ _ ((H2.out.later HW2.out (Nat.le_refl _)).later ((Below.refl _ _).alloc (Nat.le_refl _) _) (Nat.le_refl _))).mono ?_
        rintro e w3 ⟨rfl, hb3⟩
        have HW3 : Hid (Below V.heap.size V w3) := Lib.hid (HW2.out.trans (((Below.refl _ _).alloc (Nat.le_refl _) _).trans (hb3.mono (by simp)) |>.mono HW2.out.size))
        clear hb3
        have HBX3 := Lib.hid (HBX.out.after HW3.out)
        obtain ⟨c0, c1, -, -⟩ := HBX3.out
        clear l0 l1 l2 l3
        go_wp2
        rw [rounds_succ]
        go_wp2_with fail
        refine (HL0.out _ _ _ (HQ.out.later HW3.out (Nat.le_refl _))).mono ?_
        rintro e w4 ⟨rfl, hb4⟩
        have HW4 : Hid (Below V.heap.size V w4) := Lib.hid (HW3.out.trans (hb4.mono HW3.out.size))
        have d0 := cell_after hb4 c0
        have d1 := cell_after hb4 c1
        clear hb4
        go_wp2
        go_ret2
        exact ⟨Or.inr ⟨HE.out, rfl⟩, HVB.out.trans (HW4.out.mono hz)⟩
    · have HE : Hid (Lim ≤ x1.natAbs ∨ Lim ≤ x2.natAbs) := Lib.hid (Or.inr (of_decide_eq_true HD2.out))
      go_enter Tryd.func61, Tryd.ntmps61
      go_upto_region 1 with (fail)
      rw [← hV]
      clear hV
      go_wp2
      refine wp_loop_rounds 3 ?_
      rw [rounds_succ]
      go_wp2_with fail
      refine (HL1.out _ _ _ (H1.out.later ((Below.refl _ _).alloc (Nat.le_refl _) _) (Nat.le_refl _))).mono ?_
      rintro e w2 ⟨rfl, hb2⟩
      have HW2 : Hid (Below V.heap.size V w2) := Lib.hid (((Below.refl _ _).alloc (Nat.le_refl _) _).trans (hb2.mono (by simp)))
      clear hb2
      obtain ⟨hlt2, l0, l1, l2, l3⟩ := HT.out.after HW2.out
      clear k0 k1 k2 k3
      go_wp2
      rw [rounds_succ]
      go_wp2_with fail
      refine (HL2.out _ _ _ ((H2.out.later HW2.out (Nat.le_refl _)).later ((Below.refl _ _).alloc (Nat.le_refl _) _) (Nat.le_refl _))).mono ?_
      rintro e w3 ⟨rfl, hb3⟩
      have HW3 : Hid (Below V.heap.size V w3) := Lib.hid (HW2.out.trans (((Below.refl _ _).alloc (Nat.le_refl _) _).trans (hb3.mono (by simp)) |>.mono HW2.out.size))
      clear hb3
      go_wp2
      go_ret2
      exact ⟨Or.inl ⟨HE.out, rfl⟩, HVB.out.trans (HW3.out.mono hz)⟩
  · have HE : Hid (Lim ≤ x1.natAbs ∨ Lim ≤ x2.natAbs) := Lib.hid (Or.inl (of_decide_eq_true HD1.out))
    go_enter Tryd.func61, Tryd.ntmps61
    go_upto_region 1 with (fail)
    rw [← hV]
    clear hV
    go_wp2
    refine wp_loop_rounds 3 ?_
    rw [rounds_succ]
    go_wp2_with fail
    refine (HL1.out _ _ _ (H1.out.later ((Below.refl _ _).alloc (Nat.le_refl _) _) (Nat.le_refl _))).mono ?_
    rintro e w2 ⟨rfl, hb2⟩
    have HW2 : Hid (Below V.heap.size V w2) := Lib.hid (((Below.refl _ _).alloc (Nat.le_refl _) _).trans (hb2.mono (by simp)))
    clear hb2
    go_wp2
    go_ret2
    exact ⟨Or.inl ⟨HE.out, rfl⟩, HVB.out.trans (HW2.out.mono hz)⟩
end Go.Proofs.YtkpoegdcmnjedaaDoor
