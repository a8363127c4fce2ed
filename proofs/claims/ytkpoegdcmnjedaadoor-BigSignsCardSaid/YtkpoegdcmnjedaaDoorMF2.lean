import Derived.Test.YtkpoegdcmnjedaaDoorME2
import Derived.Deep.RegionHeld3
import Derived.RegionTactic
import Derived.BigRegion
import Derived.Deep.Cut
namespace Go.Proofs.YtkpoegdcmnjedaaDoor
open Go.RowKit
set_option linter.unusedVariables false
set_option linter.unusedSimpArgs false

/-! ### numbers -/
abbrev numV (m : Bool) (v : Value) (lg od : Bool) : Value := .agg #[.bool m, v, .bool lg, .bool od]
theorem cell_after {W W' : World} {a : Addr} {v : Value} (hb : Below W.heap.size W W') (h : W.cell? a = some v) : W'.cell? a = some v := by
  have hlt : a.block < W.heap.size := World.block_lt_of_cell? W a h
  exact (hb.cell (p := a) hlt).trans h
theorem free_after {W W' : World} {a : Addr} (hb : Below W.heap.size W W') (hlt : a.block < W.heap.size) (h : W.frozen? a = false) : W'.frozen? a = false := (hb.frozen (p := a) hlt).trans h
theorem undrew {V W : World} (h : Below V.drew.heap.size V.drew W) : Below V.heap.size V W := ⟨h.os, h.tape, h.output, h.size, h.block⟩
/-- a struct's variable: four cells that may be written. -/
structure Box4 (g : Nat) (x0 x1 x2 x3 : Value) (W : World) : Prop where
  c0 : W.cell? ⟨g, 0, none⟩ = some x0
  c1 : W.cell? ⟨g, 1, none⟩ = some x1
  c2 : W.cell? ⟨g, 2, none⟩ = some x2
  c3 : W.cell? ⟨g, 3, none⟩ = some x3
  f0 : W.frozen? ⟨g, 0, none⟩ = false
  f1 : W.frozen? ⟨g, 1, none⟩ = false
  f2 : W.frozen? ⟨g, 2, none⟩ = false
  f3 : W.frozen? ⟨g, 3, none⟩ = false
theorem Box4.of {g : Nat} {x0 x1 x2 x3 : Value} {W : World} (h : W.heap[g]? = some (.cells #[x0, x1, x2, x3] 46 (0, 0))) : Box4 g x0 x1 x2 x3 W :=
  ⟨(cell_of_row _ _ _ _ _ _ h).trans rfl, (cell_of_row _ _ _ _ _ _ h).trans rfl, (cell_of_row _ _ _ _ _ _ h).trans rfl, (cell_of_row _ _ _ _ _ _ h).trans rfl, frozen_of_row _ _ _ _ _ h, frozen_of_row _ _ _ _ _ h, frozen_of_row _ _ _ _ _ h, frozen_of_row _ _ _ _ _ h⟩
theorem Box4.after {g : Nat} {x0 x1 x2 x3 : Value} {W W' : World} (h : Box4 g x0 x1 x2 x3 W) (hb : Below W.heap.size W W') : Box4 g x0 x1 x2 x3 W' := by
  have hlt : g < W.heap.size := World.block_lt_of_cell? W ⟨g, 0, none⟩ h.c0
  exact ⟨cell_after hb h.c0, cell_after hb h.c1, cell_after hb h.c2, cell_after hb h.c3, free_after hb hlt h.f0, free_after hb hlt h.f1, free_after hb hlt h.f2, free_after hb hlt h.f3⟩
theorem far_set {W : World} {g c j k : Nat} {x : Value} (h : c ≠ g) : (W.setCell ⟨g, j, none⟩ x).cell? ⟨c, k, none⟩ = W.cell? ⟨c, k, none⟩ := World.cell?_of_block (heap_setCell_other _ _ _ _ (by simpa using h))
theorem four_far {W : World} {g c k : Nat} {x0 x1 x2 x3 v : Value} (h : c ≠ g) (hv : W.cell? ⟨c, k, none⟩ = some v) :
    ((((W.setCell ⟨g, 0, none⟩ x0).setCell ⟨g, 1, none⟩ x1).setCell ⟨g, 2, none⟩ x2).setCell ⟨g, 3, none⟩ x3).cell? ⟨c, k, none⟩ = some v := by
  rw [far_set h, far_set h, far_set h, far_set h]; exact hv
theorem M.four {B : Nat} {W : World} {v : Value} {l : List Nat} (h : M B W v l) {g : Nat} (hg : g < B) (x0 x1 x2 x3 : Value) :
    M B ((((W.setCell ⟨g, 0, none⟩ x0).setCell ⟨g, 1, none⟩ x1).setCell ⟨g, 2, none⟩ x2).setCell ⟨g, 3, none⟩ x3) v l :=
  (((h.setOther hg 0 x0).setOther hg 1 x1).setOther hg 2 x2).setOther hg 3 x3
theorem below_four {B : Nat} {W0 W : World} (h : Below B W0 W) {g : Nat} (hg : B ≤ g) (x0 x1 x2 x3 : Value) :
    Below B W0 ((((W.setCell ⟨g, 0, none⟩ x0).setCell ⟨g, 1, none⟩ x1).setCell ⟨g, 2, none⟩ x2).setCell ⟨g, 3, none⟩ x3) :=
  (((h.setCell hg _).setCell hg _).setCell hg _).setCell hg _
theorem info46 : (Tryd.prog.info? 46).map (fun i => i.size) = some 4 := by kernel_rfl

set_option maxHeartbeats 1000000 in
theorem signed_any (m lg od k : Bool) (ao : Option Addr) (n cap : Nat) (w : World) :
    Calls Tryd.prog 80 #[numV m (.slice ao n cap) lg od, .bool k] w fun e w' => e = .returned (numV (k && (lg || decide (0 < n))) (.slice ao n cap) lg od) ∧ Below w.heap.size w w' := by
  have fin : ∀ (V W' : World), True := fun _ _ => trivial
  cases k
  · go_enter Tryd.func80, Tryd.ntmps80
    go_wp2
    exact bodyPost_ret (v := numV false (.slice ao n cap) lg od) (by simp [results, Tryd.results80, go_sem, numV]) rfl ⟨rfl, (by (repeat (first | exact Below.refl _ _ | (refine Below.setCell ?_ (by first | omega | (simp; done) | (simp; omega)) _) | (refine Below.alloc ?_ (by first | omega | (simp; done) | (simp; omega)) _) | refine Below.drew ?_)))⟩
  · cases lg
    · by_cases hn : 0 < n
      · go_enter Tryd.func80, Tryd.ntmps80
        go_wp2
        exact bodyPost_ret (v := numV true (.slice ao n cap) false od) (by simp [results, Tryd.results80, go_sem, numV]) rfl ⟨by simp [hn, numV], (by (repeat (first | exact Below.refl _ _ | (refine Below.setCell ?_ (by first | omega | (simp; done) | (simp; omega)) _) | (refine Below.alloc ?_ (by first | omega | (simp; done) | (simp; omega)) _) | refine Below.drew ?_)))⟩
      · obtain rfl : n = 0 := by omega
        go_enter Tryd.func80, Tryd.ntmps80
        go_wp2
        exact bodyPost_ret (v := numV false (.slice ao 0 cap) false od) (by simp [results, Tryd.results80, go_sem, numV]) rfl ⟨by simp [numV], (by (repeat (first | exact Below.refl _ _ | (refine Below.setCell ?_ (by first | omega | (simp; done) | (simp; omega)) _) | (refine Below.alloc ?_ (by first | omega | (simp; done) | (simp; omega)) _) | refine Below.drew ?_)))⟩
    · go_enter Tryd.func80, Tryd.ntmps80
      go_wp2
      exact bodyPost_ret (v := numV true (.slice ao n cap) true od) (by simp [results, Tryd.results80, go_sem, numV]) rfl ⟨by simp [numV], (by (repeat (first | exact Below.refl _ _ | (refine Below.setCell ?_ (by first | omega | (simp; done) | (simp; omega)) _) | (refine Below.alloc ?_ (by first | omega | (simp; done) | (simp; omega)) _) | refine Below.drew ?_)))⟩
end Go.Proofs.YtkpoegdcmnjedaaDoor
namespace Go.Proofs.YtkpoegdcmnjedaaDoor
open Go.RowKit
set_option linter.unusedVariables false
set_option linter.unusedSimpArgs false

/-- a number that is not too long. -/
def Nm (K : Nat) (W : World) (v : Value) (x : Int) : Prop :=
  ∃ ao n cap od, v = numV (decide (x < 0)) (.slice ao n cap) false od ∧ M 0 W (.slice ao n cap) (digs B32 x.natAbs) ∧ nd x.natAbs ≤ K
theorem Nm.later {K k : Nat} {W W' : World} {v : Value} {x : Int} (h : Nm K W v x) (hb : Below k W W') (hk : W.heap.size ≤ k) : Nm K W' v x := by
  obtain ⟨ao, n, cap, od, h1, h2, h3⟩ := h
  exact ⟨ao, n, cap, od, h1, h2.later hb hk, h3⟩
theorem Nm.mk {K : Nat} {W : World} {ao : Option Addr} {n cap : Nat} {od k : Bool} {a : Nat} {x : Int} (h : M 0 W (.slice ao n cap) (digs B32 a)) (ha : x.natAbs = a) (hk : a ≠ 0 → k = decide (x < 0)) (hn : nd a ≤ K) :
    Nm K W (numV (k && (false || decide (0 < n))) (.slice ao n cap) false od) x := by
  refine ⟨ao, n, cap, od, ?_, by rw [ha]; exact h, by rw [ha]; exact hn⟩
  have e : (k && (false || decide (0 < n))) = decide (x < 0) := by
    have hlen : n = nd a := h.len
    by_cases h0 : a = 0
    · have h1 : n = 0 := by rw [hlen, h0]; exact nd_zero.2 rfl
      have h2 : x = 0 := by omega
      simp [h1, h2]
    · have h1 : 0 < n := by rw [hlen]; exact Nat.pos_of_ne_zero fun e => h0 (nd_zero.1 e)
      rw [hk h0]; simp [h1]
  rw [e]
/-- a number that is not too long, its digits in memory from B on. -/
def NmB (B K : Nat) (W : World) (v : Value) (x : Int) : Prop :=
  ∃ ao n cap od, v = numV (decide (x < 0)) (.slice ao n cap) false od ∧ M B W (.slice ao n cap) (digs B32 x.natAbs) ∧ nd x.natAbs ≤ K
theorem NmB.nm {B K : Nat} {W : World} {v : Value} {x : Int} (h : NmB B K W v x) : Nm K W v x := by
  obtain ⟨ao, n, cap, od, h1, h2, h3⟩ := h
  exact ⟨ao, n, cap, od, h1, h2.mono (Nat.zero_le _), h3⟩
theorem NmB.mono {B B' K : Nat} {W : World} {v : Value} {x : Int} (h : NmB B K W v x) (hb : B' ≤ B) : NmB B' K W v x := by
  obtain ⟨ao, n, cap, od, h1, h2, h3⟩ := h
  exact ⟨ao, n, cap, od, h1, h2.mono hb, h3⟩
theorem NmB.later {B K k : Nat} {W W' : World} {v : Value} {x : Int} (h : NmB B K W v x) (hb : Below k W W') (hk : W.heap.size ≤ k) : NmB B K W' v x := by
  obtain ⟨ao, n, cap, od, h1, h2, h3⟩ := h
  exact ⟨ao, n, cap, od, h1, h2.later hb hk, h3⟩
theorem NmB.four {B K : Nat} {W : World} {v : Value} {x : Int} (h : NmB B K W v x) {g : Nat} (hg : g < B) (x0 x1 x2 x3 : Value) :
    NmB B K ((((W.setCell ⟨g, 0, none⟩ x0).setCell ⟨g, 1, none⟩ x1).setCell ⟨g, 2, none⟩ x2).setCell ⟨g, 3, none⟩ x3) v x := by
  obtain ⟨ao, n, cap, od, h1, h2, h3⟩ := h
  exact ⟨ao, n, cap, od, h1, h2.four hg _ _ _ _, h3⟩
theorem NmB.mk {B K : Nat} {W : World} {ao : Option Addr} {n cap : Nat} {od k : Bool} {a : Nat} {x : Int} (h : M B W (.slice ao n cap) (digs B32 a)) (ha : x.natAbs = a) (hk : a ≠ 0 → k = decide (x < 0)) (hn : nd a ≤ K) :
    NmB B K W (numV (k && (false || decide (0 < n))) (.slice ao n cap) false od) x := by
  obtain ⟨ao', n', cap', od', h1, h2, h3⟩ := Nm.mk (h.mono (Nat.zero_le _)) ha hk hn (od := od)
  refine ⟨ao, n, cap, od, ?_, by rw [ha]; exact h, by rw [ha]; exact hn⟩
  have h4 := h1
  simp only [numV, Value.agg.injEq, Array.mk.injEq, List.cons.injEq, Value.bool.injEq] at h4
  rw [h4.1]
theorem nd_mono {a b : Nat} (h : a ≤ b) : nd a ≤ nd b := (digs_length_le (by decide)).2 (Nat.lt_of_le_of_lt h ((digs_length_le (by decide)).1 (Nat.le_refl _)))
theorem lt_nd {a : Nat} : a < B32 ^ nd a := (digs_length_le (by decide)).1 (Nat.le_refl _)
theorem nd_add (a b : Nat) {K : Nat} (ha : nd a ≤ K) (hb : nd b ≤ K) : nd (a + b) ≤ K + 1 := by
  refine (digs_length_le (by decide)).2 ?_
  have h1 := Nat.lt_of_lt_of_le (lt_nd (a := a)) (Nat.pow_le_pow_right (by decide) ha)
  have h2 := Nat.lt_of_lt_of_le (lt_nd (a := b)) (Nat.pow_le_pow_right (by decide) hb)
  rw [Nat.pow_succ]
  have : B32 ^ K * 2 ≤ B32 ^ K * B32 := Nat.mul_le_mul_left _ (by decide)
  omega

theorem signs {x y : Int} {s t : Bool} (hx : decide (x < 0) = s) (hy : decide (y < 0) = t) : (s = true ↔ x < 0) ∧ (t = true ↔ y < 0) := by
  subst hx; subst hy; simp
theorem sgn_of {x : Int} {s : Bool} (h : s = true ↔ x < 0) : s = decide (x < 0) := by
  cases s <;> simp_all
set_option maxRecDepth 100000 in
set_option maxHeartbeats 4000000 in
theorem nplus_any {K : Nat} {W : World} {va vb : Value} {x y : Int} (ha : Nm K W va x) (hb : Nm K W vb y) (hK : K ≤ 100000) :
    Calls Tryd.prog 64 #[va, vb] W fun e W' => (∃ v, e = .returned v ∧ NmB W.heap.size (K + 1) W' v (x + y)) ∧ Below W.heap.size W W' := by
  obtain ⟨a1, n1, p1, o1, rfl, hm1, hn1⟩ := ha
  obtain ⟨a2, n2, p2, o2, rfl, hm2, hn2⟩ := hb
  obtain ⟨s1, HS1⟩ : ∃ s, Hid (decide (x < 0) = s) := ⟨_, Lib.hid rfl⟩
  obtain ⟨s2, HS2⟩ : ∃ s, Hid (decide (y < 0) = s) := ⟨_, Lib.hid rfl⟩
  rw [HS1.out, HS2.out]
  obtain ⟨V, hV, v0, v1, v2, vb, vs⟩ := three_new W (Obj.cells #[.bool s1, .slice a1 n1 p1, .bool false, .bool o1] 46) (Obj.cells #[.bool s2, .slice a2 n2 p2, .bool false, .bool o2] 46) (Obj.cells #[.bool false, .slice none 0 0, .bool false, .bool false] 46)
  have HM1 := Lib.hid (hm1.later vb (Nat.le_refl _))
  have HM2 := Lib.hid (hm2.later vb (Nat.le_refl _))
  have HVB := Lib.hid vb
  have c0 := (cell_of_row _ _ 0 _ _ _ v0).trans rfl
  have c1 := (cell_of_row _ _ 1 _ _ _ v0).trans rfl
  have d0 := (cell_of_row _ _ 0 _ _ _ v1).trans rfl
  have d1 := (cell_of_row _ _ 1 _ _ _ v1).trans rfl
  have HV2 := Lib.hid v2
  have l1 : (digs B32 x.natAbs).length ≤ 1000000 := by show nd x.natAbs ≤ _; omega
  have l2 : (digs B32 y.natAbs).length ≤ 1000000 := by show nd y.natAbs ≤ _; omega
  clear hm1 hm2 vb v0 v1 v2
  by_cases hs : s1 = s2
  · subst hs
    have HPH : Hid (∀ w', M 0 w' (.slice a1 n1 p1) (digs B32 x.natAbs) → M 0 w' (.slice a2 n2 p2) (digs B32 y.natAbs) → Calls Tryd.prog 111 #[.slice a1 n1 p1, .slice a2 n2 p2] w' fun e W' => (∃ v', e = .returned v' ∧ M w'.heap.size W' v' (digs B32 (x.natAbs + y.natAbs))) ∧ Below w'.heap.size w' W') := Lib.hid fun w' h1 h2 => by
      have HP := plus_any h1 h2 (digs_dig (by decide) _) (digs_dig (by decide) _) l1 l2
      rw [val_digs (by decide), val_digs (by decide)] at HP
      exact HP
    have hsg := signs HS1.out HS2.out
    clear l1 l2
    go_enter Tryd.func64, Tryd.ntmps64
    go_upto_region 2 with (fail)
    rw [← hV]
    clear hV
    have F0 : Hid (V.cell? ⟨W.heap.size, 0, none⟩ = some (.bool s1) ∧ V.cell? ⟨W.heap.size, 1, none⟩ = some (.slice a1 n1 p1) ∧ V.cell? ⟨W.heap.size + 1, 1, none⟩ = some (.slice a2 n2 p2) ∧ Box4 (W.heap.size + 1 + 1) (.bool false) (.slice none 0 0) (.bool false) (.bool false) V) := Lib.hid ⟨c0, c1, d1, Box4.of HV2.out⟩
    go_region_held3 (fun w' => (w'.cell? ⟨W.heap.size, 0, none⟩ = some (.bool s1) ∧ w'.cell? ⟨W.heap.size, 1, none⟩ = some (.slice a1 n1 p1) ∧ w'.cell? ⟨W.heap.size + 1, 1, none⟩ = some (.slice a2 n2 p2))) (first | exact ⟨F0.out.1, F0.out.2.1, F0.out.2.2.1⟩ | exact ⟨cell_after (undrew hb5) F0.out.1, cell_after (undrew hb5) F0.out.2.1, cell_after (undrew hb5) F0.out.2.2.1⟩ | exact ⟨cell_after hb6 (cell_after (undrew hb5) F0.out.1), cell_after hb6 (cell_after (undrew hb5) F0.out.2.1), cell_after hb6 (cell_after (undrew hb5) F0.out.2.2.1)⟩ | exact ⟨four_far (by omega) (cell_after hb6 (cell_after (undrew hb5) F0.out.1)), four_far (by omega) (cell_after hb6 (cell_after (undrew hb5) F0.out.2.1)), four_far (by omega) (cell_after hb6 (cell_after (undrew hb5) F0.out.2.2.1))⟩) (first | (go_at_call 111; refine (HPH.out V.drew HM1.out HM2.out).mono ?_; rintro e w5 ⟨⟨v5, rfl, hm5⟩, hb5⟩; obtain ⟨a5, n5, p5, rfl⟩ := hm5.slice3) | (go_at_call 80; refine (signed_any _ _ _ _ _ _ _ _).mono ?_; rintro e w6 ⟨rfl, hb6⟩; obtain ⟨g0, g1, g2, g3, g4, g5, g6, g7⟩ := (F0.out.2.2.2.after (undrew hb5)).after hb6))
    go_wp2
    have B5 := undrew hb5
    refine bodyPost_ret (v := numV (s1 && (false || decide (0 < n5))) (.slice a5 n5 p5) false false) (by simp [results, Tryd.results64, go_sem, g0, g1, g2, g3]) rfl ⟨⟨_, rfl, ?_⟩, ?_⟩
    · refine NmB.mk (((hm5.later hb6 (Nat.le_refl _)).four (g := W.heap.size + 1 + 1) (by show _ < V.heap.size; omega) _ _ _ _).mono (by show _ ≤ V.heap.size; omega)) ?_ ?_ (nd_add _ _ hn1 hn2)
      · by_cases h : x < 0 <;> by_cases h2 : y < 0 <;> simp_all <;> omega
      · intro h0; have hxy : x < 0 ↔ y < 0 := hsg.1.symm.trans hsg.2; exact sgn_of (hsg.1.trans (by constructor <;> intro _ <;> omega))
    · exact below_four ((HVB.out.trans (B5.mono (by omega))).trans (hb6.mono (by have := B5.size; omega))) (by omega) _ _ _ _
  · have hbe : (s1 == s2) = false := by simpa using hs
    have hsg := signs HS1.out HS2.out
    have hxor : x < 0 ∧ 0 ≤ y ∨ 0 ≤ x ∧ y < 0 := by
      by_cases h : x < 0 <;> by_cases h2 : y < 0 <;> cases s1 <;> cases s2 <;> simp_all
    have HC := compare_any HM1.out HM2.out (digs_dig (by decide) _) (digs_dig (by decide) _) l1 l2
    rw [val_digs (by decide), val_digs (by decide)] at HC
    have HCH := Lib.hid HC
    have HL := Lib.hid (And.intro l1 l2)
    have HB0 : Hid (Box4 (W.heap.size + 1 + 1) (.bool false) (.slice none 0 0) (.bool false) (.bool false) V) := Lib.hid (Box4.of HV2.out)
    clear HC l1 l2
    by_cases hlt : x.natAbs < y.natAbs
    · have hcm : cmpI x.natAbs y.natAbs = -1 := by unfold cmpI; rw [if_pos hlt]
      rw [hcm] at HCH
      have HPH : Hid (∀ w', M 0 w' (.slice a2 n2 p2) (digs B32 y.natAbs) → M 0 w' (.slice a1 n1 p1) (digs B32 x.natAbs) → Calls Tryd.prog 113 #[.slice a2 n2 p2, .slice a1 n1 p1] w' fun e W' => (∃ v', e = .returned v' ∧ M w'.heap.size W' v' (digs B32 (y.natAbs - x.natAbs))) ∧ Below w'.heap.size w' W') := Lib.hid fun w' h1 h2 => by
        have HP := minus_any h1 h2 (digs_dig (by decide) _) (digs_dig (by decide) _) HL.out.2 HL.out.1 (by rw [val_digs (by decide), val_digs (by decide)]; omega)
        rw [val_digs (by decide), val_digs (by decide)] at HP
        exact HP
      go_enter Tryd.func64, Tryd.ntmps64
      go_wp2_with fail
      rw [← hV]
      clear hV
      refine HCH.out.mono ?_
      rintro e V1 ⟨rfl, hbc⟩
      have HBC : Hid (Below W.heap.size W V1) := Lib.hid (HVB.out.trans (hbc.mono (by omega)))
      have HM1' := Lib.hid (HM1.out.later hbc (Nat.le_refl _))
      have HM2' := Lib.hid (HM2.out.later hbc (Nat.le_refl _))
      have k1 := cell_after hbc c1
      have k2 := cell_after hbc d1
      have k3 := cell_after hbc d0
      have HB1 := Lib.hid (HB0.out.after hbc)
      have hz1 : W.heap.size + 3 ≤ V1.heap.size := by have := hbc.size; omega
      clear hbc c0 c1 d0 d1
      go_upto_region 4 with (fail)
      have F0 : Hid (V1.cell? ⟨W.heap.size + 1, 0, none⟩ = some (.bool s2) ∧ V1.cell? ⟨W.heap.size + 1, 1, none⟩ = some (.slice a2 n2 p2) ∧ V1.cell? ⟨W.heap.size, 1, none⟩ = some (.slice a1 n1 p1) ∧ Box4 (W.heap.size + 1 + 1) (.bool false) (.slice none 0 0) (.bool false) (.bool false) V1) := Lib.hid ⟨k3, k2, k1, HB1.out⟩
      go_region_held3 (fun w' => (w'.cell? ⟨W.heap.size + 1, 0, none⟩ = some (.bool s2) ∧ w'.cell? ⟨W.heap.size + 1, 1, none⟩ = some (.slice a2 n2 p2) ∧ w'.cell? ⟨W.heap.size, 1, none⟩ = some (.slice a1 n1 p1))) (first | exact ⟨F0.out.1, F0.out.2.1, F0.out.2.2.1⟩ | exact ⟨cell_after (undrew hb5) F0.out.1, cell_after (undrew hb5) F0.out.2.1, cell_after (undrew hb5) F0.out.2.2.1⟩ | exact ⟨cell_after hb6 (cell_after (undrew hb5) F0.out.1), cell_after hb6 (cell_after (undrew hb5) F0.out.2.1), cell_after hb6 (cell_after (undrew hb5) F0.out.2.2.1)⟩ | exact ⟨four_far (by omega) (cell_after hb6 (cell_after (undrew hb5) F0.out.1)), four_far (by omega) (cell_after hb6 (cell_after (undrew hb5) F0.out.2.1)), four_far (by omega) (cell_after hb6 (cell_after (undrew hb5) F0.out.2.2.1))⟩) (first | (go_at_call 113; refine (HPH.out V1.drew HM2'.out HM1'.out).mono ?_; rintro e w5 ⟨⟨v5, rfl, hm5⟩, hb5⟩; obtain ⟨a5, n5, p5, rfl⟩ := hm5.slice3) | (go_at_call 80; refine (signed_any _ _ _ _ _ _ _ _).mono ?_; rintro e w6 ⟨rfl, hb6⟩; obtain ⟨g0, g1, g2, g3, g4, g5, g6, g7⟩ := (F0.out.2.2.2.after (undrew hb5)).after hb6))
      go_wp2
      have B5 := undrew hb5
      refine bodyPost_ret (v := numV (s2 && (false || decide (0 < n5))) (.slice a5 n5 p5) false false) (by simp [results, Tryd.results64, go_sem, g0, g1, g2, g3]) rfl ⟨⟨_, rfl, ?_⟩, ?_⟩
      · refine NmB.mk (((hm5.later hb6 (Nat.le_refl _)).four (g := W.heap.size + 1 + 1) (by show _ < V1.heap.size; omega) _ _ _ _).mono (by show _ ≤ V1.heap.size; omega)) ?_ ?_ (Nat.le_trans (nd_mono (Nat.sub_le _ _)) (by omega))
        · omega
        · intro h0; exact sgn_of (hsg.2.trans (by constructor <;> intro _ <;> omega))
      · exact below_four ((HBC.out.trans (B5.mono (by omega))).trans (hb6.mono (by have := B5.size; omega))) (by omega) _ _ _ _
    · have hcm : 0 ≤ cmpI x.natAbs y.natAbs := by unfold cmpI; rw [if_neg hlt]; split <;> decide
      have HPH : Hid (∀ w', M 0 w' (.slice a1 n1 p1) (digs B32 x.natAbs) → M 0 w' (.slice a2 n2 p2) (digs B32 y.natAbs) → Calls Tryd.prog 113 #[.slice a1 n1 p1, .slice a2 n2 p2] w' fun e W' => (∃ v', e = .returned v' ∧ M w'.heap.size W' v' (digs B32 (x.natAbs - y.natAbs))) ∧ Below w'.heap.size w' W') := Lib.hid fun w' h1 h2 => by
        have HP := minus_any h1 h2 (digs_dig (by decide) _) (digs_dig (by decide) _) HL.out.1 HL.out.2 (by rw [val_digs (by decide), val_digs (by decide)]; omega)
        rw [val_digs (by decide), val_digs (by decide)] at HP
        exact HP
      generalize cmpI x.natAbs y.natAbs = cc at hcm HCH
      go_enter Tryd.func64, Tryd.ntmps64
      go_wp2_with fail
      rw [← hV]
      clear hV
      refine HCH.out.mono ?_
      rintro e V1 ⟨rfl, hbc⟩
      have HBC : Hid (Below W.heap.size W V1) := Lib.hid (HVB.out.trans (hbc.mono (by omega)))
      have HM1' := Lib.hid (HM1.out.later hbc (Nat.le_refl _))
      have HM2' := Lib.hid (HM2.out.later hbc (Nat.le_refl _))
      have k1 := cell_after hbc c1
      have k2 := cell_after hbc d1
      have k3 := cell_after hbc c0
      have HB1 := Lib.hid (HB0.out.after hbc)
      have hz1 : W.heap.size + 3 ≤ V1.heap.size := by have := hbc.size; omega
      clear hbc c0 c1 d0 d1
      go_upto_region 5 with (fail)
      have F0 : Hid (V1.cell? ⟨W.heap.size, 0, none⟩ = some (.bool s1) ∧ V1.cell? ⟨W.heap.size, 1, none⟩ = some (.slice a1 n1 p1) ∧ V1.cell? ⟨W.heap.size + 1, 1, none⟩ = some (.slice a2 n2 p2) ∧ Box4 (W.heap.size + 1 + 1) (.bool false) (.slice none 0 0) (.bool false) (.bool false) V1) := Lib.hid ⟨k3, k1, k2, HB1.out⟩
      go_region_held3 (fun w' => (w'.cell? ⟨W.heap.size, 0, none⟩ = some (.bool s1) ∧ w'.cell? ⟨W.heap.size, 1, none⟩ = some (.slice a1 n1 p1) ∧ w'.cell? ⟨W.heap.size + 1, 1, none⟩ = some (.slice a2 n2 p2))) (first | exact ⟨F0.out.1, F0.out.2.1, F0.out.2.2.1⟩ | exact ⟨cell_after (undrew hb5) F0.out.1, cell_after (undrew hb5) F0.out.2.1, cell_after (undrew hb5) F0.out.2.2.1⟩ | exact ⟨cell_after hb6 (cell_after (undrew hb5) F0.out.1), cell_after hb6 (cell_after (undrew hb5) F0.out.2.1), cell_after hb6 (cell_after (undrew hb5) F0.out.2.2.1)⟩ | exact ⟨four_far (by omega) (cell_after hb6 (cell_after (undrew hb5) F0.out.1)), four_far (by omega) (cell_after hb6 (cell_after (undrew hb5) F0.out.2.1)), four_far (by omega) (cell_after hb6 (cell_after (undrew hb5) F0.out.2.2.1))⟩) (first | (go_at_call 113; refine (HPH.out V1.drew HM1'.out HM2'.out).mono ?_; rintro e w5 ⟨⟨v5, rfl, hm5⟩, hb5⟩; obtain ⟨a5, n5, p5, rfl⟩ := hm5.slice3) | (go_at_call 80; refine (signed_any _ _ _ _ _ _ _ _).mono ?_; rintro e w6 ⟨rfl, hb6⟩; obtain ⟨g0, g1, g2, g3, g4, g5, g6, g7⟩ := (F0.out.2.2.2.after (undrew hb5)).after hb6))
      go_wp2
      have B5 := undrew hb5
      refine bodyPost_ret (v := numV (s1 && (false || decide (0 < n5))) (.slice a5 n5 p5) false false) (by simp [results, Tryd.results64, go_sem, g0, g1, g2, g3]) rfl ⟨⟨_, rfl, ?_⟩, ?_⟩
      · refine NmB.mk (((hm5.later hb6 (Nat.le_refl _)).four (g := W.heap.size + 1 + 1) (by show _ < V1.heap.size; omega) _ _ _ _).mono (by show _ ≤ V1.heap.size; omega)) ?_ ?_ (Nat.le_trans (nd_mono (Nat.sub_le _ _)) (by omega))
        · omega
        · intro h0; exact sgn_of (hsg.1.trans (by constructor <;> intro _ <;> omega))
      · exact below_four ((HBC.out.trans (B5.mono (by omega))).trans (hb6.mono (by have := B5.size; omega))) (by omega) _ _ _ _
end Go.Proofs.YtkpoegdcmnjedaaDoor
