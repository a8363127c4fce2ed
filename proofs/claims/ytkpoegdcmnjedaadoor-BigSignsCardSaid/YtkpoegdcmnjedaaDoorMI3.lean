import Derived.Test.YtkpoegdcmnjedaaDoorMI2
import Derived.Deep.RegionWith
namespace Go.Proofs.YtkpoegdcmnjedaaDoor
open Go.RowKit
set_option linter.unusedVariables false
set_option linter.unusedSimpArgs false

/-- a contract for magnitude.over. -/
def OverH (a b : Nat) : Prop := ∀ (w : World) (v1 v2 : Value), M 0 w v1 (digs B32 a) → M 0 w v2 (digs B32 b) → Calls Tryd.prog 117 #[v1, v2] w (OvQ v1 a b w)
theorem overH_one {a b : Nat} (ha : nd a ≤ 1000000) (hb : b < 4294967296) (hb0 : 0 < b) : OverH a b := fun w v1 v2 h1 h2 => over_one h1 h2 ha hb hb0
theorem nd_mod (a b : Nat) : nd (a % b) ≤ nd a := nd_mono (Nat.mod_le _ _)
theorem q0_sign {x y : Int} {s1 s2 s3 : Bool} (h1 : decide (x < 0) = s1) (h2 : decide (y < 0) = s2) (h3 : (!(s1 == s2)) = s3) (h0 : x.natAbs / y.natAbs ≠ 0) : s3 = decide (q0 x y < 0) := by
  subst h1 h2 h3
  have hp : 0 < x.natAbs / y.natAbs := Nat.pos_of_ne_zero h0
  unfold q0
  generalize x.natAbs / y.natAbs = n at hp ⊢
  have e : (decide (x < 0) != decide (y < 0)) = !(decide (x < 0) == decide (y < 0)) := rfl
  rw [e]
  cases h : (decide (x < 0) == decide (y < 0))
  · rw [Bool.not_false, if_pos rfl]; symm; rw [decide_eq_true_eq]; omega
  · rw [Bool.not_true, if_neg (by decide)]; symm; rw [decide_eq_false_iff_not]; omega
theorem r0_sign {x y : Int} {s1 : Bool} (h1 : decide (x < 0) = s1) (h0 : x.natAbs % y.natAbs ≠ 0) : s1 = decide (r0 x y < 0) := by
  subst h1
  have hp : 0 < x.natAbs % y.natAbs := Nat.pos_of_ne_zero h0
  unfold r0
  generalize x.natAbs % y.natAbs = n at hp ⊢
  by_cases h : x < 0
  · rw [if_pos h, decide_eq_true h]; symm; rw [decide_eq_true_eq]; omega
  · rw [if_neg h, decide_eq_false h]; symm; rw [decide_eq_false_iff_not]; omega
/-- a number whose digits lie in a block below lo or from hi on. -/
def NmM (lo hi K : Nat) (W : World) (b : Bool) (v : Value) (x : Int) : Prop := MN lo hi W v (digs B32 x.natAbs) ∧ b = decide (x < 0) ∧ nd x.natAbs ≤ K
theorem NmM.nm {lo hi K : Nat} {W : World} {b od : Bool} {a : Option Addr} {n p : Nat} {x : Int} (h : NmM lo hi K W b (.slice a n p) x) : Nm K W (numV b (.slice a n p) false od) x :=
  ⟨a, n, p, od, by rw [h.2.1], h.1.1, h.2.2⟩
theorem NmM.later {lo hi K k : Nat} {W W' : World} {b : Bool} {v : Value} {x : Int} (h : NmM lo hi K W b v x) (hb : Below k W W') (hk : W.heap.size ≤ k) : NmM lo hi K W' b v x := ⟨h.1.later hb hk, h.2⟩
theorem NmM.four {lo hi g K : Nat} {W : World} {b : Bool} {v : Value} {x : Int} (h : NmM lo hi K W b v x) (h1 : lo ≤ g) (h2 : g < hi) (x0 x1 x2 x3 : Value) :
    NmM lo hi K ((((W.setCell ⟨g, 0, none⟩ x0).setCell ⟨g, 1, none⟩ x1).setCell ⟨g, 2, none⟩ x2).setCell ⟨g, 3, none⟩ x3) b v x := ⟨h.1.four h1 h2 _ _ _ _, h.2⟩
theorem NmM.mk {lo hi K : Nat} {W : World} {ao : Option Addr} {n cap : Nat} {k : Bool} {a : Nat} {x : Int} (h : MN lo hi W (.slice ao n cap) (digs B32 a)) (ha : x.natAbs = a) (hk : a ≠ 0 → k = decide (x < 0)) (hn : nd a ≤ K) :
    NmM lo hi K W (k && decide (0 < n)) (.slice ao n cap) x := by
  obtain ⟨a', n', p', o', h1, h2, h3⟩ := MN.mk h ha hk hn (od := false)
  refine ⟨by rw [ha]; exact h, ?_, by rw [ha]; exact hn⟩
  simp only [numV, Value.agg.injEq, Array.mk.injEq, List.cons.injEq, Value.bool.injEq, Bool.false_or] at h1
  exact h1.1
theorem NmM.new {lo hi B K : Nat} {W : World} {b : Bool} {a : Option Addr} {n p : Nat} {o : Bool} {x : Int} (h : NmB B K W (numV b (.slice a n p) false o) x) (hB : hi ≤ B) : NmM lo hi K W b (.slice a n p) x := by
  obtain ⟨a', n', p', o', h1, h2, h3⟩ := h
  simp only [numV, Value.agg.injEq, Array.mk.injEq, List.cons.injEq, Value.bool.injEq, Value.slice.injEq] at h1
  obtain ⟨e1, ⟨rfl, rfl, rfl⟩, _⟩ := h1
  exact ⟨MN.new (h2.mono hB), e1, h3⟩
theorem two_fin2 {g : Nat} {w : World} {a0 a1 a2 a3 b0 b1 b2 b3 : Value} (h1 : Box4 g a0 a1 a2 a3 w) (h2 : Box4 (g + 1) b0 b1 b2 b3 w) :
    ∃ w', w' = ((((((((w.setCell ⟨g, 0, none⟩ a0).setCell ⟨g, 1, none⟩ a1).setCell ⟨g, 2, none⟩ a2).setCell ⟨g, 3, none⟩ a3).setCell ⟨g + 1, 0, none⟩ b0).setCell ⟨g + 1, 1, none⟩ b1).setCell ⟨g + 1, 2, none⟩ b2).setCell ⟨g + 1, 3, none⟩ b3).drew ∧
      Box4 g a0 a1 a2 a3 w' ∧ Box4 (g + 1) b0 b1 b2 b3 w' ∧ (∀ B W, Below B W w → B ≤ g → Below B W w') ∧ (∀ lo hi K b v x, NmM lo hi K w b v x → lo ≤ g → g + 2 ≤ hi → NmM lo hi K w' b v x) := by
  obtain ⟨w', hw, k1, k2, k3, _⟩ := two_fin h1 h2
  refine ⟨w', hw, k1, k2, k3, ?_⟩
  intro lo hi K b v x h hl hh
  rw [hw]
  exact NmM.later ((h.four hl (by omega) _ _ _ _).four (by omega) (by omega) _ _ _ _) (Below.drew (Below.refl _ _)) (Nat.le_refl _)
theorem Nm.sgn {K : Nat} {W : World} {b : Bool} {a : Option Addr} {n p : Nat} {o : Bool} {x : Int} (h : Nm K W (numV b (.slice a n p) false o) x) : b = decide (x < 0) := by
  obtain ⟨a', n', p', o', h1, _⟩ := h
  simp only [numV, Value.agg.injEq, Array.mk.injEq, List.cons.injEq, Value.bool.injEq] at h1
  exact h1.1
theorem twelve_cells {g h k : Nat} {x0 x1 x2 x3 y0 y1 y2 y3 z0 z1 z2 z3 : Value} {W : World} (a : Box4 g x0 x1 x2 x3 W) (b : Box4 h y0 y1 y2 y3 W) (c : Box4 k z0 z1 z2 z3 W) :
    W.cell? ⟨g, 0, none⟩ = some x0 ∧ W.cell? ⟨g, 1, none⟩ = some x1 ∧ W.cell? ⟨g, 2, none⟩ = some x2 ∧ W.cell? ⟨g, 3, none⟩ = some x3 ∧
    W.cell? ⟨h, 0, none⟩ = some y0 ∧ W.cell? ⟨h, 1, none⟩ = some y1 ∧ W.cell? ⟨h, 2, none⟩ = some y2 ∧ W.cell? ⟨h, 3, none⟩ = some y3 ∧
    W.cell? ⟨k, 0, none⟩ = some z0 ∧ W.cell? ⟨k, 1, none⟩ = some z1 ∧ W.cell? ⟨k, 2, none⟩ = some z2 ∧ W.cell? ⟨k, 3, none⟩ = some z3 :=
  ⟨a.c0, a.c1, a.c2, a.c3, b.c0, b.c1, b.c2, b.c3, c.c0, c.c1, c.c2, c.c3⟩
theorem Nm.minus_one {K : Nat} (hK : 1 ≤ K) (w : World) : Nm K ((w.alloc (Obj.cells #[.int .u32 1] 75)).drew) (numV true (.slice (some ⟨w.heap.size, 0, none⟩) 1 1) false false) (-1) := by
  have e : digs B32 ((-1 : Int).natAbs) = [1] := by
    show digs B32 1 = [1]
    rw [digs_pos (by decide) (by decide)]
    show 1 :: digs B32 0 = [1]
    rw [digs_zero]
  refine ⟨_, _, _, _, rfl, ?_, ?_⟩
  · rw [e]
    exact ((M.one w 1).later (Below.drew (Below.refl _ _)) (Nat.le_refl _)).mono (Nat.zero_le _)
  · show (digs B32 _).length ≤ K
    rw [e]; exact hK
theorem sgnZ_zero {x : Int} (h : x = 0) : sgnZ x = 0 := by subst h; rfl
theorem sgnZ_ne {x : Int} (h : x ≠ 0) : ¬ sgnZ x = 0 := by
  unfold sgnZ; (repeat' split) <;> omega
/-- what number.over tells. -/
def NovQ (K : Nat) (x y : Int) (W : World) (e : Ending) (W' : World) : Prop :=
  ∃ vq vr q r, e = .returned (.tuple #[vq, vr]) ∧ Nm (K + 1) W' vq q ∧ Nm (K + 1) W' vr r ∧ DivP x y q r ∧ Below W.heap.size W W'
/-- what stands in the results' boxes. -/
def NovR (g K : Nat) (x y : Int) (W wx : World) : Prop :=
  ∃ bq aq nq pq oq br ar nr pr or q r, Box4 g (.bool bq) (.slice aq nq pq) (.bool false) (.bool oq) wx ∧ Box4 (g + 1) (.bool br) (.slice ar nr pr) (.bool false) (.bool or) wx ∧
    NmM W.heap.size (W.heap.size + 4) (K + 1) wx bq (.slice aq nq pq) q ∧ NmM W.heap.size (W.heap.size + 4) (K + 1) wx br (.slice ar nr pr) r ∧ DivP x y q r ∧ Below W.heap.size W wx
theorem NmM.more {lo hi K K' : Nat} {W : World} {b : Bool} {v : Value} {x : Int} (h : NmM lo hi K W b v x) (hk : K ≤ K') : NmM lo hi K' W b v x := ⟨h.1, h.2.1, Nat.le_trans h.2.2 hk⟩
theorem four_cells {g : Nat} {x0 x1 x2 x3 : Value} {W : World} (a : Box4 g x0 x1 x2 x3 W) :
    W.cell? ⟨g, 0, none⟩ = some x0 ∧ W.cell? ⟨g, 1, none⟩ = some x1 ∧ W.cell? ⟨g, 2, none⟩ = some x2 ∧ W.cell? ⟨g, 3, none⟩ = some x3 := ⟨a.c0, a.c1, a.c2, a.c3⟩
set_option maxRecDepth 100000 in
set_option maxHeartbeats 40000000 in
theorem nover_any {K : Nat} {W : World} {va vb : Value} {x y : Int} (ha : Nm K W va x) (hb : Nm K W vb y) (hK : K ≤ 100000) (hy : y ≠ 0) (HO : OverH x.natAbs y.natAbs) :
    Calls Tryd.prog 76 #[va, vb] W (NovQ K x y W) := by
  have HNB := Lib.hid hb
  obtain ⟨a1, n1, p1, o1, rfl, hm1, hn1⟩ := ha
  obtain ⟨a2, n2, p2, o2, rfl, hm2, hn2⟩ := hb
  have hK0 := hn1
  have hK1 : 1 ≤ K := Nat.le_trans (Nat.pos_of_ne_zero fun e => by have := nd_zero.1 e; omega) hn2
  obtain ⟨s1, HS1⟩ : ∃ s, Hid (decide (x < 0) = s) := ⟨_, Lib.hid rfl⟩
  obtain ⟨s2, HS2⟩ : ∃ s, Hid (decide (y < 0) = s) := ⟨_, Lib.hid rfl⟩
  rw [HS1.out, HS2.out]
  rw [HS2.out] at HNB
  obtain ⟨s3, HS3⟩ : ∃ s, Hid ((!(s1 == s2)) = s) := ⟨_, Lib.hid rfl⟩
  obtain ⟨V, hV, v0, v1, v2, v3, vb, vs⟩ := four_new W (Obj.cells #[.bool s1, .slice a1 n1 p1, .bool false, .bool o1] 46) (Obj.cells #[.bool s2, .slice a2 n2 p2, .bool false, .bool o2] 46) (Obj.cells #[.bool false, .slice none 0 0, .bool false, .bool false] 46) (Obj.cells #[.bool false, .slice none 0 0, .bool false, .bool false] 46)
  have HM1 := Lib.hid (hm1.later vb (Nat.le_refl _))
  have HM2 := Lib.hid (hm2.later vb (Nat.le_refl _))
  have HN1 := Lib.hid ((MN.old (hi := W.heap.size + 4) hm1).later vb (Nat.le_refl _))
  have HVB := Lib.hid vb
  have F0 := Lib.hid (And.intro (Box4.of v0) (And.intro (Box4.of v1) (And.intro (show Box4 (W.heap.size + 1 + 1) _ _ _ _ V from Box4.of v2) (show Box4 (W.heap.size + 1 + 1 + 1) _ _ _ _ V from Box4.of v3))))
  have c1 := F0.out.1.c1
  have d1 := F0.out.2.1.c1
  clear hm1 hm2 vb v0 v1 v2 v3
  go_enter Tryd.func76, Tryd.ntmps76
  go_upto_region 1 with (fail)
  rw [← hV]
  clear hV
  go_wp2_with fail
  refine (HO _ _ _ HM1.out HM2.out).mono ?_
  rintro e w2 ⟨vq, vr, rfl, hq, hr, hb2⟩
  have HQ := Lib.hid (MN.new (lo := W.heap.size) (hq.mono (B' := W.heap.size + 4) (by omega)))
  have HR : Hid (MN W.heap.size (W.heap.size + 4) w2 vr (digs B32 (x.natAbs % y.natAbs))) := Lib.hid (by
    rcases hr with h | ⟨h, h'⟩
    · exact MN.new (h.mono (by omega))
    · refine ⟨h', ?_⟩
      rw [h]; exact HN1.out.2)
  obtain ⟨aq, nq, pq, rfl⟩ := HQ.out.slice3
  obtain ⟨ar, nr, pr, rfl⟩ := HR.out.slice3
  have HB2 := Lib.hid hb2
  have F2 := Lib.hid (And.intro (F0.out.1.after hb2) (And.intro (F0.out.2.1.after hb2) (And.intro (F0.out.2.2.1.after hb2) (F0.out.2.2.2.after hb2))))
  clear hq hr c1 d1
  have c0 := F2.out.1.c0
  have d0 := F2.out.2.1.c0
  have hs3 := HS3.out
  go_wp2_with fail
  refine (signed_any _ _ _ _ _ _ _ _).mono ?_
  rintro e w3 ⟨rfl, hb3⟩
  have F3 := Lib.hid (And.intro (F2.out.1.after hb3) (And.intro (F2.out.2.1.after hb3) (And.intro (F2.out.2.2.1.after hb3) (F2.out.2.2.2.after hb3))))
  obtain ⟨e0, e1, e2, e3, f0, f1, f2, f3⟩ := F3.out.2.2.1
  have HB3 := Lib.hid hb3
  clear c0 d0
  go_upto_region 3 with (fail)
  obtain ⟨sq, HSQ⟩ : ∃ b, Hid ((s3 && decide (0 < nq)) = b) := ⟨_, Lib.hid rfl⟩
  rw [HSQ.out]
  obtain ⟨w4, hw4⟩ : ∃ w4, w4 = ((((w3.setCell ⟨W.heap.size + 1 + 1, 0, none⟩ (.bool sq)).setCell ⟨W.heap.size + 1 + 1, 1, none⟩ (.slice aq nq pq)).setCell ⟨W.heap.size + 1 + 1, 2, none⟩ (.bool false)).setCell ⟨W.heap.size + 1 + 1, 3, none⟩ (.bool false)) := ⟨_, rfl⟩
  have F4 : Hid (Box4 W.heap.size (.bool s1) (.slice a1 n1 p1) (.bool false) (.bool o1) w4 ∧ Box4 (W.heap.size + 1) (.bool s2) (.slice a2 n2 p2) (.bool false) (.bool o2) w4 ∧ Box4 (W.heap.size + 1 + 1) (.bool sq) (.slice aq nq pq) (.bool false) (.bool false) w4 ∧ Box4 (W.heap.size + 1 + 1 + 1) (.bool false) (.slice none 0 0) (.bool false) (.bool false) w4) := Lib.hid (by
    rw [hw4]; exact ⟨F3.out.1.far4 (by omega), F3.out.2.1.far4 (by omega), F3.out.2.2.1.four _ _ _ _, F3.out.2.2.2.far4 (by omega)⟩)
  have HQ4 : Hid (MN W.heap.size (W.heap.size + 4) w4 (.slice aq nq pq) (digs B32 (x.natAbs / y.natAbs))) := Lib.hid (by
    rw [hw4]; exact (HQ.out.later HB3.out (Nat.le_refl _)).four (by omega) (by omega) _ _ _ _)
  have HR4 : Hid (MN W.heap.size (W.heap.size + 4) w4 (.slice ar nr pr) (digs B32 (x.natAbs % y.natAbs))) := Lib.hid (by
    rw [hw4]; exact (HR.out.later HB3.out (Nat.le_refl _)).four (by omega) (by omega) _ _ _ _)
  have HB4 : Hid (Below W.heap.size W w4) := Lib.hid (by
    rw [hw4]; exact below_four (((HVB.out.trans (HB2.out.mono (by omega)))).trans (HB3.out.mono (by have := HB2.out.size; omega))) (by omega) _ _ _ _)
  have hz4 : W.heap.size + 4 ≤ w4.heap.size := by have := HB2.out.size; have := HB3.out.size; rw [hw4]; simp; omega
  rw [← hw4]
  clear hw4 F3 e0 e1 e2 e3 f0 f1 f2 f3 HQ HR HB3 HB2 F2 hb2 hb3 F0 HM1 HM2 HN1 hs3
  have c0 := F4.out.1.c0
  go_wp2_with fail
  refine (signed_any _ _ _ _ _ _ _ _).mono ?_
  rintro e w5 ⟨rfl, hb5⟩
  have F5 := Lib.hid (And.intro (F4.out.2.1.after hb5) (And.intro (F4.out.2.2.1.after hb5) (F4.out.2.2.2.after hb5)))
  obtain ⟨e0, e1, e2, e3, f0, f1, f2, f3⟩ := F5.out.2.2
  have HB5 := Lib.hid hb5
  clear c0
  go_upto_region 4 with (fail)
  obtain ⟨sr, HSR⟩ : ∃ b, Hid ((s1 && decide (0 < nr)) = b) := ⟨_, Lib.hid rfl⟩
  rw [HSR.out]
  obtain ⟨w6, hw6⟩ : ∃ w6, w6 = ((((w5.setCell ⟨W.heap.size + 1 + 1 + 1, 0, none⟩ (.bool sr)).setCell ⟨W.heap.size + 1 + 1 + 1, 1, none⟩ (.slice ar nr pr)).setCell ⟨W.heap.size + 1 + 1 + 1, 2, none⟩ (.bool false)).setCell ⟨W.heap.size + 1 + 1 + 1, 3, none⟩ (.bool false)) := ⟨_, rfl⟩
  have F6 : Hid (Box4 (W.heap.size + 1) (.bool s2) (.slice a2 n2 p2) (.bool false) (.bool o2) w6 ∧ Box4 (W.heap.size + 1 + 1) (.bool sq) (.slice aq nq pq) (.bool false) (.bool false) w6 ∧ Box4 (W.heap.size + 1 + 1 + 1) (.bool sr) (.slice ar nr pr) (.bool false) (.bool false) w6) := Lib.hid (by
    rw [hw6]; exact ⟨F5.out.1.far4 (by omega), F5.out.2.1.far4 (by omega), F5.out.2.2.four _ _ _ _⟩)
  have HQ6 : Hid (NmM W.heap.size (W.heap.size + 4) K w6 sq (.slice aq nq pq) (q0 x y)) := Lib.hid (by
    rw [hw6, ← HSQ.out]
    exact NmM.mk ((HQ4.out.later HB5.out (Nat.le_refl _)).four (by omega) (by omega) _ _ _ _) (q0_abs x y) (fun h0 => q0_sign HS1.out HS2.out HS3.out h0) (Nat.le_trans (nd_div _ _) hK0))
  have HR6 : Hid (NmM W.heap.size (W.heap.size + 4) K w6 sr (.slice ar nr pr) (r0 x y)) := Lib.hid (by
    rw [hw6, ← HSR.out]
    exact NmM.mk ((HR4.out.later HB5.out (Nat.le_refl _)).four (by omega) (by omega) _ _ _ _) (r0_abs x y) (fun h0 => r0_sign HS1.out h0) (Nat.le_trans (nd_mod _ _) hK0))
  have HB6 : Hid (Below W.heap.size W w6) := Lib.hid (by
    rw [hw6]; exact below_four (HB4.out.trans (HB5.out.mono (by omega))) (by omega) _ _ _ _)
  have HY6 : Hid (Nm K w6 (numV s2 (.slice a2 n2 p2) false o2) y) := Lib.hid (HNB.out.later HB6.out (Nat.le_refl _))
  have hz6 : W.heap.size + 4 ≤ w6.heap.size := by have := HB5.out.size; rw [hw6]; simp; omega
  rw [← hw6]
  clear hw6 F5 e0 e1 e2 e3 f0 f1 f2 f3 HQ4 HR4 HB5 hb5 F4 hz4 HB4 HNB
  clear HS1 HS3 HSQ HSR HS2
  have z0 := F6.out.2.2.c0
  have z1 := F6.out.2.2.c1
  have z2 := F6.out.2.2.c2
  have z3 := F6.out.2.2.c3
  have HS := Lib.hid (sign_any (HR6.out.nm (od := false)))
  obtain ⟨bb, HBB⟩ : ∃ bb : Bool, Hid (bb = true ↔ (r0 x y ≠ 0 ∧ sr ≠ s2)) := by
    by_cases h : r0 x y ≠ 0 ∧ sr ≠ s2
    · exact ⟨true, Lib.hid ⟨fun _ => h, fun _ => rfl⟩⟩
    · exact ⟨false, Lib.hid ⟨fun e => by simp at e, fun e => absurd e h⟩⟩
  go_cut [38] from 29 to 38 (fun bv wx => bv = .bool bb ∧ Hid (Below w6.heap.size w6 wx))
  case first =>
    by_cases h0 : r0 x y = 0
    · have hz := sgnZ_zero h0
      obtain rfl : bb = false := by
        cases bb
        · rfl
        · exact absurd h0 (HBB.out.1 rfl).1
      rw [hz] at HS
      clear hz h0
      go_wp2_with (go_at_call 75; refine HS.out.mono ?_; rintro e w7 ⟨rfl, hb7⟩; have HB7 := Lib.hid hb7; clear hb7)
      go_meet
      exact ⟨rfl, HB7⟩
    · have hc := sgnZ_ne h0
      generalize sgnZ (r0 x y) = c at HS hc
      have hc2 : (c != 0) = true := by simpa using hc
      by_cases h2 : sr = s2
      · obtain rfl : bb = false := by
          cases bb
          · rfl
          · exact absurd h2 (HBB.out.1 rfl).2
        subst h2
        clear h0
        go_wp2_with (go_at_call 75; refine HS.out.mono ?_; rintro e w7 ⟨rfl, hb7⟩; have F7 := Lib.hid (And.intro (F6.out.1.after hb7) (F6.out.2.2.after hb7)); have HB7 := Lib.hid hb7; have k1 := F7.out.2.c0; have k2 := F7.out.1.c0; clear hb7)
        go_meet
        exact ⟨rfl, HB7⟩
      · obtain rfl : bb = true := HBB.out.2 ⟨h0, h2⟩
        have hb : (sr == s2) = false := by rw [beq_eq_false_iff_ne]; exact h2
        clear h0 h2
        go_wp2_with (go_at_call 75; refine HS.out.mono ?_; rintro e w7 ⟨rfl, hb7⟩; have F7 := Lib.hid (And.intro (F6.out.1.after hb7) (F6.out.2.2.after hb7)); have HB7 := Lib.hid hb7; have k1 := F7.out.2.c0; have k2 := F7.out.1.c0; clear hb7)
        go_meet
        exact ⟨rfl, HB7⟩
  case rest =>
    obtain ⟨rfl, HB7⟩ := hcut
    obtain ⟨w7, hw7⟩ : ∃ w7 : World, w7 = wc := ⟨_, rfl⟩
    rw [← hw7] at HB7 ⊢
    clear hw7
    clear z0 z1 z2 z3 HS
    have F7 := Lib.hid (And.intro (F6.out.1.after HB7.out) (And.intro (F6.out.2.1.after HB7.out) (F6.out.2.2.after HB7.out)))
    have HQ7 := Lib.hid (HQ6.out.later HB7.out (Nat.le_refl _))
    have HR7 := Lib.hid (HR6.out.later HB7.out (Nat.le_refl _))
    have HY7 := Lib.hid (HY6.out.later HB7.out (Nat.le_refl _))
    have HW7 := Lib.hid (HB6.out.trans (HB7.out.mono (by omega)))
    have hz7 : W.heap.size + 4 ≤ w7.heap.size := Nat.le_trans hz6 HB7.out.size
    have HSR := Lib.hid (And.intro HR6.out.2.1 (Nm.sgn HY6.out))
    clear F6 HQ6 HR6 HY6 HB6 HB7 hz6
    go_upto_if 38 with (fail)
    go_cut [] from 39 to 45 (fun wx => Hid (NovR (W.heap.size + 1 + 1) K x y W wx))
    case first =>
      cases bb
      · have HD : Hid (DivP x y (q0 x y) (r0 x y)) := Lib.hid (divP_stay hy (by
          by_cases h : r0 x y = 0
          · exact Or.inl h
          · right
            rw [← HSR.out.1, ← HSR.out.2]
            by_cases h2 : sr = s2
            · exact h2
            · exact absurd (HBB.out.2 ⟨h, h2⟩) (by decide)))
        go_wp2
        go_meet
        exact Lib.hid ⟨_, _, _, _, _, _, _, _, _, _, _, _, F7.out.2.1, F7.out.2.2, HQ7.out.more (by omega), HR7.out.more (by omega), HD.out, HW7.out⟩
      · have HD : Hid (DivP x y (q0 x y + -1) (r0 x y + y)) := Lib.hid (divP_step hy (HBB.out.1 rfl).1 (by rw [← HSR.out.1, ← HSR.out.2]; exact (HBB.out.1 rfl).2))
        have z0 := F7.out.2.1.c0
        have z1 := F7.out.2.1.c1
        have z2 := F7.out.2.1.c2
        have z3 := F7.out.2.1.c3
        have y0 := F7.out.2.2.c0
        have y1 := F7.out.2.2.c1
        have y2 := F7.out.2.2.c2
        have y3 := F7.out.2.2.c3
        have x0 := F7.out.1.c0
        have x1 := F7.out.1.c1
        have x2 := F7.out.1.c2
        have x3 := F7.out.1.c3
        have HXB := Lib.hid (Below.drew ((Below.refl w7.heap.size w7).alloc (Nat.le_refl _) (Obj.cells #[.int .u32 1] 75)))
        have FX := Lib.hid (And.intro (F7.out.2.1.after HXB.out) (F7.out.2.2.after HXB.out))
        have FX3 := Lib.hid (F7.out.1.after HXB.out)
        have s0 := FX3.out.c0
        have s1' := FX3.out.c1
        have s2' := FX3.out.c2
        have s3' := FX3.out.c3
        have t0 := FX.out.1.c0
        have t1 := FX.out.1.c1
        have t2 := FX.out.1.c2
        have t3 := FX.out.1.c3
        have v0 := FX.out.2.c0
        have v1 := FX.out.2.c1
        have v2 := FX.out.2.c2
        have v3 := FX.out.2.c3
        have tok1 : True := trivial
        have HQX := Lib.hid ((HQ7.out.nm (od := false)).later HXB.out (Nat.le_refl _))
        have HRX := Lib.hid ((HR7.out.nm (od := false)).later HXB.out (Nat.le_refl _))
        have HYX := Lib.hid (HY7.out.later HXB.out (Nat.le_refl _))
        have HOX := Lib.hid (Nm.minus_one hK1 w7)
        go_wp2_with fail
        go_region_with (first | (go_at_call 64; have _t := tok1; (with_reducible refine (nplus_any (K := K) (x := q0 x y) (y := -1) HQX.out HOX.out hK).mono ?_); rintro e w8 ⟨⟨v8, rfl, hm8⟩, hb8⟩; obtain ⟨b8, a8, n8, p8, o8, rfl, hm8'⟩ := hm8.parts; have HM8 := Lib.hid hm8'; have F8 := Lib.hid ((F7.out.2.2.after (Below.drew ((Below.refl _ _).alloc (Nat.le_refl _) _))).after hb8); have q0 := F8.out.c0; have q1 := F8.out.c1; have q2 := F8.out.c2; have q3 := F8.out.c3; have F83 := Lib.hid (FX3.out.after hb8); have r0' := F83.out.c0; have r1' := F83.out.c1; have r2' := F83.out.c2; have r3' := F83.out.c3; clear hm8 hm8' tok1 _t) | (go_at_call 64; (with_reducible refine (nplus_any (K := K) (x := r0 x y) (y := y) (HRX.out.later hb8 (Nat.le_refl _)) (HYX.out.later hb8 (Nat.le_refl _)) hK).mono ?_); rintro e w9 ⟨⟨v9, rfl, hm9⟩, hb9⟩; obtain ⟨b9, a9, n9, p9, o9, rfl, hm9'⟩ := hm9.parts; have HM9 := Lib.hid hm9'; clear hm9 hm9'; have F9 := Lib.hid (And.intro (((F7.out.2.1.after (Below.drew ((Below.refl _ _).alloc (Nat.le_refl _) _))).after hb8).after hb9) (((F7.out.2.2.after (Below.drew ((Below.refl _ _).alloc (Nat.le_refl _) _))).after hb8).after hb9)); obtain ⟨_, _, _, _, g4, g5, g6, g7⟩ := F9.out.1; obtain ⟨_, _, _, _, l4, l5, l6, l7⟩ := F9.out.2))
        all_goals
          go_wp2
          go_meet
          have hX : W.heap.size + 4 ≤ ((w7.alloc (Obj.cells #[.int .u32 1] 75)).drew).heap.size := by simp; omega
          have h8 := hb8.size
          refine Lib.hid ⟨b8, a8, n8, p8, o8, b9, a9, n9, p9, o9, _, _, (F9.out.1.four _ _ _ _).far4 (by omega), (F9.out.2.far4 (by omega)).four _ _ _ _, ?_, ?_, HD.out, ?_⟩
          · exact (((NmM.new (lo := W.heap.size) HM8.out hX).later hb9 (Nat.le_refl _)).four (by omega) (by omega) _ _ _ _).four (by omega) (by omega) _ _ _ _
          · exact ((NmM.new (lo := W.heap.size) HM9.out (by omega)).four (by omega) (by omega) _ _ _ _).four (by omega) (by omega) _ _ _ _
          · exact below_four (below_four (((HW7.out.trans (HXB.out.mono (by omega))).trans (hb8.mono (by omega))).trans (hb9.mono (by omega))) (by omega) _ _ _ _) (by omega) _ _ _ _
    case rest =>
      clear HW7 HQ7 HR7 HY7 HSR F7 hz7
      obtain ⟨bq, aq', nq', pq', oq, br, ar', nr', pr', or, q, r, B1, B2, N1, N2, HD, HBW⟩ := hcut.out
      obtain ⟨w', hw', hf1, hf2, hfb, hfr⟩ := two_fin2 B1 B2
      have HN1 := Lib.hid (hfr _ _ _ _ _ _ N1 (by omega) (by omega))
      have HN2 := Lib.hid (hfr _ _ _ _ _ _ N2 (by omega) (by omega))
      have HFB := Lib.hid (hfb _ _ HBW (by omega))
      have HF1 := Lib.hid hf1
      have HF2 := Lib.hid hf2
      have HDD := Lib.hid HD
      obtain ⟨x0, x1, x2, x3, y0, y1, y2, y3⟩ := B1
      obtain ⟨z0, z1, z2, z3, t0, t1, t2, t3⟩ := B2
      have HW' := Lib.hid hw'
      clear hcut N1 N2 HD HBW hfr hfb hf1 hf2 hw'
      go_upto_region 6 with (fail)
      go_region
      rw [← HW'.out]
      obtain ⟨p0, p1, p2, p3, _, _, _, _⟩ := HF1.out
      obtain ⟨q0, q1, q2, q3, _, _, _, _⟩ := HF2.out
      go_wp2_with fail
      exact bodyPost_ret (v := .tuple #[numV bq (.slice aq' nq' pq') false oq, numV br (.slice ar' nr' pr') false or]) (by simp [results, Tryd.results76, go_sem, p0, p1, p2, p3, q0, q1, q2, q3]) rfl ⟨_, _, q, r, rfl, HN1.out.nm, HN2.out.nm, HDD.out, HFB.out⟩
end Go.Proofs.YtkpoegdcmnjedaaDoor
