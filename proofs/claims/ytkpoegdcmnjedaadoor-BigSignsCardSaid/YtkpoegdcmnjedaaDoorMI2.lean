import Derived.Test.YtkpoegdcmnjedaaDoorMH4
namespace Go.Proofs.YtkpoegdcmnjedaaDoor
open Go.RowKit
set_option linter.unusedVariables false
set_option linter.unusedSimpArgs false

theorem cmpI_neg {a b : Nat} : cmpI a b < 0 ↔ a < b := by unfold cmpI; (repeat' split) <;> omega
theorem M.one (w : World) (d : Nat) : M w.heap.size (w.alloc (Obj.cells #[.int .u32 (d : Int)] 75)) (.slice (some ⟨w.heap.size, 0, none⟩) 1 1) [d] :=
  ⟨by simp [U32s], Or.inr ⟨w.heap.size, 1, _, rfl, Nat.le_refl _, heap_alloc_new w _, by simp, by simp [maxLen], by simp, by simp [U32s]⟩⟩
/-- what over tells. -/
def OvQ (va : Value) (x y : Nat) (W : World) (e : Ending) (W' : World) : Prop :=
  ∃ q r, e = .returned (.tuple #[q, r]) ∧ M W.heap.size W' q (digs B32 (x / y)) ∧ (M W.heap.size W' r (digs B32 (x % y)) ∨ r = va ∧ M 0 W' r (digs B32 (x % y))) ∧ Below W.heap.size W W'
set_option maxHeartbeats 1000000 in
theorem over_one {B B' : Nat} {va vb : Value} {x y : Nat} {W : World} (ha : M B W va (digs B32 x)) (hb : M B' W vb (digs B32 y)) (hx : nd x ≤ 1000000) (hy : y < 4294967296) (hy0 : 0 < y) :
    Calls Tryd.prog 117 #[va, vb] W (OvQ va x y W) := by
  obtain ⟨aa, ca, rfl, hc1, hc2⟩ := ha.slice
  obtain ⟨ab, cb, rfl, hd1, hd2⟩ := hb.slice
  have hly : digs B32 y = [y] := by rw [digs_pos (by decide) hy0, Nat.mod_eq_of_lt hy, Nat.div_eq_of_lt hy, digs_zero]
  have HC := compare_any ha hb (digs_dig (by decide) _) (digs_dig (by decide) _) hx (by rw [hly]; show 1 ≤ _; decide)
  rw [val_digs (by decide), val_digs (by decide)] at HC
  have HCH := Lib.hid HC
  obtain ⟨c, hc⟩ : ∃ c, cmpI x y = c := ⟨_, rfl⟩
  rw [hc] at HCH
  have HA := Lib.hid ha
  have HB := Lib.hid hb
  have e1 : (digs B32 y).length = 1 := by rw [hly]; rfl
  rw [e1] at HB HCH ⊢
  have hnx : (digs B32 x).length = nd x := rfl
  rw [hnx] at HA HCH ⊢
  have hcell := HB.out
  rw [hly] at hcell
  obtain ⟨g, rfl, _, hg⟩ := hcell.block (by simp)
  have hcell2 := hcell.cell (i := 0) (by simp)
  clear HC ha hb hly e1 hcell hnx
  by_cases hlt : x < y
  · have hcn : c < 0 := by rw [← hc]; exact cmpI_neg.2 hlt
    have HE := Lib.hid (And.intro (Nat.div_eq_of_lt hlt) (Nat.mod_eq_of_lt hlt))
    clear hlt hc hcell2
    go_enter Tryd.func117, Tryd.ntmps117
    go_wp2_with fail
    refine HCH.out.mono ?_
    rintro e w ⟨rfl, hb5⟩
    have HB5 := Lib.hid hb5
    clear hb5
    go_wp2
    go_ret2
    refine ⟨_, _, rfl, ?_, ?_, HB5.out⟩
    · rw [HE.out.1, digs_zero]; exact M.nil _ _
    · right; refine ⟨rfl, ?_⟩; rw [HE.out.2]; exact (HA.out.later HB5.out (Nat.le_refl _)).mono (Nat.zero_le _)
  · have hcn : 0 ≤ c := by
      have := cmpI_neg (a := x) (b := y)
      rw [hc] at this
      omega
    have e2 : dg [y] 0 = y := rfl
    rw [e2] at hcell2
    clear e2 hc hlt
    go_enter Tryd.func117, Tryd.ntmps117
    go_wp2_with fail
    refine HCH.out.mono ?_
    rintro e w ⟨rfl, hb5⟩
    have HB5 := Lib.hid hb5
    have hcell3 := cell_after hb5 hcell2
    have HA5 := Lib.hid (HA.out.later hb5 (Nat.le_refl _))
    clear hb5 hcell2
    go_wp2_with fail
    have HP := parted_num y HA5.out hx hy hy0
    refine HP.mono ?_
    rintro e w2 ⟨⟨v2, rfl, hm2⟩, hb2⟩
    have HM2 := Lib.hid hm2
    have HB2 := Lib.hid hb2
    obtain ⟨r, HR⟩ : ∃ r, Hid (x % y = r) := ⟨_, Lib.hid rfl⟩
    have hr : r < 4294967296 := by rw [← HR.out]; exact Nat.lt_trans (Nat.mod_lt _ hy0) hy
    rw [HR.out]
    clear hm2 hb2 HP
    go_wp2_with fail
    refine (trimmed_any (M.one _ r) (Dig.mem (by decide) (by simpa using hr))).mono ?_
    rintro e w3 ⟨rfl, rfl⟩
    go_wp2
    go_ret2
    have hv : val B32 [r] = r := by rw [val_cons, val_nil]; omega
    refine ⟨_, _, rfl, ?_, ?_, ?_⟩
    · exact (HM2.out.later ((Below.refl _ _).alloc (Nat.le_refl _) _) (Nat.le_refl _)).mono HB5.out.size
    · have h1 := (M.one w2 r).trim (Dig.mem (by decide) (by simpa using hr))
      rw [hv] at h1
      rw [HR.out, hv]
      exact Or.inl (h1.mono (Nat.le_trans HB5.out.size HB2.out.size))
    · exact (HB5.out.trans (HB2.out.mono HB5.out.size)).alloc (Nat.le_trans HB5.out.size HB2.out.size) _
end Go.Proofs.YtkpoegdcmnjedaaDoor
namespace Go.Proofs.YtkpoegdcmnjedaaDoor
open Go.RowKit
set_option linter.unusedVariables false
set_option linter.unusedSimpArgs false

/-- a row whose block lies below lo or from hi on. -/
def MN (lo hi : Nat) (W : World) (v : Value) (l : List Nat) : Prop := M 0 W v l ∧ ∀ k, v.ownBlock = some k → k < lo ∨ hi ≤ k
theorem MN.m {lo hi : Nat} {W : World} {v : Value} {l : List Nat} (h : MN lo hi W v l) : M 0 W v l := h.1
theorem MN.old {B hi : Nat} {W : World} {v : Value} {l : List Nat} (h : M B W v l) : MN W.heap.size hi W v l := ⟨h.mono (Nat.zero_le _), fun k e => Or.inl (h.lt k e).2⟩
theorem MN.new {lo hi : Nat} {W : World} {v : Value} {l : List Nat} (h : M hi W v l) : MN lo hi W v l := ⟨h.mono (Nat.zero_le _), fun k e => Or.inr (h.lt k e).1⟩
theorem MN.later {lo hi k : Nat} {W W' : World} {v : Value} {l : List Nat} (h : MN lo hi W v l) (hb : Below k W W') (hk : W.heap.size ≤ k) : MN lo hi W' v l := ⟨h.1.later hb hk, h.2⟩
theorem MN.set {lo hi g : Nat} {W : World} {v : Value} {l : List Nat} (h : MN lo hi W v l) (h1 : lo ≤ g) (h2 : g < hi) (j : Nat) (x : Value) : MN lo hi (W.setCell ⟨g, j, none⟩ x) v l := by
  refine ⟨h.1.kept (grownBy_setCell W g j x) ?_, h.2⟩
  cases e : v.ownBlock with
  | none => exact Or.inl rfl
  | some k => exact Or.inr fun e2 => by have := h.2 k e; cases e2; omega
theorem MN.four {lo hi g : Nat} {W : World} {v : Value} {l : List Nat} (h : MN lo hi W v l) (h1 : lo ≤ g) (h2 : g < hi) (x0 x1 x2 x3 : Value) :
    MN lo hi ((((W.setCell ⟨g, 0, none⟩ x0).setCell ⟨g, 1, none⟩ x1).setCell ⟨g, 2, none⟩ x2).setCell ⟨g, 3, none⟩ x3) v l :=
  (((h.set h1 h2 0 x0).set h1 h2 1 x1).set h1 h2 2 x2).set h1 h2 3 x3
theorem MN.slice3 {lo hi : Nat} {W : World} {v : Value} {l : List Nat} (h : MN lo hi W v l) : ∃ ao n cap, v = .slice ao n cap := h.1.slice3
theorem MN.mk {lo hi K : Nat} {W : World} {ao : Option Addr} {n cap : Nat} {od k : Bool} {a : Nat} {x : Int} (h : MN lo hi W (.slice ao n cap) (digs B32 a)) (ha : x.natAbs = a) (hk : a ≠ 0 → k = decide (x < 0)) (hn : nd a ≤ K) :
    Nm K W (numV (k && (false || decide (0 < n))) (.slice ao n cap) false od) x := Nm.mk h.1 ha hk hn

/-- quotient and rest, rounded down. -/
structure DivP (x y q r : Int) : Prop where
  eq : x = y * q + r
  lo : 0 < y → 0 ≤ r ∧ r < y
  hi : y < 0 → y < r ∧ r ≤ 0
theorem mul_one_le {y d : Int} (hy : 0 < y) (hd : 1 ≤ d) : y ≤ y * d := by
  have := Int.mul_le_mul_of_nonneg_left hd (Int.le_of_lt hy)
  rwa [Int.mul_one] at this
theorem DivP.uniq {x y q r q' r' : Int} (h : DivP x y q r) (h' : DivP x y q' r') (hy : y ≠ 0) : q = q' ∧ r = r' := by
  have e1 := h.eq
  have e2 := h'.eq
  have e : y * (q - q') = r' - r := by
    rw [Int.mul_sub]
    generalize y * q = a at *
    generalize y * q' = b at *
    omega
  have hz : q - q' = 0 := by
    generalize hd : q - q' = d at e ⊢
    rcases Int.lt_trichotomy d 0 with hl | h0 | hg
    · rcases Int.lt_or_gt_of_ne hy with h1 | h1
      · have k1 := h.hi h1; have k2 := h'.hi h1
        have k3 := mul_one_le (y := -y) (d := -d) (by omega) (by omega)
        rw [Int.neg_mul_neg] at k3; omega
      · have k1 := h.lo h1; have k2 := h'.lo h1
        have k3 := mul_one_le (y := y) (d := -d) (by omega) (by omega)
        rw [Int.mul_neg] at k3; omega
    · exact h0
    · rcases Int.lt_or_gt_of_ne hy with h1 | h1
      · have k1 := h.hi h1; have k2 := h'.hi h1
        have k3 := mul_one_le (y := -y) (d := d) (by omega) (by omega)
        rw [Int.neg_mul] at k3; omega
      · have k1 := h.lo h1; have k2 := h'.lo h1
        have k3 := mul_one_le (y := y) (d := d) (by omega) (by omega)
        omega
  rw [hz] at e
  rw [Int.mul_zero] at e
  constructor <;> omega

/-- the quotient's and the rest's first forms. -/
def q0 (x y : Int) : Int := if (decide (x < 0) != decide (y < 0)) = true then -((x.natAbs / y.natAbs : Nat) : Int) else ((x.natAbs / y.natAbs : Nat) : Int)
def r0 (x y : Int) : Int := if x < 0 then -((x.natAbs % y.natAbs : Nat) : Int) else ((x.natAbs % y.natAbs : Nat) : Int)
theorem q0_abs (x y : Int) : (q0 x y).natAbs = x.natAbs / y.natAbs := by unfold q0; split <;> simp only [Int.natAbs_neg, Int.natAbs_natCast]
theorem r0_abs (x y : Int) : (r0 x y).natAbs = x.natAbs % y.natAbs := by unfold r0; split <;> simp only [Int.natAbs_neg, Int.natAbs_natCast]
theorem qr_eq (x y : Int) : x = y * q0 x y + r0 x y := by
  have h : ((y.natAbs : Int)) * ((x.natAbs / y.natAbs : Nat) : Int) + ((x.natAbs % y.natAbs : Nat) : Int) = (x.natAbs : Int) := by
    rw [← Int.natCast_mul, ← Int.natCast_add, Nat.div_add_mod]
  unfold q0 r0
  generalize ((x.natAbs / y.natAbs : Nat) : Int) = q at *
  generalize ((x.natAbs % y.natAbs : Nat) : Int) = r at *
  have e1 : (y.natAbs : Int) = if y < 0 then -y else y := by split <;> omega
  have e2 : (x.natAbs : Int) = if x < 0 then -x else x := by split <;> omega
  rw [e1, e2] at h
  by_cases h1 : x < 0 <;> by_cases h2 : y < 0 <;> simp only [h1, h2, if_true, if_false, decide_true, decide_false, bne_self_eq_false, Bool.false_eq_true, Bool.true_bne, Bool.false_bne, Bool.not_false, Int.neg_mul, Int.mul_neg] at h ⊢ <;> generalize y * q = z at h ⊢ <;> omega
theorem divP_stay {x y : Int} (hy : y ≠ 0) (h : r0 x y = 0 ∨ decide (r0 x y < 0) = decide (y < 0)) : DivP x y (q0 x y) (r0 x y) := by
  have h1 := r0_abs x y
  have h2 : x.natAbs % y.natAbs < y.natAbs := Nat.mod_lt _ (by omega)
  refine ⟨qr_eq x y, fun hp => ?_, fun hn => ?_⟩
  · rcases h with h | h
    · omega
    · rw [decide_eq_false (show ¬ y < 0 by omega), decide_eq_false_iff_not] at h; omega
  · rcases h with h | h
    · omega
    · rw [decide_eq_true hn, decide_eq_true_eq] at h; omega
theorem divP_step {x y : Int} (hy : y ≠ 0) (h0 : r0 x y ≠ 0) (h : decide (r0 x y < 0) ≠ decide (y < 0)) : DivP x y (q0 x y + -1) (r0 x y + y) := by
  have h1 := r0_abs x y
  have h2 : x.natAbs % y.natAbs < y.natAbs := Nat.mod_lt _ (by omega)
  refine ⟨?_, fun hp => ?_, fun hn => ?_⟩
  · have := qr_eq x y
    rw [Int.mul_add]; omega
  · rw [decide_eq_false (show ¬ y < 0 by omega)] at h
    have : r0 x y < 0 := by simpa using h
    omega
  · rw [decide_eq_true hn] at h
    have : ¬ r0 x y < 0 := by simpa using h
    omega
end Go.Proofs.YtkpoegdcmnjedaaDoor
