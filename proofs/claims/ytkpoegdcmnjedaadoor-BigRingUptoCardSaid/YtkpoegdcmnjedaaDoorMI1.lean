import Derived.Test.YtkpoegdcmnjedaaDoorMH4
namespace Go.Proofs.YtkpoegdcmnjedaaDoor
open Go.RowKit
set_option linter.unusedVariables false
set_option linter.unusedSimpArgs false

theorem cmpI_neg {a b : Nat} : cmpI a b < 0 ↔ a < b := by unfold cmpI; (repeat' split) <;> omega
theorem M.one (w : World) (d : Nat) : M w.heap.size (w.alloc (Obj.cells #[.int .u32 (d : Int)] 75)) (.slice (some ⟨w.heap.size, 0, none⟩) 1 1) [d] :=
  ⟨by simp [U32s], Or.inr ⟨w.heap.size, 1, _, rfl, Nat.le_refl _, heap_alloc_new w _, by simp, by simp [maxLen], by simp, by simp [U32s]⟩⟩
/-- what over tells. -/
def OvQ (va : Value) (x y : Nat) (W : World) (e : Ending) (W' : World) : Prop :=
  ∃ q r, e = .returned (.tuple #[q, r]) ∧ M W.heap.size W' q (digs B32 (x / y)) ∧ (M W.heap.size W' r (digs B32 (x % y)) ∨ r = va ∧ M 0 W' r (digs B32 (x % y))) ∧ Below W.heap.size W W'
set_option maxHeartbeats 1000000 in
theorem over_one {B B' : Nat} {va vb : Value} {x y : Nat} {W : World} (ha : M B W va (digs B32 x)) (hb : M B' W vb (digs B32 y)) (hx : nd x ≤ 1000000) (hy : y < 4294967296) (hy0 : 0 < y) :
    Calls Tryd.prog 117 #[va, vb] W (OvQ va x y W) := by
  obtain ⟨aa, ca, rfl, hc1, hc2⟩ := ha.slice
  obtain ⟨ab, cb, rfl, hd1, hd2⟩ := hb.slice
  have hly : digs B32 y = [y] := by rw [digs_pos (by decide) hy0, Nat.mod_eq_of_lt hy, Nat.div_eq_of_lt hy, digs_zero]
  have HC := compare_any ha hb (digs_dig (by decide) _) (digs_dig (by decide) _) hx (by rw [hly]; show 1 ≤ _; decide)
  rw [val_digs (by decide), val_digs (by decide)] at HC
  have HCH := Lib.hid HC
  obtain ⟨c, hc⟩ : ∃ c, cmpI x y = c := ⟨_, rfl⟩
  rw [hc] at HCH
  have HA := Lib.hid ha
  have HB := Lib.hid hb
  have e1 : (digs B32 y).length = 1 := by rw [hly]; rfl
  rw [e1] at HB HCH ⊢
  have hnx : (digs B32 x).length = nd x := rfl
  rw [hnx] at HA HCH ⊢
  have hcell := HB.out
  rw [hly] at hcell
  obtain ⟨g, rfl, _, hg⟩ := hcell.block (by simp)
  have hcell2 := hcell.cell (i := 0) (by simp)
  clear HC ha hb hly e1 hcell hnx
  by_cases hlt : x < y
  · have hcn : c < 0 := by rw [← hc]; exact cmpI_neg.2 hlt
    have HE := Lib.hid (And.intro (Nat.div_eq_of_lt hlt) (Nat.mod_eq_of_lt hlt))
    clear hlt hc hcell2
    go_enter Tryd.func117, Tryd.ntmps117
    go_wp2_with fail
    refine HCH.out.mono ?_
    rintro e w ⟨rfl, hb5⟩
    have HB5 := Lib.hid hb5
    clear hb5
    go_wp2
    go_ret2
    refine ⟨_, _, rfl, ?_, ?_, HB5.out⟩
    · rw [HE.out.1, digs_zero]; exact M.nil _ _
    · right; refine ⟨rfl, ?_⟩; rw [HE.out.2]; exact (HA.out.later HB5.out (Nat.le_refl _)).mono (Nat.zero_le _)
  · have hcn : 0 ≤ c := by
      have := cmpI_neg (a := x) (b := y)
      rw [hc] at this
      omega
    have e2 : dg [y] 0 = y := rfl
    rw [e2] at hcell2
    clear e2 hc hlt
    go_enter Tryd.func117, Tryd.ntmps117
    go_wp2_with fail
    refine HCH.out.mono ?_
    rintro e w ⟨rfl, hb5⟩
    have HB5 := Lib.hid hb5
    have hcell3 := cell_after hb5 hcell2
    have HA5 := Lib.hid (HA.out.later hb5 (Nat.le_refl _))
    clear hb5 hcell2
    go_wp2_with fail
    have HP := parted_num y HA5.out hx hy hy0
    refine HP.mono ?_
    rintro e w2 ⟨⟨v2, rfl, hm2⟩, hb2⟩
    have HM2 := Lib.hid hm2
    have HB2 := Lib.hid hb2
    obtain ⟨r, HR⟩ : ∃ r, Hid (x % y = r) := ⟨_, Lib.hid rfl⟩
    have hr : r < 4294967296 := by rw [← HR.out]; exact Nat.lt_trans (Nat.mod_lt _ hy0) hy
    rw [HR.out]
    clear hm2 hb2 HP
    go_wp2_with fail
    refine (trimmed_any (M.one _ r) (Dig.mem (by decide) (by simpa using hr))).mono ?_
    rintro e w3 ⟨rfl, rfl⟩
    go_wp2
    go_ret2
    have hv : val B32 [r] = r := by rw [val_cons, val_nil]; omega
    refine ⟨_, _, rfl, ?_, ?_, ?_⟩
    · exact (HM2.out.later ((Below.refl _ _).alloc (Nat.le_refl _) _) (Nat.le_refl _)).mono HB5.out.size
    · have h1 := (M.one w2 r).trim (Dig.mem (by decide) (by simpa using hr))
      rw [hv] at h1
      rw [HR.out, hv]
      exact Or.inl (h1.mono (Nat.le_trans HB5.out.size HB2.out.size))
    · exact (HB5.out.trans (HB2.out.mono HB5.out.size)).alloc (Nat.le_trans HB5.out.size HB2.out.size) _
end Go.Proofs.YtkpoegdcmnjedaaDoor
