import Derived.Test.YtkpoegdcmnjedaaDoorRG4
import Derived.Test.YtkpoegdcmnjedaaDoorPR3
import Derived.Test.YtkpoegdcmnjedaaDoorRF6
import Derived.Test.YtkpoegdcmnjedaaDoorSB3
import Derived.Test.YtkpoegdcmnjedaaDoorRF4
namespace Go.Proofs.YtkpoegdcmnjedaaDoor
open Go.RowKit
set_option linter.unusedVariables false
set_option linter.unusedSimpArgs false

/-! ### the reference's Sign -/
/-- what Sign tells. -/
def SgQ (s : ByteArray) (W : World) (e : Ending) (W' : World) : Prop :=
  ∃ c er : Int, e = .returned (.tuple #[.int .i64 c, .int .i64 er]) ∧
    ((¬ IsNum s ∧ c = 0 ∧ er = 2) ∨ (IsNum s ∧ Lim ≤ natT s ∧ c = 0 ∧ er = 4) ∨ (IsNum s ∧ natT s < Lim ∧ c = cmpZ (valT s) 0 ∧ er = 0)) ∧ Below W.heap.size W W'
set_option maxRecDepth 100000 in
set_option maxHeartbeats 2000000 in
theorem ref_sign_any (s : ByteArray) (W : World) (hs : s.size ≤ 400000) : Calls Tryd.prog 40 #[.string s] W (SgQ s W) := by
  go_enter Tryd.func40, Tryd.ntmps40
  go_wp2_with fail
  refine (ref_one_any s _ (by omega)).mono ?_
  rintro e w2 ⟨m, ao, nn, cap, er, rfl, hd, hb⟩
  obtain ⟨V2, hV2, hbx, vb2, vs2⟩ := box2_new w2 (.bool m) (.slice ao nn cap)
  have HB2 := Lib.hid (hb.trans (vb2.mono hb.size))
  have FX := Lib.hid hbx
  have HV2 := Lib.hid vb2
  clear hb
  go_upto_region 2 with (fail)
  rw [← hV2]
  clear hV2 hbx vb2
  rcases hd with ⟨h1, rfl⟩ | ⟨h1, rfl, hrn⟩
  · go_wp2
    exact bodyPost_ret (v := .tuple #[.int .i64 0, .int .i64 2]) (by simp [results, Tryd.results40, go_sem]) rfl ⟨0, 2, rfl, Or.inl ⟨h1, rfl, rfl⟩, HB2.out⟩
  obtain ⟨x, hq, hx⟩ := hrn
  have HQ := Lib.hid (hq.later HV2.out (Nat.le_refl _))
  obtain ⟨lb, HLB⟩ : ∃ b, Hid (decide (Lim ≤ x.natAbs) = b) := ⟨_, Lib.hid rfl⟩
  have H86 : Hid (Calls Tryd.prog 86 #[numR m (.slice ao nn cap)] V2 fun e W' => e = .returned (.bool lb) ∧ Below V2.heap.size V2 W') := Lib.hid (by have := ref_Long_any HQ.out; rw [HLB.out] at this; exact this)
  obtain ⟨x0, x1, x2, x3⟩ := FX.out
  rcases hx with ⟨hlt, hxv⟩ | ⟨hge, hge2, _⟩
  case inr =>
    obtain rfl : lb = true := by rw [← HLB.out]; exact decide_eq_true hge2
    clear hq
    go_wp2_with ((go_at_call 86; (with_reducible refine H86.out.mono ?_); rintro e w3 ⟨rfl, hb3⟩; have HB3 := Lib.hid hb3; clear hb3))
    exact bodyPost_ret (v := .tuple #[.int .i64 0, .int .i64 4]) (by simp [results, Tryd.results40, go_sem]) rfl ⟨0, 4, rfl, Or.inr (Or.inl ⟨h1, hge, rfl, rfl⟩), HB2.out.trans (HB3.out.mono HB2.out.size)⟩
  have hxl : x.natAbs < Lim := by rw [hxv, valT_abs]; exact hlt
  obtain rfl : lb = false := by rw [← HLB.out]; exact decide_eq_false (by omega)
  have HNX : Hid (nt x.natAbs ≤ 1000000) := Lib.hid (Nat.le_trans (nt_lim'.2 hxl) (by decide))
  clear hq
  go_upto_region 6 with ((go_at_call 86; (with_reducible refine H86.out.mono ?_); rintro e w3 ⟨rfl, hb3⟩; have HB3 := Lib.hid hb3; clear hb3))
  have r3 := FX.out.after HB3.out
  obtain ⟨y0, y1, -, -⟩ := r3
  have HQ3 := Lib.hid (HQ.out.later HB3.out (Nat.le_refl _))
  obtain ⟨cz, HCZ⟩ : ∃ c, Hid (cmpZ x 0 = c) := ⟨_, Lib.hid rfl⟩
  have FX3 := Lib.hid (FX.out.after HB3.out)
  have HXV := Lib.hid hxv
  clear x0 x1 x2 x3 HQ HCZ hxv
  go_region_held3 (fun w' => (w'.cell? ⟨w2.heap.size, 0, none⟩ = some (.bool m) ∧ w'.cell? ⟨w2.heap.size, 1, none⟩ = some (.slice ao nn cap))) (with_reducible first | (with_reducible exact two_cells (FX3.out.after (Below.drew (Below.refl _ _)))) | (with_reducible exact two_cells (FX3.out.after HW8.out)) | (with_reducible exact two_cells (FX3.out.after HW9.out))) (first | (go_at_call 85; (with_reducible refine (ref_whole_any 0 _ (by decide) (by decide)).mono ?_); rintro e w8 ⟨⟨v8, rfl, hm8⟩, hb8⟩; have HM8 := Lib.hid hm8; have HW8 := Lib.hid (undrew hb8); clear hm8 hb8) | (go_at_call 72; (with_reducible refine (ref_order72_any (HQ3.out.later HW8.out (Nat.le_refl _)) HM8.out HNX.out (by decide +kernel)).mono ?_); rintro e w9 ⟨rfl, hb9⟩; have HW9 := Lib.hid (HW8.out.trans (hb9.mono HW8.out.size)); clear hb9))
  all_goals
    go_wp2
    exact bodyPost_ret (v := .tuple #[.int .i64 (cmpZ x 0), .int .i64 0]) (by simp [results, Tryd.results40, go_sem]) rfl ⟨_, 0, rfl, Or.inr (Or.inr ⟨h1, hlt, congrArg (fun z => cmpZ z 0) HXV.out, rfl⟩), (HB2.out.trans (HB3.out.mono HB2.out.size)).trans (HW9.out.mono (Nat.le_trans HB2.out.size HB3.out.size))⟩
end Go.Proofs.YtkpoegdcmnjedaaDoor
namespace Go.Proofs.YtkpoegdcmnjedaaDoor
open Go.RowKit
set_option linter.unusedVariables false
set_option linter.unusedSimpArgs false

/-! ### the reference's Div, given what Divided tells -/
def DvH (x y q r : Int) : Prop := ∀ (B B' : Nat) (W : World) (va vb : Value), Qn B W va x → Qn B' W vb y → Calls Tryd.prog 78 #[va, vb] W fun e W' => (∃ v1 v2, e = .returned (.tuple #[v1, v2]) ∧ Qn W.heap.size W' v1 q ∧ Qn W.heap.size W' v2 r) ∧ Below W.heap.size W W'
theorem dvH_pos {x y : Int} (hx : nt x.natAbs ≤ 400000) (hy : nt y.natAbs ≤ 400000) (hy0 : 0 < y) : DvH x y (x / y) (x % y) := fun B B' W va vb ha hb => ref_Divided_any ha hb hx hy hy0
set_option maxRecDepth 100000 in
set_option maxHeartbeats 4000000 in
/-- told of a number, with one other. -/
theorem ref_told_one {B B1 g : Nat} {W : World} {v : Value} {x x1 : Int} {m1 : Bool} {a1 : Option Addr} {n1 p1 : Nat} (h : Qn B W v x) (h1 : Qn B1 W (numR m1 (.slice a1 n1 p1)) x1) (ht : Box2 g (.bool m1) (.slice a1 n1 p1) W) (hx : x.natAbs < Lim) (hx1 : x1.natAbs < Lim) :
    Calls Tryd.prog 61 #[v, .slice (some ⟨g, 0, none⟩) 1 1] W fun e W' => e = .returned (.tuple #[.string (ren x), .int .i64 0]) ∧ Below W.heap.size W W' := by
  obtain ⟨m, a, n, p, rfl, hq, -, -, -⟩ := h.parts
  obtain ⟨V, hV, hbox, vb, vs⟩ := box2_new W (.bool m) (.slice a n p)
  have HBX := Lib.hid hbox
  have HVB := Lib.hid vb
  have HQ := Lib.hid (hq.later vb (Nat.le_refl _))
  have H1 := Lib.hid (h1.later vb (Nat.le_refl _))
  have HT := Lib.hid (ht.after vb)
  obtain ⟨k0, k1, -, -⟩ := HT.out
  have HL1 := Lib.hid (long_is (b := false) (x := x1) (decide_eq_false (by omega)))
  have HL0 := Lib.hid (long_is (b := false) (x := x) (decide_eq_false (by omega)))
  have HNT : Hid (nt x.natAbs ≤ 1000000) := Lib.hid (by have := nt_lim' (n := x.natAbs); omega)
  clear hbox vb hq h h1 ht hx hx1
  have hz := HVB.out.size
  go_enter Tryd.func61, Tryd.ntmps61
  go_upto_region 1 with (fail)
  rw [← hV]
  clear hV
  go_wp2
  refine wp_loop_rounds 2 ?_
  rw [rounds_succ]
  go_wp2_with fail
  refine (HL1.out _ _ _ (H1.out.later ((Below.refl _ _).alloc (Nat.le_refl _) _) (Nat.le_refl _))).mono ?_
  rintro e w3 ⟨rfl, hb3⟩
  have HW3 : Hid (Below V.heap.size V w3) := Lib.hid (((Below.refl _ _).alloc (Nat.le_refl _) _).trans (hb3.mono (by simp)))
  clear hb3
  have HBX3 := Lib.hid (HBX.out.after HW3.out)
  obtain ⟨c0, c1, -, -⟩ := HBX3.out
  clear k0 k1
  go_wp2
  rw [rounds_succ]
  go_wp2_with fail
  refine (HL0.out _ _ _ (HQ.out.later HW3.out (Nat.le_refl _))).mono ?_
  rintro e w4 ⟨rfl, hb4⟩
  have HW4 : Hid (Below V.heap.size V w4) := Lib.hid (HW3.out.trans (hb4.mono HW3.out.size))
  have d0 := cell_after hb4 c0
  have d1 := cell_after hb4 c1
  clear hb4
  go_wp2_with fail
  refine (ref_Text_any (HQ.out.later HW4.out (Nat.le_refl _)) HNT.out).mono ?_
  rintro e w5 ⟨rfl, hb5⟩
  have HW5 : Hid (Below V.heap.size V w5) := Lib.hid (HW4.out.trans (hb5.mono HW4.out.size))
  clear hb5
  go_wp2
  go_ret2
  exact ⟨rfl, HVB.out.trans (HW5.out.mono hz)⟩
set_option maxRecDepth 100000 in
set_option maxHeartbeats 4000000 in
theorem ref_div_any (a b : ByteArray) (W : World) (ha : a.size ≤ 400000) (hb : b.size ≤ 400000) (HD : natT a < Lim → natT b < Lim → natT b ≠ 0 → ∃ q r, DivP (valT a) (valT b) q r ∧ DvH (valT a) (valT b) q r) :
    Calls Tryd.prog 26 #[.string a, .string b] W (DvQ a b W) := by
  have HDH := Lib.hid HD
  clear HD
  go_enter Tryd.func26, Tryd.ntmps26
  go_wp2_with fail
  refine (ref_both_any a b _ (by omega) (by omega)).mono ?_
  rintro e w2 ⟨m1, ao1, n1, cap1, m2, ao2, n2, cap2, er, rfl, hd, hbd⟩
  have HB := Lib.hid hbd
  clear hbd
  rcases hd with ⟨h1, rfl⟩ | ⟨h1, rfl, h2, h3⟩
  · go_wp2
    exact bodyPost_ret (v := .tuple #[.string ⟨#[]⟩, .string ⟨#[]⟩, .int .i64 2]) (by simp [results, Tryd.results26, go_sem]) rfl ⟨_, _, 2, rfl, Or.inl ⟨h1, rfl, rfl, rfl⟩, ((HB.out.alloc HB.out.size _).alloc (by have := HB.out.size; simp; omega) _)⟩
  · obtain ⟨x, hx1, hx2, hx3, hx4⟩ := h2.read h1.1 ha
    obtain ⟨y, hy1, hy2, hy3, hy4⟩ := h3.read h1.2 hb
    obtain ⟨V1, hV1, hbox1, vb1, vs1⟩ := box2_new w2 (.bool m1) (.slice ao1 n1 cap1)
    obtain ⟨V, hV, hbox, vb, vs⟩ := box2_new V1 (.bool m2) (.slice ao2 n2 cap2)
    rw [vs1] at hbox
    have hl2 : n2 = nt y.natAbs := by
      obtain ⟨_, _, _, _, e', _, _, _, h5⟩ := hy1.parts
      simp only [numR, Value.agg.injEq, Array.mk.injEq, List.cons.injEq, Value.slice.injEq] at e'
      rw [e'.2.1.2.1]; exact h5
    have hvb := vb1.trans (vb.mono (by omega))
    have HVB := Lib.hid hvb
    have F1 := Lib.hid (hbox1.after vb)
    have F2 := Lib.hid hbox
    have HX := Lib.hid (hx1.later hvb (Nat.le_refl _))
    have HY := Lib.hid (hy1.later hvb (Nat.le_refl _))
    have HVS : Hid (V.heap.size = w2.heap.size + 2) := Lib.hid (by omega)
    obtain ⟨sb, HSB⟩ : ∃ b, Hid ((!decide (Lim ≤ x.natAbs) && !decide (Lim ≤ y.natAbs)) = b) := ⟨_, Lib.hid rfl⟩
    have HSN : Hid (sb = true ↔ natT a < Lim ∧ natT b < Lim) := Lib.hid (by
      rw [← HSB.out, Bool.and_eq_true, Bool.not_eq_true', Bool.not_eq_true', decide_eq_false_iff_not, decide_eq_false_iff_not, hx3, hy3]; omega)
    have HVL : Hid (natT a < Lim ∧ natT b < Lim → x = valT a ∧ y = valT b) := Lib.hid fun h => ⟨hx4 h.1, hy4 h.2⟩
    have hz0 : n2 = 0 ↔ natT b = 0 := by
      have hlp : 0 < Lim := by unfold Lim; decide +kernel
      rw [hl2]
      constructor
      · intro h
        have h0 : y.natAbs = 0 := nt_eq_zero h
        by_cases hl : natT b < Lim
        · have := hy4 hl
          have h6 := valT_abs b
          rw [← this] at h6; omega
        · have := hy3.2 (by omega); omega
      · intro h
        have h5 := hy4 (by omega)
        have h6 := valT_abs b
        rw [← h5, h] at h6
        rw [h6]; exact nt_zero
    have HZ := Lib.hid hz0
    have hsh := ref_short_two (HX.out.later ((Below.refl V.heap.size V).alloc (Nat.le_refl _) (Obj.cells #[.bool m1, .slice ao1 n1 cap1, .bool m2, .slice ao2 n2 cap2] 51)) (Nat.le_refl _)) (HY.out.later ((Below.refl V.heap.size V).alloc (Nat.le_refl _) (Obj.cells #[.bool m1, .slice ao1 n1 cap1, .bool m2, .slice ao2 n2 cap2] 51)) (Nat.le_refl _)) (Two4.new V m1 m2 (.slice ao1 n1 cap1) (.slice ao2 n2 cap2))
    rw [HSB.out] at hsh
    have HSH := Lib.hid hsh
    have HI := Lib.hid h1
    have hVV : V = (w2.alloc (Obj.cells #[.bool m1, .slice ao1 n1 cap1] 51)).alloc (Obj.cells #[.bool m2, .slice ao2 n2 cap2] 51) := by rw [hV, hV1]
    obtain ⟨c0, c1, -, -⟩ := F1.out
    obtain ⟨d0, d1, -, -⟩ := F2.out
    have HWV : Hid (Below W.heap.size W V) := Lib.hid (HB.out.trans (HVB.out.mono HB.out.size))
    clear hbox hvb vb hV hV1 hbox1 vb1 vs vs1 hx1 hy1 hx2 hy2 hx3 hy3 hx4 hy4 h2 h3 h1 hsh hl2 hz0
    go_upto_region 4 with (fail)
    rw [← hVV]
    clear hVV
    by_cases hn : n2 = 0
    · have HN0 : Hid (natT b = 0) := Lib.hid (HZ.out.1 hn)
      subst hn
      go_wp2
      exact bodyPost_ret (v := .tuple #[.string ⟨#[]⟩, .string ⟨#[]⟩, .int .i64 10]) (by simp [results, Tryd.results26, go_sem]) rfl ⟨_, _, 10, rfl, Or.inr (Or.inl ⟨HI.out, HN0.out, rfl, rfl, rfl⟩), HWV.out⟩
    have HN0 : Hid (natT b ≠ 0) := Lib.hid fun h => hn (HZ.out.2 h)
    have hnp : 0 < n2 := Nat.pos_of_ne_zero hn
    go_wp2_with fail
    refine HSH.out.mono ?_
    rintro e w3 ⟨rfl, hb3⟩
    have HW3 : Hid (Below V.heap.size V w3) := Lib.hid (((Below.refl _ _).alloc (Nat.le_refl _) _).trans (hb3.mono (by simp)))
    clear hb3
    obtain ⟨k0, k1, -, -⟩ := F1.out.after HW3.out
    obtain ⟨l0, l1, -, -⟩ := F2.out.after HW3.out
    have HWW : Hid (Below W.heap.size W w3) := Lib.hid (HWV.out.trans (HW3.out.mono HWV.out.size))
    clear c0 c1 d0 d1
    cases sb
    · have HL : Hid (Lim ≤ natT a ∨ Lim ≤ natT b) := Lib.hid (by
        have h := HSN.out
        by_cases h1 : natT a < Lim
        · by_cases h2 : natT b < Lim
          · have := h.2 ⟨h1, h2⟩; cases this
          · right; omega
        · left; omega)
      go_wp2
      exact bodyPost_ret (v := .tuple #[.string ⟨#[]⟩, .string ⟨#[]⟩, .int .i64 4]) (by simp [results, Tryd.results26, go_sem]) rfl ⟨_, _, 4, rfl, Or.inr (Or.inr (Or.inl ⟨HI.out, HN0.out, HL.out, rfl, rfl, rfl⟩)), HWW.out⟩
    · have HL := Lib.hid (HSN.out.1 rfl)
      obtain ⟨ex, ey⟩ := HVL.out HL.out
      obtain ⟨q, r, hp, hdv⟩ := HDH.out HL.out.1 HL.out.2 HN0.out
      have HP := Lib.hid hp
      have hyn : valT b ≠ 0 := fun h => HN0.out (valT_zero.1 h)
      have hab := divP_abs hp hyn
      have HAB : Hid (q.natAbs < Lim ∧ r.natAbs < Lim) := Lib.hid (by have h1 := valT_abs a; have h2 := valT_abs b; have h3 := HL.out; omega)
      have HNR : Hid (nt r.natAbs ≤ 1000000) := Lib.hid (Nat.le_trans (nt_lim'.2 HAB.out.2) (by decide))
      have H78 := Lib.hid (hdv _ _ _ _ _ (by rw [← ex]; exact HX.out.later HW3.out (Nat.le_refl _)) (by rw [← ey]; exact HY.out.later HW3.out (Nat.le_refl _)))
      clear hdv hp hab ex ey hyn
      go_wp2_with fail
      refine H78.out.mono ?_
      rintro e w4 ⟨⟨v1, v2, rfl, hq4, hr4⟩, hb4⟩
      obtain ⟨m5, a5, n5, p5, rfl, _, _⟩ := hq4.view
      obtain ⟨m6, a6, n6, p6, rfl, _, _⟩ := hr4.view
      obtain ⟨U1, hU1, ubox1, ub1, us1⟩ := box2_new w4 (.bool m5) (.slice a5 n5 p5)
      obtain ⟨U, hU, ubox, ub, us⟩ := box2_new U1 (.bool m6) (.slice a6 n6 p6)
      rw [us1] at ubox
      have hub := ub1.trans (ub.mono (by omega))
      have G1 := Lib.hid (ubox1.after ub)
      have G2 := Lib.hid ubox
      have HQ4 := Lib.hid (hq4.later hub (Nat.le_refl _))
      have HR4 := Lib.hid (hr4.later hub (Nat.le_refl _))
      have HWU : Hid (Below W.heap.size W U) := Lib.hid ((HWW.out.trans (hb4.mono HWW.out.size)).trans (hub.mono (Nat.le_trans HWW.out.size hb4.size)))
      have hUU : U = (w4.alloc (Obj.cells #[.bool m5, .slice a5 n5 p5] 51)).alloc (Obj.cells #[.bool m6, .slice a6 n6 p6] 51) := by rw [hU, hU1]
      obtain ⟨c0, c1, -, -⟩ := G1.out
      obtain ⟨d0, d1, -, -⟩ := G2.out
      clear hq4 hr4 hb4 hU hU1 ubox ubox1 ub ub1 us us1 hub k0 k1 l0 l1
      go_upto_region 9 with (fail)
      rw [← hUU]
      clear hUU
      go_wp2_with fail
      refine (ref_told_one (HQ4.out.later ((Below.refl _ _).alloc (Nat.le_refl _) _) (Nat.le_refl _)) (HR4.out.later ((Below.refl _ _).alloc (Nat.le_refl _) _) (Nat.le_refl _)) (Box2.of (heap_alloc_new U _)) HAB.out.1 HAB.out.2).mono ?_
      rintro e w5 ⟨rfl, hb5⟩
      have HW5 : Hid (Below U.heap.size U w5) := Lib.hid (((Below.refl _ _).alloc (Nat.le_refl _) _).trans (hb5.mono (by simp)))
      clear hb5 c0 c1 d0 d1
      obtain ⟨d0, d1, -, -⟩ := G2.out.after HW5.out
      go_wp2_with fail
      refine (ref_Text_any (HR4.out.later HW5.out (Nat.le_refl _)) HNR.out).mono ?_
      rintro e w6 ⟨rfl, hb6⟩
      have HB6 := Lib.hid hb6
      clear hb6
      go_wp2
      exact bodyPost_ret (v := .tuple #[.string (ren q), .string (ren r), .int .i64 0]) (by simp [results, Tryd.results26, go_sem]) rfl ⟨_, _, 0, rfl, Or.inr (Or.inr (Or.inr ⟨HI.out, HN0.out, HL.out.1, HL.out.2, ⟨q, r, HP.out, rfl, rfl⟩, rfl⟩)), (HWU.out.trans (HW5.out.mono HWU.out.size)).trans (HB6.out.mono (Nat.le_trans HWU.out.size HW5.out.size))⟩
end Go.Proofs.YtkpoegdcmnjedaaDoor
