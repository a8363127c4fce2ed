import Derived.Test.YtkpoegdcmnjedaaDoorMI3
import Derived.Test.YtkpoegdcmnjedaaDoorSA1
import Derived.Test.YtkpoegdcmnjedaaDoorRE1
namespace Go.Proofs.YtkpoegdcmnjedaaDoor
open Go.RowKit
set_option linter.unusedVariables false
set_option linter.unusedSimpArgs false

set_option maxHeartbeats 1000000 in
/-- the sign of a number that is too long. -/
theorem sign_long (m od : Bool) (ao : Option Addr) (n cap : Nat) (W : World) : Calls Tryd.prog 75 #[numV m (.slice ao n cap) true od] W fun e W' => (∃ c : Int, e = .returned (.int .i64 c) ∧ c ≠ 0) ∧ Below W.heap.size W W' := by
  cases m
  · go_enter Tryd.func75, Tryd.ntmps75
    go_wp2
    go_ret
    exact ⟨⟨1, rfl, by decide⟩, (Below.refl _ _).alloc (Nat.le_refl _) _⟩
  · go_enter Tryd.func75, Tryd.ntmps75
    go_wp2
    go_ret
    exact ⟨⟨-1, rfl, by decide⟩, (Below.refl _ _).alloc (Nat.le_refl _) _⟩
theorem divP_abs {a b x y : Int} (h : DivP a b x y) (hb : b ≠ 0) : x.natAbs ≤ a.natAbs ∧ y.natAbs < b.natAbs := by
  have key : ∀ a b x y : Int, 0 < b → a = b * x + y → 0 ≤ y → y < b → x.natAbs ≤ a.natAbs := by
    intro a b x y hb he h0 h1
    by_cases hx : 0 ≤ x
    · have := Int.mul_le_mul_of_nonneg_right (show (1 : Int) ≤ b by omega) hx
      rw [Int.one_mul] at this
      generalize b * x = z at *
      omega
    · have h2 : b * (x + 1) ≤ 1 * (x + 1) := Int.mul_le_mul_of_nonpos_right (by omega) (by omega)
      rw [Int.mul_add, Int.mul_one, Int.one_mul] at h2
      generalize b * x = z at *
      omega
  have he := h.eq
  rcases Int.lt_or_gt_of_ne hb with h1 | h1
  · have h2 := h.hi h1
    have h3 := key (-a) (-b) x (-y) (by omega) (by rw [Int.neg_mul]; generalize b * x = z at *; omega) (by omega) (by omega)
    exact ⟨by omega, by omega⟩
  · have h2 := h.lo h1
    exact ⟨key a b x y h1 he h2.1 h2.2, by omega⟩
theorem two_boxes (w : World) (x0 x1 x2 x3 y0 y1 y2 y3 : Value) : ∃ V, V = (w.alloc (Obj.cells #[x0, x1, x2, x3] 46)).alloc (Obj.cells #[y0, y1, y2, y3] 46) ∧ Box4 w.heap.size x0 x1 x2 x3 V ∧ Box4 (w.heap.size + 1) y0 y1 y2 y3 V ∧ Below w.heap.size w V ∧ V.heap.size = w.heap.size + 2 := by
  obtain ⟨V1, hV1, hbox1, vb1, vs1⟩ := box_new w x0 x1 x2 x3
  obtain ⟨V, hV, hbox, vb, vs⟩ := box_new V1 y0 y1 y2 y3
  rw [vs1] at hbox
  exact ⟨V, by rw [hV, hV1], hbox1.after vb, hbox, vb1.trans (vb.mono (by omega)), by omega⟩
theorem valT_zero {s : ByteArray} : valT s = 0 ↔ natT s = 0 := by rw [← valT_abs]; omega
/-- what Div tells. -/
def DvQ (a b : ByteArray) (W : World) (e : Ending) (W' : World) : Prop :=
  ∃ (q r : ByteArray) (er : Int), e = .returned (.tuple #[.string q, .string r, .int .i64 er]) ∧
    ((¬ (IsNum a ∧ IsNum b) ∧ q = ⟨#[]⟩ ∧ r = ⟨#[]⟩ ∧ er = 2) ∨ ((IsNum a ∧ IsNum b) ∧ natT b = 0 ∧ q = ⟨#[]⟩ ∧ r = ⟨#[]⟩ ∧ er = 10) ∨
     ((IsNum a ∧ IsNum b) ∧ natT b ≠ 0 ∧ (Lim ≤ natT a ∨ Lim ≤ natT b) ∧ q = ⟨#[]⟩ ∧ r = ⟨#[]⟩ ∧ er = 4) ∨
     ((IsNum a ∧ IsNum b) ∧ natT b ≠ 0 ∧ natT a < Lim ∧ natT b < Lim ∧ (∃ x y, DivP (valT a) (valT b) x y ∧ q = ren x ∧ r = ren y) ∧ er = 0)) ∧ Below W.heap.size W W'
theorem told_small {x : Int} (h : x.natAbs < Lim) : toldS x = ren x ∧ toldE x = 0 := by
  unfold toldS toldE; rw [if_pos h, if_pos h]; exact ⟨rfl, rfl⟩
set_option maxRecDepth 100000 in
set_option maxHeartbeats 4000000 in
theorem div_any (a b : ByteArray) (W : World) (ha : a.size ≤ 1000000) (hb : b.size ≤ 1000000) (HO : natT a < Lim → natT b < Lim → natT b ≠ 0 → OverH (natT a) (natT b)) :
    Calls Tryd.prog 25 #[.string a, .string b] W (DvQ a b W) := by
  go_enter Tryd.func25, Tryd.ntmps25
  go_wp2_with (go_at_call 69; refine (parseTwo_any a b _ ha hb).mono ?_; rintro e w2 ⟨m1, ao1, n1, cap1, lg1, od1, m2, ao2, n2, cap2, lg2, od2, er, rfl, hd, hbd⟩; have HD := Lib.hid hd; have HB := Lib.hid hbd; clear hd hbd; rcases HD.out with ⟨h1, rfl⟩ | ⟨h1, rfl, h2 | ⟨h2, rfl, h3⟩, h4 | ⟨h4, rfl, h5⟩⟩)
  · exact bodyPost_ret (v := .tuple #[.string ⟨#[]⟩, .string ⟨#[]⟩, .int .i64 2]) (by simp [results, Tryd.results25, go_sem]) rfl ⟨_, _, 2, rfl, Or.inl ⟨h1, rfl, rfl, rfl⟩, ((HB.out.alloc HB.out.size _).alloc (by have := HB.out.size; simp; omega) _)⟩
  · obtain ⟨h2, rfl⟩ := h2
    obtain ⟨h4, rfl⟩ := h4
    have HH := Lib.hid (And.intro h2 h4)
    clear h2 h4
    obtain ⟨V, hV, hx1, hx2, vb, vs⟩ := two_boxes w2 (.bool m1) (.slice ao1 n1 cap1) (.bool true) (.bool od1) (.bool m2) (.slice ao2 n2 cap2) (.bool true) (.bool od2)
    rw [← hV]
    clear hV
    have HX1 := Lib.hid hx1
    have HX2 := Lib.hid hx2
    have HVB := Lib.hid vb
    have HBS := Lib.hid HB.out.size
    clear hx1 hx2 vb
    refine (sign_long _ _ _ _ _ _).mono ?_
    rintro e w4 ⟨⟨c, rfl, hc⟩, hb4⟩
    have HB4 := Lib.hid hb4
    have k1 := (HX1.out.after hb4).c2
    have k2 := (HX2.out.after hb4).c2
    have hc1 : (c == 0) = false := by rw [beq_eq_false_iff_ne]; exact hc
    clear hb4
    go_wp2
    exact bodyPost_ret (v := .tuple #[.string ⟨#[]⟩, .string ⟨#[]⟩, .int .i64 4]) (by simp [results, Tryd.results25, go_sem]) rfl ⟨_, _, 4, rfl, Or.inr (Or.inr (Or.inl ⟨h1, by have := HH.out.2; have := lim_pos; omega, Or.inl HH.out.1, rfl, rfl, rfl⟩)), (HB.out.trans (HVB.out.mono HBS.out)).trans (HB4.out.mono (by have := HBS.out; omega))⟩
  · obtain ⟨h2, rfl⟩ := h2
    have HH := Lib.hid h2
    have H5 := Lib.hid h5
    clear h2 h5
    obtain ⟨V, hV, hx1, hx2, vb, vs⟩ := two_boxes w2 (.bool m1) (.slice ao1 n1 cap1) (.bool true) (.bool od1) (.bool m2) (.slice ao2 n2 cap2) (.bool false) (.bool od2)
    rw [← hV]
    clear hV
    have HX1 := Lib.hid hx1
    have HX2 := Lib.hid hx2
    have HVB := Lib.hid vb
    have HBS := Lib.hid HB.out.size
    clear hx1 hx2 vb
    have HS := Lib.hid (sign_any (H5.out.later HVB.out (Nat.le_refl _)))
    by_cases h0 : valT b = 0
    · rw [sgnZ_zero h0] at HS
      have HZ := Lib.hid (valT_zero.1 h0)
      clear h0
      refine HS.out.mono ?_
      rintro e w4 ⟨rfl, hb4⟩
      have HB4 := Lib.hid hb4
      clear hb4
      go_wp2
      exact bodyPost_ret (v := .tuple #[.string ⟨#[]⟩, .string ⟨#[]⟩, .int .i64 10]) (by simp [results, Tryd.results25, go_sem]) rfl ⟨_, _, 10, rfl, Or.inr (Or.inl ⟨h1, HZ.out, rfl, rfl, rfl⟩), (HB.out.trans (HVB.out.mono HBS.out)).trans (HB4.out.mono (by have := HBS.out; omega))⟩
    · have hc := sgnZ_ne h0
      have HZ := Lib.hid (fun e => h0 (valT_zero.2 e))
      generalize sgnZ (valT b) = c at HS hc
      clear h0
      refine HS.out.mono ?_
      rintro e w4 ⟨rfl, hb4⟩
      have HB4 := Lib.hid hb4
      have k1 := (HX1.out.after hb4).c2
      have hc1 : (c == 0) = false := by rw [beq_eq_false_iff_ne]; exact hc
      clear hb4
      go_wp2
      exact bodyPost_ret (v := .tuple #[.string ⟨#[]⟩, .string ⟨#[]⟩, .int .i64 4]) (by simp [results, Tryd.results25, go_sem]) rfl ⟨_, _, 4, rfl, Or.inr (Or.inr (Or.inl ⟨h1, HZ.out, Or.inl HH.out, rfl, rfl, rfl⟩)), (HB.out.trans (HVB.out.mono HBS.out)).trans (HB4.out.mono (by have := HBS.out; omega))⟩
  · obtain ⟨h4, rfl⟩ := h4
    have HH := Lib.hid h4
    clear h4 h3
    obtain ⟨V, hV, hx1, hx2, vb, vs⟩ := two_boxes w2 (.bool m1) (.slice ao1 n1 cap1) (.bool false) (.bool od1) (.bool m2) (.slice ao2 n2 cap2) (.bool true) (.bool od2)
    rw [← hV]
    clear hV
    have HX1 := Lib.hid hx1
    have HX2 := Lib.hid hx2
    have HVB := Lib.hid vb
    have HBS := Lib.hid HB.out.size
    clear hx1 hx2 vb
    refine (sign_long _ _ _ _ _ _).mono ?_
    rintro e w4 ⟨⟨c, rfl, hc⟩, hb4⟩
    have HB4 := Lib.hid hb4
    have k1 := (HX1.out.after hb4).c2
    have k2 := (HX2.out.after hb4).c2
    have hc1 : (c == 0) = false := by rw [beq_eq_false_iff_ne]; exact hc
    clear hb4
    go_wp2
    exact bodyPost_ret (v := .tuple #[.string ⟨#[]⟩, .string ⟨#[]⟩, .int .i64 4]) (by simp [results, Tryd.results25, go_sem]) rfl ⟨_, _, 4, rfl, Or.inr (Or.inr (Or.inl ⟨h1, by have := HH.out; have := lim_pos; omega, Or.inr HH.out, rfl, rfl, rfl⟩)), (HB.out.trans (HVB.out.mono HBS.out)).trans (HB4.out.mono (by have := HBS.out; omega))⟩
  · have H3 := Lib.hid h3
    have H5 := Lib.hid h5
    have HH := Lib.hid (And.intro h2 h4)
    clear h2 h4 h3 h5
    obtain ⟨V, hV, hx1, hx2, vb, vs⟩ := two_boxes w2 (.bool m1) (.slice ao1 n1 cap1) (.bool false) (.bool od1) (.bool m2) (.slice ao2 n2 cap2) (.bool false) (.bool od2)
    rw [← hV]
    clear hV
    have HX1 := Lib.hid hx1
    have HX2 := Lib.hid hx2
    have HVB := Lib.hid vb
    have HBS := Lib.hid HB.out.size
    clear hx1 hx2 vb
    have HS := Lib.hid (sign_any (H5.out.later HVB.out (Nat.le_refl _)))
    by_cases h0 : valT b = 0
    · rw [sgnZ_zero h0] at HS
      have HZ := Lib.hid (valT_zero.1 h0)
      clear h0
      refine HS.out.mono ?_
      rintro e w4 ⟨rfl, hb4⟩
      have HB4 := Lib.hid hb4
      clear hb4
      go_wp2
      exact bodyPost_ret (v := .tuple #[.string ⟨#[]⟩, .string ⟨#[]⟩, .int .i64 10]) (by simp [results, Tryd.results25, go_sem]) rfl ⟨_, _, 10, rfl, Or.inr (Or.inl ⟨h1, HZ.out, rfl, rfl, rfl⟩), (HB.out.trans (HVB.out.mono HBS.out)).trans (HB4.out.mono (by have := HBS.out; omega))⟩
    · have hc := sgnZ_ne h0
      have HZ := Lib.hid (fun e => h0 (valT_zero.2 e))
      have HV0 := Lib.hid h0
      generalize sgnZ (valT b) = c at HS hc
      clear h0
      refine HS.out.mono ?_
      rintro e w4 ⟨rfl, hb4⟩
      have HB4 := Lib.hid hb4
      have HX14 := Lib.hid (HX1.out.after hb4)
      have HX24 := Lib.hid (HX2.out.after hb4)
      obtain ⟨k0, k1, k2, k3, -, -, -, -⟩ := HX14.out
      obtain ⟨l0, l1, l2, l3, -, -, -, -⟩ := HX24.out
      have hc1 : (c == 0) = false := by rw [beq_eq_false_iff_ne]; exact hc
      have HOV : Hid (OverH (valT a).natAbs (valT b).natAbs) := Lib.hid (by rw [valT_abs, valT_abs]; exact HO HH.out.1 HH.out.2 HZ.out)
      have HN3 := Lib.hid ((H3.out.later HVB.out (Nat.le_refl _)).later hb4 (Nat.le_refl _))
      have HN5 := Lib.hid ((H5.out.later HVB.out (Nat.le_refl _)).later hb4 (Nat.le_refl _))
      clear hb4 hc
      go_wp2_with fail
      refine (nover_any HN3.out HN5.out (by decide) HV0.out HOV.out).mono ?_
      rintro e w5 ⟨vq, vr, q, r, rfl, hq, hr, hdp, hb5⟩
      obtain ⟨bq, aq, nq, pq, oq, rfl, hq'⟩ := hq.parts
      obtain ⟨br, ar, nr, pr, or, rfl, hr'⟩ := hr.parts
      have HQ := Lib.hid hq'
      have HR := Lib.hid hr'
      have HDP := Lib.hid hdp
      have HB5 := Lib.hid hb5
      have hab := divP_abs hdp HV0.out
      rw [valT_abs, valT_abs] at hab
      have HQS := Lib.hid (told_small (x := q) (by have := HH.out.1; omega))
      have HRS := Lib.hid (told_small (x := r) (by have := HH.out.2; omega))
      have HWQ : Hid (∀ w, Nm 64 w (numV bq (.slice aq nq pq) false oq) q → Calls Tryd.prog 77 #[numV bq (.slice aq nq pq) false oq] w fun e W' => e = .returned (.tuple #[.string (ren q), .int .i64 0]) ∧ Below w.heap.size w W') := Lib.hid fun w h => by
        have := written_any h (by decide)
        rwa [HQS.out.1, HQS.out.2] at this
      have HWR : Hid (∀ w, Nm 64 w (numV br (.slice ar nr pr) false or) r → Calls Tryd.prog 77 #[numV br (.slice ar nr pr) false or] w fun e W' => e = .returned (.tuple #[.string (ren r), .int .i64 0]) ∧ Below w.heap.size w W') := Lib.hid fun w h => by
        have := written_any h (by decide)
        rwa [HRS.out.1, HRS.out.2] at this
      clear hab hq hr hq' hr' hdp hb5
      obtain ⟨V5, hV5, hy1, hy2, vb5, vs5⟩ := two_boxes w5 (.bool bq) (.slice aq nq pq) (.bool false) (.bool oq) (.bool br) (.slice ar nr pr) (.bool false) (.bool or)
      have HY1 := Lib.hid hy1
      have HY2 := Lib.hid hy2
      have HVB5 := Lib.hid vb5
      have HQ5 := Lib.hid (HQ.out.later vb5 (Nat.le_refl _))
      have HR5 := Lib.hid (HR.out.later vb5 (Nat.le_refl _))
      clear hy1 hy2 vb5
      go_upto_region 9 with (fail)
      rw [← hV5]
      clear hV5
      obtain ⟨y0, y1, y2, y3, -, -, -, -⟩ := HY1.out
      go_wp2_with fail
      refine (HWQ.out _ HQ5.out).mono ?_
      rintro e w6 ⟨rfl, hb6⟩
      have HB6 := Lib.hid hb6
      obtain ⟨z0, z1, z2, z3, -, -, -, -⟩ := HY2.out.after hb6
      have HR6 := Lib.hid (HR5.out.later hb6 (Nat.le_refl _))
      clear hb6
      go_wp2_with fail
      refine (HWR.out _ HR6.out).mono ?_
      rintro e w7 ⟨rfl, hb7⟩
      have HB7 := Lib.hid hb7
      clear hb7
      go_wp2
      have s1 := HBS.out
      have s2 := HB4.out.size
      have s3 := HB5.out.size
      have s4 := HB6.out.size
      exact bodyPost_ret (v := .tuple #[.string (ren q), .string (ren r), .int .i64 0]) (by simp [results, Tryd.results25, go_sem]) rfl ⟨_, _, 0, rfl, Or.inr (Or.inr (Or.inr ⟨h1, HZ.out, HH.out.1, HH.out.2, ⟨q, r, HDP.out, rfl, rfl⟩, rfl⟩)),
        (((((HB.out.trans (HVB.out.mono s1)).trans (HB4.out.mono (by omega))).trans (HB5.out.mono (by omega))).trans (HVB5.out.mono (by omega))).trans (HB6.out.mono (by omega))).trans (HB7.out.mono (by omega))⟩
end Go.Proofs.YtkpoegdcmnjedaaDoor
