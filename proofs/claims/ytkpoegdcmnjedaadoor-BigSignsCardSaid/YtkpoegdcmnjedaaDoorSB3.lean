import Derived.Test.YtkpoegdcmnjedaaDoorMI3
import Derived.Test.YtkpoegdcmnjedaaDoorSA1
import Derived.Test.YtkpoegdcmnjedaaDoorRE2
namespace Go.Proofs.YtkpoegdcmnjedaaDoor
open Go.RowKit
set_option linter.unusedVariables false
set_option linter.unusedSimpArgs false

set_option maxHeartbeats 1000000 in
/-- the sign of a number that is too long. -/
theorem sign_long (m od : Bool) (ao : Option Addr) (n cap : Nat) (W : World) : Calls Tryd.prog 75 #[numV m (.slice ao n cap) true od] W fun e W' => (∃ c : Int, e = .returned (.int .i64 c) ∧ c ≠ 0) ∧ Below W.heap.size W W' := by
  cases m
  · go_enter Tryd.func75, Tryd.ntmps75
    go_wp2
    go_ret
    exact ⟨⟨1, rfl, by decide⟩, (Below.refl _ _).alloc (Nat.le_refl _) _⟩
  · go_enter Tryd.func75, Tryd.ntmps75
    go_wp2
    go_ret
    exact ⟨⟨-1, rfl, by decide⟩, (Below.refl _ _).alloc (Nat.le_refl _) _⟩
theorem divP_abs {a b x y : Int} (h : DivP a b x y) (hb : b ≠ 0) : x.natAbs ≤ a.natAbs ∧ y.natAbs < b.natAbs := by
  have key : ∀ a b x y : Int, 0 < b → a = b * x + y → 0 ≤ y → y < b → x.natAbs ≤ a.natAbs := by
    intro a b x y hb he h0 h1
    by_cases hx : 0 ≤ x
    · have := Int.mul_le_mul_of_nonneg_right (show (1 : Int) ≤ b by omega) hx
      rw [Int.one_mul] at this
      generalize b * x = z at *
      omega
    · have h2 : b * (x + 1) ≤ 1 * (x + 1) := Int.mul_le_mul_of_nonpos_right (by omega) (by omega)
      rw [Int.mul_add, Int.mul_one, Int.one_mul] at h2
      generalize b * x = z at *
      omega
  have he := h.eq
  rcases Int.lt_or_gt_of_ne hb with h1 | h1
  · have h2 := h.hi h1
    have h3 := key (-a) (-b) x (-y) (by omega) (by rw [Int.neg_mul]; generalize b * x = z at *; omega) (by omega) (by omega)
    exact ⟨by omega, by omega⟩
  · have h2 := h.lo h1
    exact ⟨key a b x y h1 he h2.1 h2.2, by omega⟩
theorem two_boxes (w : World) (x0 x1 x2 x3 y0 y1 y2 y3 : Value) : ∃ V, V = (w.alloc (Obj.cells #[x0, x1, x2, x3] 46)).alloc (Obj.cells #[y0, y1, y2, y3] 46) ∧ Box4 w.heap.size x0 x1 x2 x3 V ∧ Box4 (w.heap.size + 1) y0 y1 y2 y3 V ∧ Below w.heap.size w V ∧ V.heap.size = w.heap.size + 2 := by
  obtain ⟨V1, hV1, hbox1, vb1, vs1⟩ := box_new w x0 x1 x2 x3
  obtain ⟨V, hV, hbox, vb, vs⟩ := box_new V1 y0 y1 y2 y3
  rw [vs1] at hbox
  exact ⟨V, by rw [hV, hV1], hbox1.after vb, hbox, vb1.trans (vb.mono (by omega)), by omega⟩
theorem valT_zero {s : ByteArray} : valT s = 0 ↔ natT s = 0 := by rw [← valT_abs]; omega
/-- what Div tells. -/
def DvQ (a b : ByteArray) (W : World) (e : Ending) (W' : World) : Prop :=
  ∃ (q r : ByteArray) (er : Int), e = .returned (.tuple #[.string q, .string r, .int .i64 er]) ∧
    ((¬ (IsNum a ∧ IsNum b) ∧ q = ⟨#[]⟩ ∧ r = ⟨#[]⟩ ∧ er = 2) ∨ ((IsNum a ∧ IsNum b) ∧ natT b = 0 ∧ q = ⟨#[]⟩ ∧ r = ⟨#[]⟩ ∧ er = 10) ∨
     ((IsNum a ∧ IsNum b) ∧ natT b ≠ 0 ∧ (Lim ≤ natT a ∨ Lim ≤ natT b) ∧ q = ⟨#[]⟩ ∧ r = ⟨#[]⟩ ∧ er = 4) ∨
     ((IsNum a ∧ IsNum b) ∧ natT b ≠ 0 ∧ natT a < Lim ∧ natT b < Lim ∧ (∃ x y, DivP (valT a) (valT b) x y ∧ q = ren x ∧ r = ren y) ∧ er = 0)) ∧ Below W.heap.size W W'
theorem told_small {x : Int} (h : x.natAbs < Lim) : toldS x = ren x ∧ toldE x = 0 := by
  unfold toldS toldE; rw [if_pos h, if_pos h]; exact ⟨rfl, rfl⟩
set_option maxRecDepth 100000 in
set_option maxHeartbeats 4000000 in
theorem div_any (a b : ByteArray) (W : World) (ha : a.size ≤ 1000000) (hb : b.size ≤ 1000000) (HO : natT a < Lim → natT b < Lim → natT b ≠ 0 → OverH (natT a) (natT b)) :
    Calls Tryd.prog 25 #[.string a, .string b] W (DvQ a b W) := by
  go_enter Tryd.func25, Tryd.ntmps25
  go_wp2_with (go_at_call 69; refine (parseTwo_any a b _ ha hb).mono ?_; rintro e w2 ⟨m1, ao1, n1, cap1, lg1, od1, m2, ao2, n2, cap2, lg2, od2, er, rfl, hd, hbd⟩; have HD := Lib.hid hd; have HB := Lib.hid hbd; clear hd hbd; rcases HD.out with ⟨h1, rfl⟩ | ⟨h1, rfl, h2 | ⟨h2, rfl, h3⟩, h4 | ⟨h4, rfl, h5⟩⟩)
  · exact bodyPost_ret (v := .tuple #[.string ⟨#[]⟩, .string ⟨#[]⟩, .int .i64 2]) (by simp [results, Tryd.results25, go_sem]) rfl ⟨_, _, 2, rfl, Or.inl ⟨h1, rfl, rfl, rfl⟩, ((HB.out.alloc HB.out.size _).alloc (by have := HB.out.size; simp; omega) _)⟩
  · obtain ⟨h2, rfl⟩ := h2
    obtain ⟨h4, rfl⟩ := h4
    have HH := Lib.hid (And.intro h2 h4)
    clear h2 h4
    obtain ⟨V, hV, hx1, hx2, vb, vs⟩ := two_boxes w2 (.bool m1) (.slice ao1 n1 cap1) (.bool true) (.bool od1) (.bool m2) (.slice ao2 n2 cap2) (.bool true) (.bool od2)
    rw [← hV]
    clear hV
    have HX1 := Lib.hid hx1
    have HX2 := Lib.hid hx2
    have HVB := Lib.hid vb
    have HBS := Lib.hid HB.out.size
    clear hx1 hx2 vb
    refine (sign_long _ _ _ _ _ _).mono ?_
    rintro e w4 ⟨⟨c, rfl, hc⟩, hb4⟩
    have HB4 := Lib.hid hb4
    have k1 := (HX1.out.after hb4).c2
    have k2 := (HX2.out.after hb4).c2
    have hc1 : (c == 0) = false := by rw [beq_eq_false_iff_ne]; exact hc
    clear hb4
    go_wp2
    exact bodyPost_ret (v := .tuple #[.string ⟨#[]⟩, .string ⟨#[]⟩, .int .i64 4]) (by simp [results, Tryd.results25, go_sem]) rfl ⟨_, _, 4, rfl, Or.inr (Or.inr (Or.inl ⟨h1, by have := HH.out.2; have := lim_pos; omega, Or.inl HH.out.1, rfl, rfl, rfl⟩)), (HB.out.trans (HVB.out.mono HBS.out)).trans (HB4.out.mono (by have := HBS.out; omega))⟩
  · obtain ⟨h2, rfl⟩ := h2
    have HH := Lib.hid h2
    have H5 := Lib.hid h5
    clear h2 h5
    obtain ⟨V, hV, hx1, hx2, vb, vs⟩ := two_boxes w2 (.bool m1) (.slice ao1 n1 cap1) (.bool true) (.bool od1) (.bool m2) (.slice ao2 n2 cap2) (.bool false) (.bool od2)
    rw [← hV]
    clear hV
    have HX1 := Lib.hid hx1
    have HX2 := Lib.hid hx2
    have HVB := Lib.hid vb
    have HBS := Lib.hid HB.out.size
    clear hx1 hx2 vb
    have HS := Lib.hid (sign_any (H5.out.later HVB.out (Nat.le_refl _)))
    by_cases h0 : valT b = 0
    · rw [sgnZ_zero h0] at HS
      have HZ := Lib.hid (valT_zero.1 h0)
      clear h0
      refine HS.out.mono ?_
      rintro e w4 ⟨rfl, hb4⟩
      have HB4 := Lib.hid hb4
      clear hb4
      go_wp2
      exact bodyPost_ret (v := .tuple #[.string ⟨#[]⟩, .string ⟨#[]⟩, .int .i64 10]) (by simp [results, Tryd.results25, go_sem]) rfl ⟨_, _, 10, rfl, Or.inr (Or.inl ⟨h1, HZ.out, rfl, rfl, rfl⟩), (HB.out.trans (HVB.out.mono HBS.out)).trans (HB4.out.mono (by have := HBS.out; omega))⟩
    · have hc := sgnZ_ne h0
      have HZ := Lib.hid (fun e => h0 (valT_zero.2 e))
      generalize sgnZ (valT b) = c at HS hc
      clear h0
      refine HS.out.mono ?_
      rintro e w4 ⟨rfl, hb4⟩
      have HB4 := Lib.hid hb4
      have k1 := (HX1.out.after hb4).c2
      have hc1 : (c == 0) = false := by rw [beq_eq_false_iff_ne]; exact hc
      clear hb4
      go_wp2
      exact bodyPost_ret (v := .tuple #[.string ⟨#[]⟩, .string ⟨#[]⟩, .int .i64 4]) (by simp [results, Tryd.results25, go_sem]) rfl ⟨_, _, 4, rfl, Or.inr (Or.inr (Or.inl ⟨h1, HZ.out, Or.inl HH.out, rfl, rfl, rfl⟩)), (HB.out.trans (HVB.out.mono HBS.out)).trans (HB4.out.mono (by have := HBS.out; omega))⟩
  · obtain ⟨h4, rfl⟩ := h4
    have HH := Lib.hid h4
    clear h4 h3
    obtain ⟨V, hV, hx1, hx2, vb, vs⟩ := two_boxes w2 (.bool m1) (.slice ao1 n1 cap1) (.bool false) (.bool od1) (.bool m2) (.slice ao2 n2 cap2) (.bool true) (.bool od2)
    rw [← hV]
    clear hV
    have HX1 := Lib.hid hx1
    have HX2 := Lib.hid hx2
    have HVB := Lib.hid vb
    have HBS := Lib.hid HB.out.size
    clear hx1 hx2 vb
    refine (sign_long _ _ _ _ _ _).mono ?_
    rintro e w4 ⟨⟨c, rfl, hc⟩, hb4⟩
    have HB4 := Lib.hid hb4
    have k1 := (HX1.out.after hb4).c2
    have k2 := (HX2.out.after hb4).c2
    have hc1 : (c == 0) = false := by rw [beq_eq_false_iff_ne]; exact hc
    clear hb4
    go_wp2
    exact bodyPost_ret (v := .tuple #[.string ⟨#[]⟩, .string ⟨#[]⟩, .int .i64 4]) (by simp [results, Tryd.results25, go_sem]) rfl ⟨_, _, 4, rfl, Or.inr (Or.inr (Or.inl ⟨h1, by have := HH.out; have := lim_pos; omega, Or.inr HH.out, rfl, rfl, rfl⟩)), (HB.out.trans (HVB.out.mono HBS.out)).trans (HB4.out.mono (by have := HBS.out; omega))⟩
  · have H3 := Lib.hid h3
    have H5 := Lib.hid h5
    have HH := Lib.hid (And.intro h2 h4)
    clear h2 h4 h3 h5
    obtain ⟨V, hV, hx1, hx2, vb, vs⟩ := two_boxes w2 (.bool m1) (.slice ao1 n1 cap1) (.bool false) (.bool od1) (.bool m2) (.slice ao2 n2 cap2) (.bool false) (.bool od2)
    rw [← hV]
    clear hV
    have HX1 := Lib.hid hx1
    have HX2 := Lib.hid hx2
    have HVB := Lib.hid vb
    have HBS := Lib.hid HB.out.size
    clear hx1 hx2 vb
    have HS := Lib.hid (sign_any (H5.out.later HVB.out (Nat.le_refl _)))
    by_cases h0 : valT b = 0
    · rw [sgnZ_zero h0] at HS
      have HZ := Lib.hid (valT_zero.1 h0)
      clear h0
      refine HS.out.mono ?_
      rintro e w4 ⟨rfl, hb4⟩
      have HB4 := Lib.hid hb4
      clear hb4
      go_wp2
      exact bodyPost_ret (v := .tuple #[.string ⟨#[]⟩, .string ⟨#[]⟩, .int .i64 10]) (by simp [results, Tryd.results25, go_sem]) rfl ⟨_, _, 10, rfl, Or.inr (Or.inl ⟨h1, HZ.out, rfl, rfl, rfl⟩), (HB.out.trans (HVB.out.mono HBS.out)).trans (HB4.out.mono (by have := HBS.out; omega))⟩
    · have hc := sgnZ_ne h0
      have HZ := Lib.hid (fun e => h0 (valT_zero.2 e))
      have HV0 := Lib.hid h0
      generalize sgnZ (valT b) = c at HS hc
      clear h0
      refine HS.out.mono ?_
      rintro e w4 ⟨rfl, hb4⟩
      have HB4 := Lib.hid hb4
      have HX14 := Lib.hid (HX1.out.after hb4)
      have HX24 := Lib.hid (HX2.out.after hb4)
      obtain ⟨k0, k1, k2, k3, -, -, -, -⟩ := HX14.out
      obtain ⟨l0, l1, l2, l3, -, -, -, -⟩ := HX24.out
      have hc1 : (c == 0) = false := by rw [beq_eq_false_iff_ne]; exact hc
      have HOV : Hid (OverH (valT a).natAbs (valT b).natAbs) := Lib.hid (by rw [valT_abs, valT_abs]; exact HO HH.out.1 HH.out.2 HZ.out)
      have HN3 := Lib.hid ((H3.out.later HVB.out (Nat.le_refl _)).later hb4 (Nat.le_refl _))
      have HN5 := Lib.hid ((H5.out.later HVB.out (Nat.le_refl _)).later hb4 (Nat.le_refl _))
      clear hb4 hc
      go_wp2_with fail
      refine (nover_any HN3.out HN5.out (by decide) HV0.out HOV.out).mono ?_
      rintro e w5 ⟨vq, vr, q, r, rfl, hq, hr, hdp, hb5⟩
      obtain ⟨bq, aq, nq, pq, oq, rfl, hq'⟩ := hq.parts
      obtain ⟨br, ar, nr, pr, or, rfl, hr'⟩ := hr.parts
      have HQ := Lib.hid hq'
      have HR := Lib.hid hr'
      have HDP := Lib.hid hdp
      have HB5 := Lib.hid hb5
      have hab := divP_abs hdp HV0.out
      rw [valT_abs, valT_abs] at hab
      have HQS := Lib.hid (told_small (x := q) (by have := HH.out.1; omega))
      have HRS := Lib.hid (told_small (x := r) (by have := HH.out.2; omega))
      have HWQ : Hid (∀ w, Nm 64 w (numV bq (.slice aq nq pq) false oq) q → Calls Tryd.prog 77 #[numV bq (.slice aq nq pq) false oq] w fun e W' => e = .returned (.tuple #[.string (ren q), .int .i64 0]) ∧ Below w.heap.size w W') := Lib.hid fun w h => by
        have := written_any h (by decide)
        rwa [HQS.out.1, HQS.out.2] at this
      have HWR : Hid (∀ w, Nm 64 w (numV br (.slice ar nr pr) false or) r → Calls Tryd.prog 77 #[numV br (.slice ar nr pr) false or] w fun e W' => e = .returned (.tuple #[.string (ren r), .int .i64 0]) ∧ Below w.heap.size w W') := Lib.hid fun w h => by
        have := written_any h (by decide)
        rwa [HRS.out.1, HRS.out.2] at this
      clear hab hq hr hq' hr' hdp hb5
      obtain ⟨V5, hV5, hy1, hy2, vb5, vs5⟩ := two_boxes w5 (.bool bq) (.slice aq nq pq) (.bool false) (.bool oq) (.bool br) (.slice ar nr pr) (.bool false) (.bool or)
      have HY1 := Lib.hid hy1
      have HY2 := Lib.hid hy2
      have HVB5 := Lib.hid vb5
      have HQ5 := Lib.hid (HQ.out.later vb5 (Nat.le_refl _))
      have HR5 := Lib.hid (HR.out.later vb5 (Nat.le_refl _))
      clear hy1 hy2 vb5
      go_upto_region 9 with (fail)
      rw [← hV5]
      clear hV5
      obtain ⟨y0, y1, y2, y3, -, -, -, -⟩ := HY1.out
      go_wp2_with fail
      refine (HWQ.out _ HQ5.out).mono ?_
      rintro e w6 ⟨rfl, hb6⟩
      have HB6 := Lib.hid hb6
      obtain ⟨z0, z1, z2, z3, -, -, -, -⟩ := HY2.out.after hb6
      have HR6 := Lib.hid (HR5.out.later hb6 (Nat.le_refl _))
      clear hb6
      go_wp2_with fail
      refine (HWR.out _ HR6.out).mono ?_
      rintro e w7 ⟨rfl, hb7⟩
      have HB7 := Lib.hid hb7
      clear hb7
      go_wp2
      have s1 := HBS.out
      have s2 := HB4.out.size
      have s3 := HB5.out.size
      have s4 := HB6.out.size
      exact bodyPost_ret (v := .tuple #[.string (ren q), .string (ren r), .int .i64 0]) (by simp [results, Tryd.results25, go_sem]) rfl ⟨_, _, 0, rfl, Or.inr (Or.inr (Or.inr ⟨h1, HZ.out, HH.out.1, HH.out.2, ⟨q, r, HDP.out, rfl, rfl⟩, rfl⟩)),
        (((((HB.out.trans (HVB.out.mono s1)).trans (HB4.out.mono (by omega))).trans (HB5.out.mono (by omega))).trans (HVB5.out.mono (by omega))).trans (HB6.out.mono (by omega))).trans (HB7.out.mono (by omega))⟩
end Go.Proofs.YtkpoegdcmnjedaaDoor
namespace Go.Proofs.YtkpoegdcmnjedaaDoor
open Go.RowKit
set_option linter.unusedVariables false
set_option linter.unusedSimpArgs false

/-- a number with digits of a base. -/
def renB (b : Nat) (x : Int) : ByteArray := if x < 0 then ⟨#[45]⟩ ++ txt (textL b x.natAbs) else txt (textL b x.natAbs)
/-- what Base tells. -/
def BaQ (s : ByteArray) (base : Int) (W : World) (e : Ending) (W' : World) : Prop :=
  ∃ (r : ByteArray) (er : Int), e = .returned (.tuple #[.string r, .int .i64 er]) ∧
    ((¬ IsNum s ∧ r = ⟨#[]⟩ ∧ er = 2) ∨ (IsNum s ∧ ¬ (2 ≤ base ∧ base ≤ 36) ∧ r = ⟨#[]⟩ ∧ er = 7) ∨ (IsNum s ∧ (2 ≤ base ∧ base ≤ 36) ∧ Lim ≤ natT s ∧ r = ⟨#[]⟩ ∧ er = 4) ∨
     (IsNum s ∧ (2 ≤ base ∧ base ≤ 36) ∧ natT s < Lim ∧ r = renB base.toNat (valT s) ∧ er = 0)) ∧ Below W.heap.size W W'
set_option maxRecDepth 100000 in
set_option maxHeartbeats 2000000 in
theorem base_any (s : ByteArray) (base : Int) (W : World) (hs : s.size ≤ 1000000) : Calls Tryd.prog 53 #[.string s, .int .i64 base] W (BaQ s base W) := by
  go_enter Tryd.func53, Tryd.ntmps53
  go_wp2_with fail
  refine (parse_num s _ hs).mono ?_
  rintro e w2 ⟨m, ao, n, cap, lg, od, er, rfl, hd, hb⟩
  have HD := Lib.hid hd
  have HB := Lib.hid hb
  clear hd hb
  rcases HD.out with ⟨h1, rfl⟩ | ⟨h1, h2, rfl, rfl⟩ | ⟨h1, h2, rfl, rfl, h3, -⟩
  · go_wp2
    exact bodyPost_ret (v := .tuple #[.string ⟨#[]⟩, .int .i64 2]) (by simp [results, Tryd.results53, go_sem]) rfl ⟨_, 2, rfl, Or.inl ⟨h1, rfl, rfl⟩, HB.out.alloc HB.out.size _⟩
  · have H2 := Lib.hid h2
    clear h2
    by_cases hb : 2 ≤ base ∧ base ≤ 36
    · obtain ⟨hb1, hb2⟩ := hb
      go_wp2
      exact bodyPost_ret (v := .tuple #[.string ⟨#[]⟩, .int .i64 4]) (by simp [results, Tryd.results53, go_sem]) rfl ⟨_, 4, rfl, Or.inr (Or.inr (Or.inl ⟨h1, ⟨hb1, hb2⟩, H2.out, rfl, rfl⟩)), HB.out.alloc HB.out.size _⟩
    · have HNB := Lib.hid hb
      have hc : base < 2 ∨ (decide (base < 2) = false ∧ 36 < base) := by
        by_cases h : base < 2
        · exact Or.inl h
        · exact Or.inr ⟨by simpa using h, by omega⟩
      clear hb
      rcases hc with hc | ⟨hc, hc2⟩
      all_goals
        go_wp2
        exact bodyPost_ret (v := .tuple #[.string ⟨#[]⟩, .int .i64 7]) (by simp [results, Tryd.results53, go_sem]) rfl ⟨_, 7, rfl, Or.inr (Or.inl ⟨h1, HNB.out, rfl, rfl⟩), HB.out.alloc HB.out.size _⟩
  · have H2 := Lib.hid h2
    have H3 := Lib.hid h3
    clear h2 h3
    by_cases hb : 2 ≤ base ∧ base ≤ 36
    · obtain ⟨hb1, hb2⟩ := hb
      obtain ⟨b, rfl⟩ : ∃ b : Nat, base = (b : Int) := ⟨base.toNat, by omega⟩
      have hb3 : 2 ≤ b := by omega
      have hb4 : b ≤ 36 := by omega
      obtain ⟨ao', n', cap', od', e, hm, hn⟩ := H3.out
      have e2 := e
      simp only [numV, Value.agg.injEq, Array.mk.injEq, List.cons.injEq, Value.bool.injEq, Value.slice.injEq] at e2
      obtain ⟨hsg, ⟨rfl, rfl, rfl⟩, -⟩ := e2
      clear e
      have HN : Hid (nd (valT s).natAbs ≤ 1000000) := Lib.hid (by omega)
      have HM := Lib.hid (hm.later (W' := w2.alloc (Obj.cells #[.bool m, .slice ao n cap, .bool false, .bool od] 46)) ((Below.refl _ _).alloc (Nat.le_refl _) _) (Nat.le_refl _))
      clear hn hm
      obtain ⟨t, HT⟩ : ∃ t, Hid (txt (textL b (valT s).natAbs) = t) := ⟨_, Lib.hid rfl⟩
      have HTX : Hid (∀ w, M 0 w (.slice ao n cap) (digs B32 (valT s).natAbs) → Calls Tryd.prog 104 #[.slice ao n cap, .int .u32 b] w fun e W' => e = .returned (.string t) ∧ Below w.heap.size w W') := Lib.hid fun w h => by
        rw [← HT.out]; exact text_any b hb3 hb4 h HN.out
      have HTS : Hid (t.size ≤ 64000000) := Lib.hid (by
        rw [← HT.out, txt_size]
        have := textL_nd b (valT s).natAbs hb3
        have := nd_lim (n := (valT s).natAbs) (by rw [valT_abs]; exact H2.out)
        omega)
      have hts := HTS.out
      have hts2 : 1 + t.size ≤ 9223372036854775807 := by omega
      have hb5 : (b : Int) ≤ 4294967295 := by omega
      obtain ⟨V, hV, hbx, vb, vs⟩ := box_new w2 (.bool m) (.slice ao n cap) (.bool false) (.bool od)
      rw [← hV] at HM
      have HBX := Lib.hid hbx
      have HVB := Lib.hid vb
      have c0 := hbx.c0
      have c1 := hbx.c1
      have c2 := hbx.c2
      have HSG := Lib.hid hsg
      clear hbx vb hsg H3
      go_upto_region 8 with (fail)
      rw [← hV]
      clear hV
      go_wp2_with fail
      refine (HTX.out _ HM.out).mono ?_
      rintro e w3 ⟨rfl, hb6⟩
      have HB6 := Lib.hid hb6
      have d0 := cell_after hb6 c0
      have HR : Hid (renB (b : Int).toNat (valT s) = if m = true then ⟨#[45]⟩ ++ t else t) := Lib.hid (by
        unfold renB
        rw [Int.toNat_natCast, HT.out, HSG.out]
        by_cases h : valT s < 0
        · rw [if_pos h, if_pos (decide_eq_true h)]
        · rw [if_neg h, if_neg (by rw [decide_eq_false h]; decide)])
      clear hb6 c0 c1 c2
      cases m
      · have HR2 : Hid (renB (b : Int).toNat (valT s) = t) := Lib.hid (HR.out.trans (if_neg (by decide)))
        go_wp2
        exact bodyPost_ret (v := .tuple #[.string t, .int .i64 0]) (by simp [results, Tryd.results53, go_sem]) rfl ⟨_, 0, rfl, Or.inr (Or.inr (Or.inr ⟨h1, ⟨by omega, by omega⟩, H2.out, HR2.out.symm, rfl⟩)), (HB.out.trans (HVB.out.mono HB.out.size)).trans (HB6.out.mono (by have := HB.out.size; omega))⟩
      · have HR2 : Hid (renB (b : Int).toNat (valT s) = ⟨#[45]⟩ ++ t) := Lib.hid (HR.out.trans (if_pos rfl))
        go_wp2
        exact bodyPost_ret (v := .tuple #[.string (⟨#[45]⟩ ++ t), .int .i64 0]) (by simp [results, Tryd.results53, go_sem]) rfl ⟨_, 0, rfl, Or.inr (Or.inr (Or.inr ⟨h1, ⟨by omega, by omega⟩, H2.out, HR2.out.symm, rfl⟩)), (HB.out.trans (HVB.out.mono HB.out.size)).trans (HB6.out.mono (by have := HB.out.size; omega))⟩
    · have HNB := Lib.hid hb
      have hc : base < 2 ∨ (decide (base < 2) = false ∧ 36 < base) := by
        by_cases h : base < 2
        · exact Or.inl h
        · exact Or.inr ⟨by simpa using h, by omega⟩
      clear hb H3
      rcases hc with hc | ⟨hc, hc2⟩
      all_goals
        go_wp2
        exact bodyPost_ret (v := .tuple #[.string ⟨#[]⟩, .int .i64 7]) (by simp [results, Tryd.results53, go_sem]) rfl ⟨_, 7, rfl, Or.inr (Or.inl ⟨h1, HNB.out, rfl, rfl⟩), HB.out.alloc HB.out.size _⟩
end Go.Proofs.YtkpoegdcmnjedaaDoor
namespace Go.Proofs.YtkpoegdcmnjedaaDoor
open Go.RowKit
set_option linter.unusedVariables false
set_option linter.unusedSimpArgs false

theorem digs_one {b d : Nat} (h : 0 < d) (hb : d < b) : digs b d = [d] := by
  rw [digs_pos (by omega) h, Nat.mod_eq_of_lt hb, Nat.div_eq_of_lt hb, digs_zero]
theorem ren_digit {d : Nat} (h : 0 < d) (hb : d < 10) : ren (d : Int) = txt [48 + d] ∧ ren (-(d : Int)) = ⟨#[45]⟩ ++ txt [48 + d] := by
  have e : textL 10 d = [48 + d] := by
    unfold textL
    rw [if_neg (by omega), digs_one h hb]
    show [digCh d] = _
    unfold digCh; rw [if_pos hb]
  unfold ren
  rw [if_neg (by omega), if_pos (by omega), Int.natAbs_neg, Int.natAbs_natCast, e]
  exact ⟨rfl, rfl⟩
theorem ren_m7 : ren (-7) = ⟨#[45, 55]⟩ := (ren_digit (d := 7) (by decide) (by decide)).2
theorem ren_2 : ren 2 = ⟨#[50]⟩ := (ren_digit (d := 2) (by decide) (by decide)).1
theorem ren_m4 : ren (-4) = ⟨#[45, 52]⟩ := (ren_digit (d := 4) (by decide) (by decide)).2
theorem ren_1 : ren 1 = ⟨#[49]⟩ := (ren_digit (d := 1) (by decide) (by decide)).1
theorem ren_255 : ren 255 = ⟨#[50, 53, 53]⟩ := by
  have e : textL 10 255 = [50, 53, 53] := by
    unfold textL
    rw [if_neg (by decide), digs_pos (by decide) (by decide), digs_pos (by decide) (by decide), digs_one (by decide) (by decide)]; rfl
  unfold ren
  rw [if_neg (by decide)]
  show txt (textL 10 255) = _
  rw [e]; rfl
theorem renB_255 : renB 16 255 = ⟨#[102, 102]⟩ := by
  have e : textL 16 255 = [102, 102] := by
    unfold textL
    rw [if_neg (by decide), digs_pos (by decide) (by decide), digs_one (by decide) (by decide)]; rfl
  unfold renB
  rw [if_neg (by decide)]
  show txt (textL 16 255) = _
  rw [e]; rfl
theorem lim_small : 1000 ≤ Lim := by unfold Lim; decide +kernel
theorem div_7_2 (W : World) : Calls Tryd.prog 25 #[.string ⟨#[45, 55]⟩, .string ⟨#[50]⟩] W fun e W' => e = .returned (.tuple #[.string ⟨#[45, 52]⟩, .string ⟨#[49]⟩, .int .i64 0]) ∧ Below W.heap.size W W' := by
  have hl := lim_small
  have h7 := num_ren (-7)
  have h2 := num_ren 2
  have n7 := natT_ren (-7)
  have n2 := natT_ren 2
  rw [← ren_m7, ← ren_2]
  have n7' : natT (ren (-7)) = 7 := n7
  have n2' : natT (ren 2) = 2 := n2
  refine (div_any (ren (-7)) (ren 2) W (by rw [ren_m7]; decide) (by rw [ren_2]; decide) (fun h _ _ => ?_)).mono ?_
  · rw [n2', n7']
    exact overH_one (Nat.le_trans (nd_lim (by omega)) (by decide)) (by decide) (by decide)
  · rintro e W' ⟨q, r, er, rfl, h, hb⟩
    refine ⟨?_, hb⟩
    rcases h with ⟨h, _⟩ | ⟨_, h, _⟩ | ⟨_, _, h, _⟩ | ⟨_, _, _, _, ⟨x, y, hd, rfl, rfl⟩, rfl⟩
    · exact absurd ⟨h7.1, h2.1⟩ h
    · rw [n2'] at h; omega
    · rw [n2', n7'] at h; omega
    · rw [h7.2, h2.2] at hd
      have hd' : DivP (-7) 2 (-4) 1 := ⟨by decide, fun _ => by decide, fun h => by omega⟩
      obtain ⟨rfl, rfl⟩ := hd.uniq hd' (by decide)
      rw [ren_m4, ren_1]
theorem base_255 (W : World) : Calls Tryd.prog 53 #[.string ⟨#[50, 53, 53]⟩, .int .i64 16] W fun e W' => e = .returned (.tuple #[.string ⟨#[102, 102]⟩, .int .i64 0]) ∧ Below W.heap.size W W' := by
  have hl := lim_small
  have h := num_ren 255
  have n : natT (ren 255) = 255 := natT_ren 255
  rw [← ren_255]
  refine (base_any (ren 255) 16 W (by rw [ren_255]; decide)).mono ?_
  rintro e W' ⟨r, er, rfl, hh, hb⟩
  refine ⟨?_, hb⟩
  rcases hh with ⟨h1, _⟩ | ⟨_, h1, _⟩ | ⟨_, _, h1, _⟩ | ⟨_, _, _, rfl, rfl⟩
  · exact absurd h.1 h1
  · omega
  · rw [n] at h1; omega
  · rw [h.2]
    show Ending.returned (.tuple #[.string (renB 16 255), .int .i64 0]) = _
    rw [renB_255]
set_option maxHeartbeats 1000000 in
theorem awake_any (W : World) : Calls Tryd.prog 12 #[] W fun e W' => e = .returned (.bool true) ∧ Below W.heap.size W W' := by
  go_enter Tryd.func12, Tryd.ntmps12
  go_wp2_with (first | (go_at_call 25; refine (div_7_2 _).mono ?_; rintro e w2 ⟨rfl, hb2⟩; have HB2 := Lib.hid hb2; clear hb2) | (go_at_call 53; refine (base_255 _).mono ?_; rintro e w3 ⟨rfl, hb3⟩; have HB3 := Lib.hid hb3; clear hb3))
  go_ret
  exact ⟨rfl, HB2.out.trans (HB3.out.mono HB2.out.size)⟩
end Go.Proofs.YtkpoegdcmnjedaaDoor
