import Derived.Test.YtkpoegdcmnjedaaDoorMG5
import Derived.RegionTactic
namespace Go.Proofs.YtkpoegdcmnjedaaDoor
open Go.RowKit
set_option linter.unusedVariables false
set_option linter.unusedSimpArgs false

/-- a number's text that was read. -/
def Rdg (s : ByteArray) (W : World) (v : Value) (lg : Bool) : Prop := (Lim ≤ natT s ∧ lg = true) ∨ (natT s < Lim ∧ lg = false ∧ Nm 63 W v (valT s))
theorem Rdg.later {s : ByteArray} {W W' : World} {v : Value} {lg : Bool} (h : Rdg s W v lg) (hb : Below W.heap.size W W') : Rdg s W' v lg := by
  rcases h with h | ⟨h1, h2, h3⟩
  · exact Or.inl h
  · exact Or.inr ⟨h1, h2, h3.later hb (Nat.le_refl _)⟩
theorem Box4.four {g : Nat} {x0 x1 x2 x3 : Value} {W : World} (h : Box4 g x0 x1 x2 x3 W) (y0 y1 y2 y3 : Value) :
    Box4 g y0 y1 y2 y3 ((((W.setCell ⟨g, 0, none⟩ y0).setCell ⟨g, 1, none⟩ y1).setCell ⟨g, 2, none⟩ y2).setCell ⟨g, 3, none⟩ y3) := by
  have h0 : Box4 g y0 x1 x2 x3 (W.setCell ⟨g, 0, none⟩ y0) :=
    ⟨World.cell?_setCell_same _ _ _ h.c0, (World.cell?_setCell_other _ _ _ _ (by simp)).trans h.c1, (World.cell?_setCell_other _ _ _ _ (by simp)).trans h.c2, (World.cell?_setCell_other _ _ _ _ (by simp)).trans h.c3,
      by rw [World.frozen?_setCell]; exact h.f0, by rw [World.frozen?_setCell]; exact h.f1, by rw [World.frozen?_setCell]; exact h.f2, by rw [World.frozen?_setCell]; exact h.f3⟩
  exact ((h0.set1 y1).set2 y2).set3 y3
/-- what parseTwo tells. -/
def TwoQ (a b : ByteArray) (W : World) (e : Ending) (W' : World) : Prop :=
  ∃ m1 ao1 n1 cap1 lg1 od1 m2 ao2 n2 cap2 lg2 od2, ∃ er : Int, e = .returned (.tuple #[numV m1 (.slice ao1 n1 cap1) lg1 od1, numV m2 (.slice ao2 n2 cap2) lg2 od2, .int .i64 er]) ∧
    ((¬ (IsNum a ∧ IsNum b) ∧ er = 2) ∨ ((IsNum a ∧ IsNum b) ∧ er = 0 ∧ Rdg a W' (numV m1 (.slice ao1 n1 cap1) lg1 od1) lg1 ∧ Rdg b W' (numV m2 (.slice ao2 n2 cap2) lg2 od2) lg2)) ∧ Below W.heap.size W W'
/-- a number's text that was read, its digits in memory from B on. -/
def RdB (B : Nat) (s : ByteArray) (W : World) (m : Bool) (v : Value) (lg : Bool) : Prop := (Lim ≤ natT s ∧ lg = true) ∨ (natT s < Lim ∧ lg = false ∧ m = decide (valT s < 0) ∧ M B W v (digs B32 (natT s)))
theorem RdB.four {B : Nat} {s : ByteArray} {W : World} {m : Bool} {v : Value} {lg : Bool} (h : RdB B s W m v lg) {g : Nat} (hg : g < B) (y0 y1 y2 y3 : Value) :
    RdB B s ((((W.setCell ⟨g, 0, none⟩ y0).setCell ⟨g, 1, none⟩ y1).setCell ⟨g, 2, none⟩ y2).setCell ⟨g, 3, none⟩ y3) m v lg := by
  rcases h with h | ⟨h1, h2, h3, h4⟩
  · exact Or.inl h
  · exact Or.inr ⟨h1, h2, h3, h4.four hg _ _ _ _⟩
theorem RdB.later {B : Nat} {s : ByteArray} {W W' : World} {m : Bool} {v : Value} {lg : Bool} (h : RdB B s W m v lg) (hb : Below W.heap.size W W') : RdB B s W' m v lg := by
  rcases h with h | ⟨h1, h2, h3, h4⟩
  · exact Or.inl h
  · exact Or.inr ⟨h1, h2, h3, h4.later hb (Nat.le_refl _)⟩
theorem RdB.mono {B B' : Nat} {s : ByteArray} {W : World} {m : Bool} {v : Value} {lg : Bool} (h : RdB B s W m v lg) (hb : B' ≤ B) : RdB B' s W m v lg := by
  rcases h with h | ⟨h1, h2, h3, h4⟩
  · exact Or.inl h
  · exact Or.inr ⟨h1, h2, h3, h4.mono hb⟩
theorem RdB.rdg {B : Nat} {s : ByteArray} {W : World} {m : Bool} {ao : Option Addr} {n cap : Nat} {lg od : Bool} (h : RdB B s W m (.slice ao n cap) lg) : Rdg s W (numV m (.slice ao n cap) lg od) lg := by
  rcases h with h | ⟨h1, h2, h3, h4⟩
  · exact Or.inl h
  · refine Or.inr ⟨h1, h2, ao, n, cap, od, by rw [h2, h3], ?_, by rw [valT_abs]; exact nd_lim h1⟩
    rw [valT_abs]; exact h4.mono (Nat.zero_le _)
theorem NumQ.two {s : ByteArray} {W W' : World} {e : Ending} (h : NumQ s W e W') :
    ∃ m ao n cap lg od, ∃ er : Int, e = .returned (.tuple #[numV m (.slice ao n cap) lg od, .int .i64 er]) ∧
      ((¬ IsNum s ∧ er = 2) ∨ (IsNum s ∧ er = 0 ∧ RdB W.heap.size s W' m (.slice ao n cap) lg)) ∧ Below W.heap.size W W' := by
  obtain ⟨m, ao, n, cap, lg, od, er, he, h, hb⟩ := h
  refine ⟨m, ao, n, cap, lg, od, er, he, ?_, hb⟩
  rcases h with h | ⟨h1, h2, h3, h4⟩ | ⟨h1, h2, h3, h4, h5, h6⟩
  · exact Or.inl h
  · exact Or.inr ⟨h1, h3, Or.inl ⟨h2, h4⟩⟩
  · obtain ⟨ao', n', cap', od', e, _, _⟩ := h5
    refine Or.inr ⟨h1, h3, Or.inr ⟨h2, h4, ?_, h6⟩⟩
    simp only [numV, Value.agg.injEq, Array.mk.injEq, List.cons.injEq, Value.bool.injEq] at e
    exact e.1

theorem two_fin {g : Nat} {w : World} {a0 a1 a2 a3 b0 b1 b2 b3 : Value} (h1 : Box4 g a0 a1 a2 a3 w) (h2 : Box4 (g + 1) b0 b1 b2 b3 w) :
    ∃ w', w' = ((((((((w.setCell ⟨g, 0, none⟩ a0).setCell ⟨g, 1, none⟩ a1).setCell ⟨g, 2, none⟩ a2).setCell ⟨g, 3, none⟩ a3).setCell ⟨g + 1, 0, none⟩ b0).setCell ⟨g + 1, 1, none⟩ b1).setCell ⟨g + 1, 2, none⟩ b2).setCell ⟨g + 1, 3, none⟩ b3).drew ∧
      Box4 g a0 a1 a2 a3 w' ∧ Box4 (g + 1) b0 b1 b2 b3 w' ∧ (∀ B W, Below B W w → B ≤ g → Below B W w') ∧ (∀ B s m v lg, RdB B s w m v lg → g + 2 ≤ B → RdB B s w' m v lg) := by
  refine ⟨_, rfl, ?_, ?_, ?_, ?_⟩
  · exact Box4.after (((((h1.four a0 a1 a2 a3).far (by omega)).far (by omega)).far (by omega)).far (by omega)) (Below.drew (Below.refl _ _))
  · exact Box4.after (((((h2.far (by omega)).far (by omega)).far (by omega)).far (by omega)).four b0 b1 b2 b3) (Below.drew (Below.refl _ _))
  · intro B W h hg
    exact Below.drew (below_four (below_four h hg _ _ _ _) (by omega) _ _ _ _)
  · intro B s m v lg h hg
    exact RdB.later ((h.four (by omega) _ _ _ _).four (by omega) _ _ _ _) (Below.drew (Below.refl _ _))

set_option maxRecDepth 100000 in
set_option maxHeartbeats 2000000 in
theorem parseTwo_any (a b : ByteArray) (W : World) (ha : a.size ≤ 1000000) (hb : b.size ≤ 1000000) : Calls Tryd.prog 69 #[.string a, .string b] W (TwoQ a b W) := by
  obtain ⟨V1, hV1, hbox1, vb1, vs1⟩ := box_new W (.bool false) (.slice none 0 0) (.bool false) (.bool false)
  obtain ⟨V, hV, hbox, vb, vs⟩ := box_new V1 (.bool false) (.slice none 0 0) (.bool false) (.bool false)
  rw [vs1] at hbox
  have HB1 := Lib.hid (hbox1.after vb)
  have HB2 := Lib.hid hbox
  have HVB := Lib.hid (vb1.trans (vb.mono (by omega)))
  have hvs : V.heap.size = W.heap.size + 2 := by omega
  have hVV : V = (W.alloc (Obj.cells #[.bool false, .slice none 0 0, .bool false, .bool false] 46)).alloc (Obj.cells #[.bool false, .slice none 0 0, .bool false, .bool false] 46) := by rw [hV, hV1]
  clear hbox vb hV hV1 hbox1 vb1
  go_enter Tryd.func69, Tryd.ntmps69
  go_upto_region 1 with (fail)
  rw [← hVV]
  clear hVV
  go_upto_region 2 with (go_at_call 62; refine (parse_num a _ ha).mono ?_; rintro e w2 hq; obtain ⟨m1, ao1, n1, cap1, lg1, od1, er1, rfl, hd, hbd⟩ := hq.two; have HD1 := Lib.hid hd; have HBD1 := Lib.hid hbd; have HX1 := Lib.hid (HB1.out.after hbd); have HX2 := Lib.hid (HB2.out.after hbd); obtain ⟨x0, x1, x2, x3, y0, y1, y2, y3⟩ := HX1.out; clear hq hd hbd)
  have HY1 := Lib.hid (HX1.out.four (.bool m1) (.slice ao1 n1 cap1) (.bool lg1) (.bool od1))
  have HY2 := Lib.hid (((((HX2.out.far (c := W.heap.size) (j := 0) (y := .bool m1) (by omega)).far (c := W.heap.size) (j := 1) (y := .slice ao1 n1 cap1) (by omega)).far (c := W.heap.size) (j := 2) (y := .bool lg1) (by omega)).far (c := W.heap.size) (j := 3) (y := .bool od1) (by omega)))
  have HW3 := Lib.hid (below_four (HVB.out.trans (HBD1.out.mono (by omega))) (Nat.le_refl W.heap.size) (.bool m1) (.slice ao1 n1 cap1) (.bool lg1) (.bool od1))
  have hsz := HBD1.out.size
  have HR3 : Hid ((¬ IsNum a ∧ er1 = 2) ∨ (IsNum a ∧ er1 = 0 ∧ RdB (W.heap.size + 2) a ((((w2.setCell ⟨W.heap.size, 0, none⟩ (.bool m1)).setCell ⟨W.heap.size, 1, none⟩ (.slice ao1 n1 cap1)).setCell ⟨W.heap.size, 2, none⟩ (.bool lg1)).setCell ⟨W.heap.size, 3, none⟩ (.bool od1)) m1 (.slice ao1 n1 cap1) lg1)) := Lib.hid (by
    rcases HD1.out with h | ⟨h1, h2, h3⟩
    · exact Or.inl h
    · exact Or.inr ⟨h1, h2, (h3.mono (by omega)).four (by omega) _ _ _ _⟩)
  have hv3 : ((((w2.setCell ⟨W.heap.size, 0, none⟩ (.bool m1)).setCell ⟨W.heap.size, 1, none⟩ (.slice ao1 n1 cap1)).setCell ⟨W.heap.size, 2, none⟩ (.bool lg1)).setCell ⟨W.heap.size, 3, none⟩ (.bool od1)).heap.size = w2.heap.size := by simp
  generalize ((((w2.setCell ⟨W.heap.size, 0, none⟩ (.bool m1)).setCell ⟨W.heap.size, 1, none⟩ (.slice ao1 n1 cap1)).setCell ⟨W.heap.size, 2, none⟩ (.bool lg1)).setCell ⟨W.heap.size, 3, none⟩ (.bool od1)) = V3 at HY1 HY2 HW3 HR3 hv3 ⊢
  clear HX1 HX2 HD1 HBD1 x0 x1 x2 x3 y0 y1 y2 y3 HB1 HB2 HVB
  rcases HR3.out with ⟨h1, rfl⟩ | ⟨h1, rfl, h3⟩
  · obtain ⟨x0, x1, x2, x3, y0, y1, y2, y3⟩ := HY1.out
    obtain ⟨z0, z1, z2, z3, t0, t1, t2, t3⟩ := HY2.out
    go_upto_region 4 with (fail)
    go_region
    obtain ⟨w', hw', hf1, hf2, hfb, hfr⟩ := two_fin HY1.out HY2.out
    rw [← hw']
    obtain ⟨p0, p1, p2, p3, _, _, _, _⟩ := hf1
    obtain ⟨q0, q1, q2, q3, _, _, _, _⟩ := hf2
    have HFB := Lib.hid (hfb _ _ HW3.out (Nat.le_refl _))
    clear hw' hfb hfr
    go_wp2_with fail
    exact bodyPost_ret (v := .tuple #[numV m1 (.slice ao1 n1 cap1) lg1 od1, numV false (.slice none 0 0) false false, .int .i64 2]) (by simp [results, Tryd.results69, go_sem, p0, p1, p2, p3, q0, q1, q2, q3]) rfl ⟨_, _, _, _, _, _, _, _, _, _, _, _, 2, rfl, Or.inl ⟨fun h => h1 h.1, rfl⟩, HFB.out⟩
  · go_upto_region 4 with (go_at_call 62; refine (parse_num b _ hb).mono ?_; rintro e w4 hq; obtain ⟨m2, ao2, n2, cap2, lg2, od2, er2, rfl, hd, hbd⟩ := hq.two; have HD2 := Lib.hid hd; have HBD2 := Lib.hid hbd; have HZ1 := Lib.hid (HY1.out.after hbd); have HZ2 := Lib.hid (HY2.out.after hbd); obtain ⟨x0, x1, x2, x3, y0, y1, y2, y3⟩ := HZ1.out; obtain ⟨z0, z1, z2, z3, t0, t1, t2, t3⟩ := HZ2.out; clear hq hd hbd)
    go_region
    obtain ⟨w', hw', hf1, hf2, hfb, hfr⟩ := two_fin (w := (((w4.setCell ⟨W.heap.size + 1, 0, none⟩ (.bool m2)).setCell ⟨W.heap.size + 1, 1, none⟩ (.slice ao2 n2 cap2)).setCell ⟨W.heap.size + 1, 2, none⟩ (.bool lg2)).setCell ⟨W.heap.size + 1, 3, none⟩ (.bool od2))
      ((((HZ1.out.far (by omega)).far (by omega)).far (by omega)).far (by omega)) (HZ2.out.four (.bool m2) (.slice ao2 n2 cap2) (.bool lg2) (.bool od2))
    rw [← hw']
    obtain ⟨p0, p1, p2, p3, _, _, _, _⟩ := hf1
    obtain ⟨q0, q1, q2, q3, _, _, _, _⟩ := hf2
    have HFB := Lib.hid (hfb _ _ (below_four (HW3.out.trans (HBD2.out.mono (by omega))) (by omega) _ _ _ _) (Nat.le_refl W.heap.size))
    have HFA := Lib.hid (hfr _ _ _ _ _ ((h3.later HBD2.out).four (show W.heap.size + 1 < W.heap.size + 2 by omega) (.bool m2) (.slice ao2 n2 cap2) (.bool lg2) (.bool od2)) (Nat.le_refl _))
    have HFC : Hid ((¬ IsNum b ∧ er2 = 2) ∨ (IsNum b ∧ er2 = 0 ∧ RdB (W.heap.size + 2) b w' m2 (.slice ao2 n2 cap2) lg2)) := Lib.hid (by
      rcases HD2.out with h | ⟨k1, k2, k3⟩
      · exact Or.inl h
      · exact Or.inr ⟨k1, k2, hfr _ _ _ _ _ ((k3.mono (by omega)).four (show W.heap.size + 1 < W.heap.size + 2 by omega) (.bool m2) (.slice ao2 n2 cap2) (.bool lg2) (.bool od2)) (Nat.le_refl _)⟩)
    clear hw' hfb hfr
    go_wp2_with fail
    refine bodyPost_ret (v := .tuple #[numV m1 (.slice ao1 n1 cap1) lg1 od1, numV m2 (.slice ao2 n2 cap2) lg2 od2, .int .i64 er2]) (by simp [results, Tryd.results69, go_sem, p0, p1, p2, p3, q0, q1, q2, q3]) rfl ⟨_, _, _, _, _, _, _, _, _, _, _, _, er2, rfl, ?_, HFB.out⟩
    rcases HFC.out with ⟨k1, k2⟩ | ⟨k1, k2, k3⟩
    · exact Or.inl ⟨fun h => k1 h.2, k2⟩
    · exact Or.inr ⟨⟨h1, k1⟩, k2, HFA.out.rdg, k3.rdg⟩
end Go.Proofs.YtkpoegdcmnjedaaDoor
namespace Go.Proofs.YtkpoegdcmnjedaaDoor
open Go.RowKit
set_option linter.unusedVariables false
set_option linter.unusedSimpArgs false

/-- what a function of two numbers' texts tells. -/
def TwoR (f : Int → Int → Int) (a b : ByteArray) (W : World) (e : Ending) (W' : World) : Prop :=
  ∃ (r : ByteArray) (er : Int), e = .returned (.tuple #[.string r, .int .i64 er]) ∧
    ((¬ (IsNum a ∧ IsNum b) ∧ r = ⟨#[]⟩ ∧ er = 2) ∨ ((IsNum a ∧ IsNum b) ∧ (Lim ≤ natT a ∨ Lim ≤ natT b) ∧ r = ⟨#[]⟩ ∧ er = 4) ∨
     ((IsNum a ∧ IsNum b) ∧ natT a < Lim ∧ natT b < Lim ∧ r = toldS (f (valT a) (valT b)) ∧ er = toldE (f (valT a) (valT b)))) ∧ Below W.heap.size W W'
set_option maxRecDepth 100000 in
set_option maxHeartbeats 2000000 in
theorem two_plus (a b : ByteArray) (W : World) (ha : a.size ≤ 1000000) (hb : b.size ≤ 1000000) : Calls Tryd.prog 63 #[.string a, .string b, .func (.func 64) #[] #[]] W (TwoR (fun x y => x + y) a b W) := by
  go_enter Tryd.func63, Tryd.ntmps63
  go_wp2_with (first | (go_at_call 69; refine (parseTwo_any a b _ ha hb).mono ?_; rintro e w2 ⟨m1, ao1, n1, cap1, lg1, od1, m2, ao2, n2, cap2, lg2, od2, er, rfl, hd, hbd⟩; have HD := Lib.hid hd; have HB := Lib.hid hbd; clear hd hbd; rcases HD.out with ⟨h1, rfl⟩ | ⟨h1, rfl, h2 | ⟨h2, rfl, h3⟩, h4 | ⟨h4, rfl, h5⟩⟩) | (go_at_call 64; refine (nplus_any (h3.later (((Below.refl _ _).alloc (Nat.le_refl _) _).alloc (by simp) _) (Nat.le_refl _)) (h5.later (((Below.refl _ _).alloc (Nat.le_refl _) _).alloc (by simp) _) (Nat.le_refl _)) (by decide)).mono ?_; rintro e w4 ⟨⟨v4, rfl, h6⟩, hb4⟩; have HB4 := Lib.hid hb4; have H6 := Lib.hid h6.nm; clear hb4 h6) | (go_at_call 77; refine (written_any H6.out (by decide)).mono ?_; rintro e w5 ⟨rfl, hb5⟩; have HB5 := Lib.hid hb5; clear hb5))
  · exact bodyPost_ret (v := .tuple #[.string ⟨#[]⟩, .int .i64 2]) (by simp [results, Tryd.results63, go_sem]) rfl ⟨_, 2, rfl, Or.inl ⟨h1, rfl, rfl⟩, ((HB.out.alloc HB.out.size _).alloc (by have := HB.out.size; simp; omega) _)⟩
  · exact bodyPost_ret (v := .tuple #[.string ⟨#[]⟩, .int .i64 4]) (by simp [results, Tryd.results63, go_sem]) rfl ⟨_, 4, rfl, Or.inr (Or.inl ⟨h1, Or.inl h2.1, rfl, rfl⟩), ((HB.out.alloc HB.out.size _).alloc (by have := HB.out.size; simp; omega) _)⟩
  · exact bodyPost_ret (v := .tuple #[.string ⟨#[]⟩, .int .i64 4]) (by simp [results, Tryd.results63, go_sem]) rfl ⟨_, 4, rfl, Or.inr (Or.inl ⟨h1, Or.inl h2.1, rfl, rfl⟩), ((HB.out.alloc HB.out.size _).alloc (by have := HB.out.size; simp; omega) _)⟩
  · exact bodyPost_ret (v := .tuple #[.string ⟨#[]⟩, .int .i64 4]) (by simp [results, Tryd.results63, go_sem]) rfl ⟨_, 4, rfl, Or.inr (Or.inl ⟨h1, Or.inr h4.1, rfl, rfl⟩), ((HB.out.alloc HB.out.size _).alloc (by have := HB.out.size; simp; omega) _)⟩
  · exact bodyPost_ret (v := .tuple #[.string (toldS (valT a + valT b)), .int .i64 (toldE (valT a + valT b))]) (by simp [results, Tryd.results63, go_sem]) rfl ⟨_, _, rfl, Or.inr (Or.inr ⟨h1, h2, h4, rfl, rfl⟩),
      (((HB.out.alloc HB.out.size _).alloc (by have := HB.out.size; simp; omega) _).trans (HB4.out.mono (by have := HB.out.size; simp; omega))).trans (HB5.out.mono (by have h8 := HB.out.size; have h7 := HB4.out.size; simp at h7; omega))⟩
set_option maxHeartbeats 1000000 in
theorem add_any (a b : ByteArray) (W : World) (ha : a.size ≤ 1000000) (hb : b.size ≤ 1000000) : Calls Tryd.prog 17 #[.string a, .string b] W (TwoR (fun x y => x + y) a b W) := by
  go_enter Tryd.func17, Tryd.ntmps17
  go_wp2_with (go_at_call 63; refine (two_plus a b _ ha hb).mono ?_; rintro e w ⟨r, er, rfl, h, hb⟩)
  exact bodyPost_ret (v := .tuple #[.string r, .int .i64 er]) (by simp [results, Tryd.results17, go_sem]) rfl ⟨_, _, rfl, h, hb⟩
end Go.Proofs.YtkpoegdcmnjedaaDoor
