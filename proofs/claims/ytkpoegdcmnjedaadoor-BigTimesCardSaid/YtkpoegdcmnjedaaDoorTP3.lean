import Derived.Test.YtkpoegdcmnjedaaDoorMG7
import Derived.Test.YtkpoegdcmnjedaaDoorSB3
import Derived.Test.YtkpoegdcmnjedaaDoorMH4
import Derived.Deep.CutRange
namespace Go.Proofs.YtkpoegdcmnjedaaDoor
open Go.RowKit
set_option linter.unusedVariables false
set_option linter.unusedSimpArgs false

/-! ### parseTwo, with whether the second number is odd -/
theorem parQ_num {s : ByteArray} {W w : World} {e : Ending} (hq : ParQ s W e w) : NumQ s W e w := by
  obtain ⟨ao, n, cap, lg, od, er, rfl, h, hb⟩ := hq
  refine ⟨_, ao, n, cap, lg, od, er, rfl, ?_, hb⟩
  rcases h with ⟨h1, h2, h3, h4, h5⟩ | ⟨h1, _, _, _, _, _, h7⟩
  · by_cases hl : Lim ≤ natT s
    · exact Or.inr (Or.inl ⟨h1, hl, h4, by rw [h2]; exact decide_eq_true hl⟩)
    · have hl2 : natT s < Lim := by omega
      have hlg : lg = false := by rw [h2]; exact decide_eq_false hl
      refine Or.inr (Or.inr ⟨h1, hl2, h4, hlg, ?_, h5 hl2⟩)
      subst hlg
      refine Nm.mk (a := natT s) ((h5 hl2).mono (Nat.zero_le _)) (valT_abs s) ?_ (nd_lim hl2)
      intro hz
      unfold valT
      by_cases hp : pneg (ptext s) = true
      · rw [if_pos hp, hp]; symm; rw [decide_eq_true_eq]; omega
      · rw [if_neg hp]
        have : pneg (ptext s) = false := by simpa using hp
        rw [this]; symm; rw [decide_eq_false_iff_not]; omega
  · exact Or.inl ⟨h1, h7⟩

theorem parse_odd (s : ByteArray) (W : World) (hs : s.size ≤ 1000000) : Calls Tryd.prog 62 #[.string s] W fun e W' => ∃ m ao n cap lg od, ∃ er : Int, e = .returned (.tuple #[numV m (.slice ao n cap) lg od, .int .i64 er]) ∧
      ((¬ IsNum s ∧ er = 2) ∨ (IsNum s ∧ er = 0 ∧ RdB W.heap.size s W' m (.slice ao n cap) lg)) ∧ (IsNum s → od = decide (natT s % 2 = 1)) ∧ Below W.heap.size W W' := by
  refine (parse_any s W hs).mono ?_
  intro e w hq
  obtain ⟨m, ao, n, cap, lg, od, er, he, h, hb⟩ := (parQ_num hq).two
  refine ⟨m, ao, n, cap, lg, od, er, he, h, fun hn => ?_, hb⟩
  obtain ⟨ao', n', cap', lg', od', er', he', h', _⟩ := hq
  rw [he] at he'
  simp only [numV, Ending.returned.injEq, Value.tuple.injEq, Value.agg.injEq, Array.mk.injEq, List.cons.injEq, Value.bool.injEq, and_true] at he'
  obtain ⟨⟨_, _, _, e4⟩, _⟩ := he'
  rw [e4]
  rcases h' with ⟨_, _, h3, _⟩ | ⟨h1, _⟩
  · exact h3
  · exact absurd hn h1
/-- what parseTwo tells, with whether the second number is odd. -/
def TwoO (a b : ByteArray) (W : World) (e : Ending) (W' : World) : Prop :=
  ∃ m1 ao1 n1 cap1 lg1 od1 m2 ao2 n2 cap2 lg2 od2, ∃ er : Int, e = .returned (.tuple #[numV m1 (.slice ao1 n1 cap1) lg1 od1, numV m2 (.slice ao2 n2 cap2) lg2 od2, .int .i64 er]) ∧
    ((¬ (IsNum a ∧ IsNum b) ∧ er = 2) ∨ ((IsNum a ∧ IsNum b) ∧ er = 0 ∧ Rdg a W' (numV m1 (.slice ao1 n1 cap1) lg1 od1) lg1 ∧ Rdg b W' (numV m2 (.slice ao2 n2 cap2) lg2 od2) lg2 ∧ od2 = decide (natT b % 2 = 1))) ∧ Below W.heap.size W W'
set_option maxRecDepth 100000 in
set_option maxHeartbeats 2000000 in
theorem parseTwo_odd (a b : ByteArray) (W : World) (ha : a.size ≤ 1000000) (hb : b.size ≤ 1000000) : Calls Tryd.prog 69 #[.string a, .string b] W (TwoO a b W) := by
  obtain ⟨V1, hV1, hbox1, vb1, vs1⟩ := box_new W (.bool false) (.slice none 0 0) (.bool false) (.bool false)
  obtain ⟨V, hV, hbox, vb, vs⟩ := box_new V1 (.bool false) (.slice none 0 0) (.bool false) (.bool false)
  rw [vs1] at hbox
  have HB1 := Lib.hid (hbox1.after vb)
  have HB2 := Lib.hid hbox
  have HVB := Lib.hid (vb1.trans (vb.mono (by omega)))
  have hvs : V.heap.size = W.heap.size + 2 := by omega
  have hVV : V = (W.alloc (Obj.cells #[.bool false, .slice none 0 0, .bool false, .bool false] 46)).alloc (Obj.cells #[.bool false, .slice none 0 0, .bool false, .bool false] 46) := by rw [hV, hV1]
  clear hbox vb hV hV1 hbox1 vb1
  go_enter Tryd.func69, Tryd.ntmps69
  go_upto_region 1 with (fail)
  rw [← hVV]
  clear hVV
  go_upto_region 2 with (go_at_call 62; refine (parse_odd a _ ha).mono ?_; rintro e w2 hq; obtain ⟨m1, ao1, n1, cap1, lg1, od1, er1, rfl, hd, -, hbd⟩ := hq; have HD1 := Lib.hid hd; have HBD1 := Lib.hid hbd; have HX1 := Lib.hid (HB1.out.after hbd); have HX2 := Lib.hid (HB2.out.after hbd); obtain ⟨x0, x1, x2, x3, y0, y1, y2, y3⟩ := HX1.out; clear hd hbd)
  have HY1 := Lib.hid (HX1.out.four (.bool m1) (.slice ao1 n1 cap1) (.bool lg1) (.bool od1))
  have HY2 := Lib.hid (((((HX2.out.far (c := W.heap.size) (j := 0) (y := .bool m1) (by omega)).far (c := W.heap.size) (j := 1) (y := .slice ao1 n1 cap1) (by omega)).far (c := W.heap.size) (j := 2) (y := .bool lg1) (by omega)).far (c := W.heap.size) (j := 3) (y := .bool od1) (by omega)))
  have HW3 := Lib.hid (below_four (HVB.out.trans (HBD1.out.mono (by omega))) (Nat.le_refl W.heap.size) (.bool m1) (.slice ao1 n1 cap1) (.bool lg1) (.bool od1))
  have hsz := HBD1.out.size
  have HR3 : Hid ((¬ IsNum a ∧ er1 = 2) ∨ (IsNum a ∧ er1 = 0 ∧ RdB (W.heap.size + 2) a ((((w2.setCell ⟨W.heap.size, 0, none⟩ (.bool m1)).setCell ⟨W.heap.size, 1, none⟩ (.slice ao1 n1 cap1)).setCell ⟨W.heap.size, 2, none⟩ (.bool lg1)).setCell ⟨W.heap.size, 3, none⟩ (.bool od1)) m1 (.slice ao1 n1 cap1) lg1)) := Lib.hid (by
    rcases HD1.out with h | ⟨h1, h2, h3⟩
    · exact Or.inl h
    · exact Or.inr ⟨h1, h2, (h3.mono (by omega)).four (by omega) _ _ _ _⟩)
  have hv3 : ((((w2.setCell ⟨W.heap.size, 0, none⟩ (.bool m1)).setCell ⟨W.heap.size, 1, none⟩ (.slice ao1 n1 cap1)).setCell ⟨W.heap.size, 2, none⟩ (.bool lg1)).setCell ⟨W.heap.size, 3, none⟩ (.bool od1)).heap.size = w2.heap.size := by simp
  generalize ((((w2.setCell ⟨W.heap.size, 0, none⟩ (.bool m1)).setCell ⟨W.heap.size, 1, none⟩ (.slice ao1 n1 cap1)).setCell ⟨W.heap.size, 2, none⟩ (.bool lg1)).setCell ⟨W.heap.size, 3, none⟩ (.bool od1)) = V3 at HY1 HY2 HW3 HR3 hv3 ⊢
  clear HX1 HX2 HD1 HBD1 x0 x1 x2 x3 y0 y1 y2 y3 HB1 HB2 HVB
  rcases HR3.out with ⟨h1, rfl⟩ | ⟨h1, rfl, h3⟩
  · obtain ⟨x0, x1, x2, x3, y0, y1, y2, y3⟩ := HY1.out
    obtain ⟨z0, z1, z2, z3, t0, t1, t2, t3⟩ := HY2.out
    go_upto_region 4 with (fail)
    go_region
    obtain ⟨w', hw', hf1, hf2, hfb, hfr⟩ := two_fin HY1.out HY2.out
    rw [← hw']
    obtain ⟨p0, p1, p2, p3, _, _, _, _⟩ := hf1
    obtain ⟨q0, q1, q2, q3, _, _, _, _⟩ := hf2
    have HFB := Lib.hid (hfb _ _ HW3.out (Nat.le_refl _))
    clear hw' hfb hfr
    go_wp2_with fail
    exact bodyPost_ret (v := .tuple #[numV m1 (.slice ao1 n1 cap1) lg1 od1, numV false (.slice none 0 0) false false, .int .i64 2]) (by simp [results, Tryd.results69, go_sem, p0, p1, p2, p3, q0, q1, q2, q3]) rfl ⟨_, _, _, _, _, _, _, _, _, _, _, _, 2, rfl, Or.inl ⟨fun h => h1 h.1, rfl⟩, HFB.out⟩
  · go_upto_region 4 with (go_at_call 62; refine (parse_odd b _ hb).mono ?_; rintro e w4 hq; obtain ⟨m2, ao2, n2, cap2, lg2, od2, er2, rfl, hd, hod, hbd⟩ := hq; have HOD := Lib.hid hod; have HD2 := Lib.hid hd; have HBD2 := Lib.hid hbd; have HZ1 := Lib.hid (HY1.out.after hbd); have HZ2 := Lib.hid (HY2.out.after hbd); obtain ⟨x0, x1, x2, x3, y0, y1, y2, y3⟩ := HZ1.out; obtain ⟨z0, z1, z2, z3, t0, t1, t2, t3⟩ := HZ2.out; clear hd hbd hod)
    go_region
    obtain ⟨w', hw', hf1, hf2, hfb, hfr⟩ := two_fin (w := (((w4.setCell ⟨W.heap.size + 1, 0, none⟩ (.bool m2)).setCell ⟨W.heap.size + 1, 1, none⟩ (.slice ao2 n2 cap2)).setCell ⟨W.heap.size + 1, 2, none⟩ (.bool lg2)).setCell ⟨W.heap.size + 1, 3, none⟩ (.bool od2))
      ((((HZ1.out.far (by omega)).far (by omega)).far (by omega)).far (by omega)) (HZ2.out.four (.bool m2) (.slice ao2 n2 cap2) (.bool lg2) (.bool od2))
    rw [← hw']
    obtain ⟨p0, p1, p2, p3, _, _, _, _⟩ := hf1
    obtain ⟨q0, q1, q2, q3, _, _, _, _⟩ := hf2
    have HFB := Lib.hid (hfb _ _ (below_four (HW3.out.trans (HBD2.out.mono (by omega))) (by omega) _ _ _ _) (Nat.le_refl W.heap.size))
    have HFA := Lib.hid (hfr _ _ _ _ _ ((h3.later HBD2.out).four (show W.heap.size + 1 < W.heap.size + 2 by omega) (.bool m2) (.slice ao2 n2 cap2) (.bool lg2) (.bool od2)) (Nat.le_refl _))
    have HFC : Hid ((¬ IsNum b ∧ er2 = 2) ∨ (IsNum b ∧ er2 = 0 ∧ RdB (W.heap.size + 2) b w' m2 (.slice ao2 n2 cap2) lg2)) := Lib.hid (by
      rcases HD2.out with h | ⟨k1, k2, k3⟩
      · exact Or.inl h
      · exact Or.inr ⟨k1, k2, hfr _ _ _ _ _ ((k3.mono (by omega)).four (show W.heap.size + 1 < W.heap.size + 2 by omega) (.bool m2) (.slice ao2 n2 cap2) (.bool lg2) (.bool od2)) (Nat.le_refl _)⟩)
    clear hw' hfb hfr
    go_wp2_with fail
    refine bodyPost_ret (v := .tuple #[numV m1 (.slice ao1 n1 cap1) lg1 od1, numV m2 (.slice ao2 n2 cap2) lg2 od2, .int .i64 er2]) (by simp [results, Tryd.results69, go_sem, p0, p1, p2, p3, q0, q1, q2, q3]) rfl ⟨_, _, _, _, _, _, _, _, _, _, _, _, er2, rfl, ?_, HFB.out⟩
    rcases HFC.out with ⟨k1, k2⟩ | ⟨k1, k2, k3⟩
    · exact Or.inl ⟨fun h => k1 h.2, k2⟩
    · exact Or.inr ⟨⟨h1, k1⟩, k2, HFA.out.rdg, k3.rdg, HOD.out k1⟩
end Go.Proofs.YtkpoegdcmnjedaaDoor
namespace Go.Proofs.YtkpoegdcmnjedaaDoor
open Go.RowKit
set_option linter.unusedVariables false
set_option linter.unusedSimpArgs false

/-! ### Pow: the mathematics -/
theorem told_long {x : Int} (h : Lim ≤ x.natAbs) : toldS x = ⟨#[]⟩ ∧ toldE x = 4 := by
  unfold toldS toldE
  rw [if_neg (by omega), if_neg (by omega)]
  exact ⟨rfl, rfl⟩
theorem pow_grow {x : Int} (hx : 1 ≤ x.natAbs) {j k : Nat} (hjk : j ≤ k) (h : Lim ≤ (x ^ j).natAbs) : Lim ≤ (x ^ k).natAbs := by
  rw [Int.natAbs_pow] at *
  exact Nat.le_trans h (Nat.pow_le_pow_right hx hjk)
theorem lim_2048 : Lim ≤ 2 ^ 2048 := by unfold Lim; decide +kernel
theorem lim_2048T : ∀ T : Nat, T = 2048 → Lim ≤ 2 ^ T := by rintro T rfl; exact lim_2048
theorem pow_big {x : Int} (hx : 2 ≤ x.natAbs) {k : Nat} (hk : 2048 ≤ k) : Lim ≤ (x ^ k).natAbs := by
  obtain ⟨T, hT⟩ : ∃ T : Nat, T = 2048 := ⟨_, rfl⟩
  rw [Int.natAbs_pow]
  exact Nat.le_trans (lim_2048T T hT) (Nat.le_trans (Nat.pow_le_pow_left hx T) (Nat.pow_le_pow_right (by omega) (by omega)))
theorem pow_unit {x : Int} (hx : x.natAbs = 1) (k : Nat) : x ^ k = if x < 0 ∧ k % 2 = 1 then -1 else 1 := by
  have h1 : x = 1 ∨ x = -1 := by omega
  rcases h1 with rfl | rfl
  · rw [Int.one_pow, if_neg (by omega)]
  · induction k with
    | zero => rfl
    | succ k ih =>
      rw [Int.pow_succ, ih]
      by_cases h : k % 2 = 1
      · rw [if_pos ⟨by decide, h⟩, if_neg (by omega)]; rfl
      · rw [if_neg (fun c => h c.2), if_pos ⟨by decide, by omega⟩]; rfl
theorem pow_two_step (x : Int) (y i : Nat) : x ^ (y / 2 ^ i) = x ^ (y / 2 ^ (i + 1)) * x ^ (y / 2 ^ (i + 1)) * x ^ (y / 2 ^ i % 2) := by
  rw [← Int.pow_add, ← Int.pow_add]
  congr 1
  have h1 : y / 2 ^ (i + 1) = y / 2 ^ i / 2 := by rw [Nat.pow_succ, Nat.div_div_eq_div_mul]
  rw [h1]
  omega
theorem nd_of_pow {n : Nat} (h : n < 2 ^ 1994) : nd n ≤ 63 := nd_of_bits (k := 63) (Nat.le_trans (bits_le.2 h) (by decide))
/-- what Pow tells of numbers that are not too long. -/
def PwQ (a b : ByteArray) (W : World) (e : Ending) (W' : World) : Prop :=
  ∃ (r : ByteArray) (er : Int), e = .returned (.tuple #[.string r, .int .i64 er]) ∧
    ((¬ (IsNum a ∧ IsNum b) ∧ r = ⟨#[]⟩ ∧ er = 2) ∨ ((IsNum a ∧ IsNum b) ∧ (valT b < 0 ∧ natT a ≠ 1) ∧ r = ⟨#[]⟩ ∧ er = 7) ∨
     ((IsNum a ∧ IsNum b) ∧ ¬ (valT b < 0 ∧ natT a ≠ 1) ∧ r = toldS (valT a ^ natT b) ∧ er = toldE (valT a ^ natT b))) ∧ Below W.heap.size W W'
theorem M.setAny {B : Nat} {W : World} {v : Value} {l : List Nat} (h : M B W v l) {b : Nat} (hb : ∀ k, v.ownBlock = some k → k ≠ b) (j : Nat) (x : Value) : M B (W.setCell ⟨b, j, none⟩ x) v l := by
  refine h.kept (grownBy_setCell W b j x) ?_
  cases e : v.ownBlock with
  | none => exact Or.inl rfl
  | some k => exact Or.inr fun e2 => hb k e (by cases e2; rfl)
theorem M.fourAny {B : Nat} {W : World} {v : Value} {l : List Nat} (h : M B W v l) {g : Nat} (hb : ∀ k, v.ownBlock = some k → k ≠ g) (x0 x1 x2 x3 : Value) :
    M B ((((W.setCell ⟨g, 0, none⟩ x0).setCell ⟨g, 1, none⟩ x1).setCell ⟨g, 2, none⟩ x2).setCell ⟨g, 3, none⟩ x3) v l := (((h.setAny hb 0 x0).setAny hb 1 x1).setAny hb 2 x2).setAny hb 3 x3
end Go.Proofs.YtkpoegdcmnjedaaDoor
namespace Go.Proofs.YtkpoegdcmnjedaaDoor
open Go.RowKit
set_option linter.unusedVariables false
set_option linter.unusedSimpArgs false

/-! ### Pow -/
theorem two_after {w w' : World} {a1 a2 : Addr} {v1 v2 : Value} (hb : Below w.heap.size w w') (h : w.cell? a1 = some v1 ∧ w.cell? a2 = some v2) : w'.cell? a1 = some v1 ∧ w'.cell? a2 = some v2 := ⟨cell_after hb h.1, cell_after hb h.2⟩
/-- the number in the variable r. -/
structure PwV (z : Int) (K : Nat) (w4 wr : World) (g : Nat) (m : Bool) (a : Option Addr) (n p : Nat) (od : Bool) : Prop where
  box : Box4 g (.bool m) (.slice a n p) (.bool false) (.bool od) wr
  num : M 0 wr (.slice a n p) (digs B32 z.natAbs)
  sgn : m = decide (z < 0)
  own : ∀ j, (Value.slice a n p).ownBlock = some j → j ≠ g
  kn : nd z.natAbs ≤ K
  ge : w4.heap.size ≤ g
  bel : Below w4.heap.size w4 wr
abbrev PwI (x : Int) (Y : Nat) (w4 wr : World) (g : Nat) (k : Nat) (m : Bool) (a : Option Addr) (n p : Nat) (od : Bool) : Prop := PwV (x ^ (Y / 2 ^ k)) 63 w4 wr g m a n p od
theorem PwV.nm {z : Int} {K : Nat} {w4 wr : World} {g : Nat} {m : Bool} {a : Option Addr} {n p : Nat} {od : Bool} (h : PwV z K w4 wr g m a n p od) : Nm K wr (numV m (.slice a n p) false od) z := ⟨a, n, p, od, by rw [h.sgn], h.num, h.kn⟩
theorem PwV.step {z z' : Int} {K K' : Nat} {w4 wr w' : World} {g : Nat} {m m' : Bool} {a a' : Option Addr} {n p n' p' : Nat} {od od' : Bool} (h : PwV z K w4 wr g m a n p od) (hb : Below wr.heap.size wr w') (hm : M wr.heap.size w' (.slice a' n' p') (digs B32 z'.natAbs)) (hs : decide (z' < 0) = m') (hk : nd z'.natAbs ≤ K') :
    PwV z' K' w4 ((((w'.setCell ⟨g, 0, none⟩ (.bool m')).setCell ⟨g, 1, none⟩ (.slice a' n' p')).setCell ⟨g, 2, none⟩ (.bool false)).setCell ⟨g, 3, none⟩ (.bool od')) g m' a' n' p' od' := by
  have hg : g < wr.heap.size := World.block_lt_of_cell? wr ⟨g, 0, none⟩ h.box.c0
  exact ⟨(h.box.after hb).four _ _ _ _, (hm.four hg _ _ _ _).mono (Nat.zero_le _), hs.symm, fun j e => by have := (hm.lt j e).1; omega, hk, h.ge, below_four (h.bel.trans (hb.mono h.bel.size)) h.ge _ _ _ _⟩
theorem pow_start (x : Int) {Y : Nat} (hY : Y < 2048) : x ^ (Y / 2 ^ 11) = 1 := by
  have h2 : (2 : Nat) ^ 11 = 2048 := by decide
  rw [h2, Nat.div_eq_of_lt hY, Int.pow_zero]
theorem pw_digs1 : digs B32 ((1 : Int)).natAbs = [1] := by
  show digs B32 1 = [1]
  rw [digs_pos (by decide) (by decide)]
  show 1 :: digs B32 0 = [1]
  rw [digs_zero]
theorem box4_at (w : World) (x0 x1 x2 x3 : Value) : Box4 w.heap.size x0 x1 x2 x3 (w.alloc (Obj.cells #[x0, x1, x2, x3] 46)) := Box4.of (heap_alloc_new w _)
theorem pw_new1 (x : Int) {Y : Nat} (hY : Y < 2048) (w : World) : PwI x Y w ((w.alloc (Obj.cells #[Value.int .u32 1] 75)).alloc (Obj.cells #[Value.bool false, Value.slice (some ⟨w.heap.size, 0, none⟩) 1 1, Value.bool false, Value.bool false] 46)).drew (w.heap.size + 1) 11 false (some ⟨w.heap.size, 0, none⟩) 1 1 false := by
  have hb : Below w.heap.size w ((w.alloc (Obj.cells #[Value.int .u32 1] 75)).alloc (Obj.cells #[Value.bool false, Value.slice (some ⟨w.heap.size, 0, none⟩) 1 1, Value.bool false, Value.bool false] 46)) := ((Below.refl _ _).alloc (Nat.le_refl _) _).alloc (by simp) _
  have hx := box4_at (w.alloc (Obj.cells #[Value.int .u32 1] 75)) (.bool false) (.slice (some ⟨w.heap.size, 0, none⟩) 1 1) (.bool false) (.bool false)
  rw [World.size_alloc] at hx
  refine ⟨hx.after (Below.drew (Below.refl _ _)), ?_, ?_, ?_, ?_, Nat.le_succ _, hb.drew⟩
  · rw [pow_start x hY, pw_digs1]
    have h1 := (M.one w 1).later ((Below.refl _ _).alloc (Nat.le_refl _) (Obj.cells #[Value.bool false, Value.slice (some ⟨w.heap.size, 0, none⟩) 1 1, Value.bool false, Value.bool false] 46)) (Nat.le_refl _)
    exact (h1.later (Below.drew (Below.refl _ _)) (Nat.le_refl _)).mono (Nat.zero_le _)
  · rw [pow_start x hY]; rfl
  · intro j e; cases e; show w.heap.size ≠ _; omega
  · rw [pow_start x hY]; show (digs B32 _).length ≤ 63; rw [pw_digs1]; decide
theorem pw_new2 (x : Int) {Y : Nat} (hY : Y < 2048) (w : World) : PwI x Y w ((w.alloc (Obj.cells #[Value.bool false, Value.slice (some ⟨w.heap.size + 1, 0, none⟩) 1 1, Value.bool false, Value.bool false] 46)).alloc (Obj.cells #[Value.int .u32 1] 75)).drew w.heap.size 11 false (some ⟨w.heap.size + 1, 0, none⟩) 1 1 false := by
  have hb : Below w.heap.size w ((w.alloc (Obj.cells #[Value.bool false, Value.slice (some ⟨w.heap.size + 1, 0, none⟩) 1 1, Value.bool false, Value.bool false] 46)).alloc (Obj.cells #[Value.int .u32 1] 75)) := ((Below.refl _ _).alloc (Nat.le_refl _) _).alloc (by simp) _
  have hx := (box4_at w (.bool false) (.slice (some ⟨w.heap.size + 1, 0, none⟩) 1 1) (.bool false) (.bool false)).after ((Below.refl _ _).alloc (Nat.le_refl _) (Obj.cells #[Value.int .u32 1] 75))
  refine ⟨hx.after (Below.drew (Below.refl _ _)), ?_, ?_, ?_, ?_, Nat.le_refl _, hb.drew⟩
  · rw [pow_start x hY, pw_digs1]
    have h1 := M.one (w.alloc (Obj.cells #[Value.bool false, Value.slice (some ⟨w.heap.size + 1, 0, none⟩) 1 1, Value.bool false, Value.bool false] 46)) 1
    rw [World.size_alloc] at h1
    exact (h1.later (Below.drew (Below.refl _ _)) (Nat.le_refl _)).mono (Nat.zero_le _)
  · rw [pow_start x hY]; rfl
  · intro j e; cases e; show w.heap.size + 1 ≠ _; omega
  · rw [pow_start x hY]; show (digs B32 _).length ≤ 63; rw [pw_digs1]; decide
set_option maxRecDepth 100000 in
set_option maxHeartbeats 8000000 in
theorem pow_any (a b : ByteArray) (W : World) (ha : a.size ≤ 1000000) (hb : b.size ≤ 1000000) (la : IsNum a → natT a < Lim) (lb : IsNum b → natT b < Lim) :
    Calls Tryd.prog 27 #[.string a, .string b] W (PwQ a b W) := by
  have LA := Lib.hid la
  have LB := Lib.hid lb
  clear la lb
  go_enter Tryd.func27, Tryd.ntmps27
  go_wp2_with fail
  refine (parseTwo_odd a b _ ha hb).mono ?_
  rintro e w2 ⟨m1, ao1, n1, cap1, lg1, od1, m2, ao2, n2, cap2, lg2, od2, er, rfl, hd, hbd⟩
  obtain ⟨V, hV, hx1, hx2, vb, vs⟩ := two_boxes w2 (.bool m1) (.slice ao1 n1 cap1) (.bool lg1) (.bool od1) (.bool m2) (.slice ao2 n2 cap2) (.bool lg2) (.bool od2)
  have HB := Lib.hid (hbd.trans (vb.mono hbd.size))
  have HVB := Lib.hid vb
  have F1 := Lib.hid hx1
  have F2 := Lib.hid hx2
  obtain ⟨c0, c1, c2, c3, -, -, -, -⟩ := F1.out
  obtain ⟨d0, d1, d2, d3, -, -, -, -⟩ := F2.out
  have hz2 := hbd.size
  clear hx1 hx2 hbd vb
  go_upto_region 2 with (fail)
  rw [← hV]
  clear hV
  rcases hd with ⟨h1, rfl⟩ | ⟨h1, rfl, h2, h3, h4⟩
  · go_wp2
    exact bodyPost_ret (v := .tuple #[.string ⟨#[]⟩, .int .i64 2]) (by simp [results, Tryd.results27, go_sem]) rfl ⟨_, 2, rfl, Or.inl ⟨h1, rfl, rfl⟩, HB.out⟩
  have HI := Lib.hid h1
  have e2 : lg1 = false ∧ Nm 63 w2 (numV m1 (.slice ao1 n1 cap1) lg1 od1) (valT a) := by
    rcases h2 with ⟨k1, _⟩ | ⟨_, k2, k3⟩
    · exact absurd (LA.out h1.1) (by omega)
    · exact ⟨k2, k3⟩
  have e3 : lg2 = false ∧ Nm 63 w2 (numV m2 (.slice ao2 n2 cap2) lg2 od2) (valT b) := by
    rcases h3 with ⟨k1, _⟩ | ⟨_, k2, k3⟩
    · exact absurd (LB.out h1.2) (by omega)
    · exact ⟨k2, k3⟩
  obtain ⟨rfl, ha2⟩ := e2
  obtain ⟨rfl, hb2⟩ := e3
  have hya : natT b = (valT b).natAbs := (valT_abs b).symm
  have hxa : natT a = (valT a).natAbs := (valT_abs a).symm
  have HQ : Hid (∀ (r : ByteArray) (er : Int) (W' : World), (((valT b < 0 ∧ (valT a).natAbs ≠ 1) ∧ r = ⟨#[]⟩ ∧ er = 7) ∨ (¬ (valT b < 0 ∧ (valT a).natAbs ≠ 1) ∧ r = toldS (valT a ^ (valT b).natAbs) ∧ er = toldE (valT a ^ (valT b).natAbs))) → Below W.heap.size W W' → PwQ a b W (.returned (.tuple #[.string r, .int .i64 er])) W') := Lib.hid (by
    intro r er W' h hw
    rw [← hxa, ← hya] at h
    refine ⟨r, er, rfl, ?_, hw⟩
    rcases h with h | h
    · exact Or.inr (Or.inl ⟨h1, h⟩)
    · exact Or.inr (Or.inr ⟨h1, h⟩))
  rw [hya] at h4
  obtain ⟨x, hx⟩ : ∃ x, valT a = x := ⟨_, rfl⟩
  obtain ⟨y, hy⟩ : ∃ y, valT b = y := ⟨_, rfl⟩
  rw [hx] at ha2 HQ
  rw [hy] at hb2 HQ h4
  have hxl : x.natAbs < Lim := by rw [← hx, ← hxa]; exact LA.out h1.1
  clear hx hy hya hxa h1 h2 h3 LA LB HI
  obtain ⟨a1', n1', p1', o1', ea, hma, hna⟩ := ha2
  obtain ⟨a2', n2', p2', o2', eb, hmb, hnb⟩ := hb2
  simp only [numV, Value.agg.injEq, Array.mk.injEq, List.cons.injEq, Value.slice.injEq, Value.bool.injEq, and_true] at ea eb
  obtain ⟨hm1, ⟨rfl, rfl, rfl⟩, -, -⟩ := ea
  obtain ⟨hm2, ⟨rfl, rfl, rfl⟩, -, -⟩ := eb
  have HM1 := Lib.hid hm1
  have HM2 := Lib.hid hm2
  have HOD := Lib.hid h4
  have HMA := Lib.hid hma
  have HMB := Lib.hid hmb
  have HNA := Lib.hid (And.intro hna hnb)
  have HXL := Lib.hid hxl
  have hl1 : n1 = nd x.natAbs := hma.len
  have hl2 : n2 = nd y.natAbs := hmb.len
  have HL := Lib.hid (And.intro hl1 hl2)
  obtain ⟨u, HU⟩ : ∃ u, Hid (decide (x.natAbs = 1) = u) := ⟨_, Lib.hid rfl⟩
  clear hm1 hm2 h4 hmb hna hnb hl2 hxl
  go_upto_region 4 with (fail)
  go_cut [9] from 23 to 38 (fun q9 wx => q9 = .bool u ∧ V = wx)
  case first =>
    by_cases h1 : n1 = 1
    · have hlt : x.natAbs < B32 := by
        have := (digs_length_le (b := B32) (n := x.natAbs) (k := 1) (by decide)).1 (by show nd x.natAbs ≤ 1; omega)
        rwa [Nat.pow_one] at this
      have hdx : digs B32 x.natAbs = [x.natAbs] := by
        have h0 : 0 < x.natAbs := Nat.pos_of_ne_zero fun e => by rw [e] at hl1; rw [nd_zero.2 rfl] at hl1; omega
        rw [digs_pos (by decide) h0, Nat.mod_eq_of_lt hlt, Nat.div_eq_of_lt hlt, digs_zero]
      subst h1
      rw [hdx] at hma
      obtain ⟨g1, rfl, _, hg1⟩ := hma.block (by decide)
      have hcell := (hma.later HVB.out (Nat.le_refl _)).cell (i := 0) (by simp)
      rw [show dg [x.natAbs] 0 = x.natAbs from rfl] at hcell
      obtain ⟨t, HT⟩ : ∃ t : Nat, Hid (x.natAbs = t) := ⟨_, Lib.hid rfl⟩
      rw [HT.out] at hcell
      clear hma hdx hl1 hlt
      by_cases ht : t = 1
      · have hu : Hid (true = u) := Lib.hid (by rw [← HU.out, HT.out, ht]; rfl)
        subst ht
        go_wp2
        go_meet
        exact ⟨congrArg Value.bool hu.out, rfl⟩
      · have hu : Hid (false = u) := Lib.hid (by rw [← HU.out, HT.out]; symm; exact decide_eq_false ht)
        have ht2 : decide ((t : Int) = 1) = false := decide_eq_false (by omega)
        have ht3 : ((t : Int) == 1) = false := by rw [beq_eq_false_iff_ne]; omega
        go_wp2
        go_meet
        exact ⟨congrArg Value.bool hu.out, rfl⟩
    · have hu : Hid (false = u) := Lib.hid (by
        rw [← HU.out]; symm
        refine decide_eq_false fun e => h1 ?_
        rw [hl1, e]
        show (digs B32 1).length = 1
        rw [digs_pos (by decide) (by decide)]
        show (1 :: digs B32 0).length = 1
        rw [digs_zero]; rfl)
      have hn3 : ((n1 : Int) == 1) = false := by rw [beq_eq_false_iff_ne]; omega
      clear hma hl1
      go_wp2
      go_meet
      exact ⟨congrArg Value.bool hu.out, rfl⟩
  case rest =>
    obtain ⟨rfl, rfl⟩ := hcut
    clear hma hl1
    have HMV : Hid (M 0 V (.slice ao1 n1 cap1) (digs B32 x.natAbs) ∧ M 0 V (.slice ao2 n2 cap2) (digs B32 y.natAbs)) := Lib.hid ⟨HMA.out.later HVB.out (Nat.le_refl _), HMB.out.later HVB.out (Nat.le_refl _)⟩
    cases u
    case true =>
      have hx1 : x.natAbs = 1 := of_decide_eq_true HU.out
      have HPU := Lib.hid (pow_unit hx1 y.natAbs)
      obtain ⟨z, HZ⟩ : ∃ z, Hid (x ^ y.natAbs = z) := ⟨_, Lib.hid rfl⟩
      have HZZ : Hid (z.natAbs = x.natAbs ∧ (m1 && od2) = decide (z < 0)) := Lib.hid (by
        have h := HPU.out
        rw [HZ.out] at h
        rw [h, HM1.out, HOD.out, hx1]
        by_cases hc : x < 0 ∧ y.natAbs % 2 = 1
        · rw [if_pos hc, decide_eq_true hc.1, decide_eq_true hc.2]; exact ⟨rfl, rfl⟩
        · rw [if_neg hc]
          refine ⟨rfl, ?_⟩
          rw [show decide ((1 : Int) < 0) = false from rfl]
          by_cases h0 : x < 0
          · rw [decide_eq_false (fun c => hc ⟨h0, c⟩)]; exact Bool.and_false _
          · rw [decide_eq_false h0]; rfl)
      have HNP : Hid (¬ (y < 0 ∧ x.natAbs ≠ 1)) := Lib.hid fun h => h.2 hx1
      have HNZ : Hid (∀ (w' : World) (s : Bool), Below V.heap.size V w' → s = ((m1 && od2) && (false || decide (0 < n1))) → Nm 63 w' (numV s (.slice ao1 n1 cap1) false od1) z) := Lib.hid fun w' s hw' hs => by rw [hs]; exact Nm.mk (HMV.out.1.later hw' (Nat.le_refl _)) HZZ.out.1 (fun _ => HZZ.out.2) HNA.out.1
      clear hx1
      cases m1
      · go_wp2_with (first | (go_at_call 80; (with_reducible refine (signed_any _ _ _ _ _ _ _ _).mono ?_); rintro e w4 ⟨rfl, hb4⟩; have HB4 := Lib.hid hb4; clear hb4) | (go_at_call 77; (with_reducible refine (written_any (HNZ.out _ _ HB4.out (by simp)) (by decide)).mono ?_); rintro e w5 ⟨rfl, hb5⟩; have HB5 := Lib.hid hb5; clear hb5))
        all_goals exact bodyPost_ret (v := .tuple #[.string (toldS z), .int .i64 (toldE z)]) (by simp [results, Tryd.results27, go_sem]) rfl (HQ.out _ _ _ (Or.inr ⟨HNP.out, by rw [HZ.out], by rw [HZ.out]⟩) ((HB.out.trans (HB4.out.mono HB.out.size)).trans (HB5.out.mono (Nat.le_trans HB.out.size HB4.out.size))))
      · go_wp2_with (first | (go_at_call 80; (with_reducible refine (signed_any _ _ _ _ _ _ _ _).mono ?_); rintro e w4 ⟨rfl, hb4⟩; have HB4 := Lib.hid hb4; clear hb4) | (go_at_call 77; (with_reducible refine (written_any (HNZ.out _ _ HB4.out (by simp)) (by decide)).mono ?_); rintro e w5 ⟨rfl, hb5⟩; have HB5 := Lib.hid hb5; clear hb5))
        all_goals exact bodyPost_ret (v := .tuple #[.string (toldS z), .int .i64 (toldE z)]) (by simp [results, Tryd.results27, go_sem]) rfl (HQ.out _ _ _ (Or.inr ⟨HNP.out, by rw [HZ.out], by rw [HZ.out]⟩) ((HB.out.trans (HB4.out.mono HB.out.size)).trans (HB5.out.mono (Nat.le_trans HB.out.size HB4.out.size))))
    case false =>
      have hx1 : x.natAbs ≠ 1 := of_decide_eq_false HU.out
      by_cases hy0 : y < 0
      · obtain rfl : m2 = true := by rw [HM2.out]; exact decide_eq_true hy0
        have HNP : Hid (y < 0 ∧ x.natAbs ≠ 1) := Lib.hid ⟨hy0, hx1⟩
        clear hy0 hx1
        go_wp2
        exact bodyPost_ret (v := .tuple #[.string ⟨#[]⟩, .int .i64 7]) (by simp [results, Tryd.results27, go_sem]) rfl (HQ.out _ _ _ (Or.inl ⟨HNP.out, rfl, rfl⟩) HB.out)
      obtain rfl : m2 = false := by rw [HM2.out]; exact decide_eq_false hy0
      have HNP : Hid (¬ (y < 0 ∧ x.natAbs ≠ 1)) := Lib.hid fun h => hy0 h.1
      have HNY : Hid (Nm 63 V (numV false (.slice ao2 n2 cap2) false od2) y) := Lib.hid ⟨ao2, n2, cap2, od2, by rw [decide_eq_false hy0], HMV.out.2, HNA.out.2⟩
      have HNX : Hid (Nm 63 V (numV m1 (.slice ao1 n1 cap1) false od1) x) := Lib.hid ⟨ao1, n1, cap1, od1, by rw [HM1.out], HMV.out.1, HNA.out.1⟩
      by_cases hyz : y = 0
      · have hs : sgnZ y = 0 := by rw [hyz]; rfl
        have HT1 : Hid ((⟨#[49]⟩ : ByteArray) = toldS (x ^ y.natAbs) ∧ (0 : Int) = toldE (x ^ y.natAbs)) := Lib.hid (by
          rw [hyz]
          show (⟨#[49]⟩ : ByteArray) = toldS (x ^ 0) ∧ (0 : Int) = toldE (x ^ 0)
          rw [Int.pow_zero]
          have h := told_small (x := 1) (by unfold Lim; decide +kernel)
          rw [h.1, h.2]
          exact ⟨by unfold ren; decide +kernel, rfl⟩)
        clear hyz hx1 hy0
        go_wp2_with ((go_at_call 75; (with_reducible refine (sign_any HNY.out).mono ?_); rw [hs]; rintro e w3 ⟨rfl, hb3⟩; have HB3 := Lib.hid hb3; clear hb3))
        exact bodyPost_ret (v := .tuple #[.string ⟨#[49]⟩, .int .i64 0]) (by simp [results, Tryd.results27, go_sem]) rfl (HQ.out _ _ _ (Or.inr ⟨HNP.out, HT1.out.1, HT1.out.2⟩) (HB.out.trans (HB3.out.mono HB.out.size)))
      have hs : sgnZ y = 1 := by unfold sgnZ; rw [if_neg hy0, if_pos (by omega)]
      obtain ⟨cx, hcx⟩ : ∃ c, sgnZ x = c := ⟨_, rfl⟩
      by_cases hxz : x = 0
      · obtain rfl : cx = 0 := by rw [← hcx, hxz]; rfl
        have HT1 : Hid ((⟨#[48]⟩ : ByteArray) = toldS (x ^ y.natAbs) ∧ (0 : Int) = toldE (x ^ y.natAbs)) := Lib.hid (by
          rw [hxz, Int.zero_pow (by omega)]
          have h := told_small (x := 0) (by unfold Lim; decide +kernel)
          rw [h.1, h.2]
          exact ⟨by unfold ren; decide +kernel, rfl⟩)
        clear hyz hx1 hy0 hxz
        go_wp2_with (first | (go_at_call 75; (with_reducible refine (sign_any HNY.out).mono ?_); rw [hs]; rintro e w3 ⟨rfl, hb3⟩; have HB3 := Lib.hid hb3; have G1 := F1.out.after hb3; obtain ⟨k0, k1, k2, k3, -, -, -, -⟩ := G1; clear hb3) | (go_at_call 75; (with_reducible refine (sign_any (HNX.out.later HB3.out (Nat.le_refl _))).mono ?_); rw [hcx]; rintro e w4 ⟨rfl, hb4⟩; have HB4 := Lib.hid hb4; clear hb4))
        exact bodyPost_ret (v := .tuple #[.string ⟨#[48]⟩, .int .i64 0]) (by simp [results, Tryd.results27, go_sem]) rfl (HQ.out _ _ _ (Or.inr ⟨HNP.out, HT1.out.1, HT1.out.2⟩) ((HB.out.trans (HB3.out.mono HB.out.size)).trans (HB4.out.mono (Nat.le_trans HB.out.size HB3.out.size))))
      have hcx0 : (cx == 0) = false := by
        rw [beq_eq_false_iff_ne, ← hcx]
        unfold sgnZ
        (repeat' split) <;> omega
      have HX2 : Hid (2 ≤ x.natAbs) := Lib.hid (by omega)
      have HYP : Hid (0 < y.natAbs) := Lib.hid (by omega)
      clear hyz hx1 hy0 hxz
      go_upto_region 15 with (first | (go_at_call 75; (with_reducible refine (sign_any HNY.out).mono ?_); rw [hs]; rintro e w3 ⟨rfl, hb3⟩; have HB3 := Lib.hid hb3; have G1 := F1.out.after hb3; obtain ⟨k0, k1, k2, k3, -, -, -, -⟩ := G1; clear hb3) | (go_at_call 75; (with_reducible refine (sign_any (HNX.out.later HB3.out (Nat.le_refl _))).mono ?_); rw [hcx]; rintro e w4 ⟨rfl, hb4⟩; have HB4 := Lib.hid (HB3.out.trans (hb4.mono HB3.out.size)); clear hb4))
      have G1 := Lib.hid (F1.out.after HB4.out)
      have G2 := Lib.hid (F2.out.after HB4.out)
      have HM4 : Hid (M 0 w4 (.slice ao1 n1 cap1) (digs B32 x.natAbs) ∧ M 0 w4 (.slice ao2 n2 cap2) (digs B32 y.natAbs)) := Lib.hid ⟨HMV.out.1.later HB4.out (Nat.le_refl _), HMV.out.2.later HB4.out (Nat.le_refl _)⟩
      have HBW : Hid (Below W.heap.size W w4) := Lib.hid (HB.out.trans (HB4.out.mono HB.out.size))
      have h81 := bits_any HM4.out.2 (digs_dig (by decide) _) (show nd y.natAbs ≤ 1000000 by have := HNA.out.2; omega)
      have H81 : Hid (Calls Tryd.prog 81 #[.slice ao2 n2 cap2] w4 fun e W' => e = .returned (.int .i64 (bitsN y.natAbs : Nat)) ∧ w4 = W') := Lib.hid h81
      obtain ⟨l0, l1, l2, l3, -, -, -, -⟩ := G2.out
      clear k0 k1 k2 k3 c0 c1 c2 c3 d0 d1 d2 d3 h81 hs hcx hcx0
      by_cases hbig : 2048 ≤ y.natAbs
      · have hbt : 11 < bitsN y.natAbs := by
          rcases Nat.lt_or_ge 11 (bitsN y.natAbs) with h | h
          · exact h
          · have := bits_le.1 h
            have h2 : (2 : Nat) ^ 11 = 2048 := by decide
            omega
        obtain ⟨bt, hbe⟩ : ∃ t, bitsN y.natAbs = t := ⟨_, rfl⟩
        rw [hbe] at hbt H81
        have HTB := Lib.hid (told_long (pow_big HX2.out hbig))
        clear hbig
        go_wp2_with ((go_at_call 81; (with_reducible refine H81.out.mono ?_); rintro e w5 ⟨rfl, rfl⟩))
        exact bodyPost_ret (v := .tuple #[.string ⟨#[]⟩, .int .i64 4]) (by simp [results, Tryd.results27, go_sem]) rfl (HQ.out _ _ _ (Or.inr ⟨HNP.out, HTB.out.1.symm, HTB.out.2.symm⟩) HBW.out)
      have hbt : bitsN y.natAbs ≤ 11 := bits_le.2 (by have h2 : (2 : Nat) ^ 11 = 2048 := by decide
                                                      omega)
      obtain ⟨bt, hbe⟩ : ∃ t, bitsN y.natAbs = t := ⟨_, rfl⟩
      rw [hbe] at hbt H81
      go_upto_region 17 with ((go_at_call 81; (with_reducible refine H81.out.mono ?_); rintro e w5 ⟨rfl, rfl⟩))
      have hYl : y.natAbs < 2048 := by omega
      have hdy : digs B32 y.natAbs = [y.natAbs] := by
        rw [digs_pos (by decide) HYP.out, Nat.mod_eq_of_lt (Nat.lt_of_lt_of_le hYl (by decide)), Nat.div_eq_of_lt (Nat.lt_of_lt_of_le hYl (by decide)), digs_zero]
      have hmy := HM4.out.2
      rw [hdy] at hmy
      obtain rfl : n2 = 1 := hmy.len
      obtain ⟨gy, rfl, _, hgy⟩ := hmy.block (by decide)
      have hcy := hmy.cell (i := 0) (by simp)
      rw [show dg [y.natAbs] 0 = y.natAbs from rfl] at hcy
      obtain ⟨Y, HY⟩ : ∃ Y : Nat, Hid (y.natAbs = Y) := ⟨_, Lib.hid rfl⟩
      rw [HY.out] at hcy hYl
      have HC4 := Lib.hid (And.intro G2.out.c1 hcy)
      have HYL := Lib.hid hYl
      clear hmy hdy hbt H81 hbig hbe hYl HOD HL HNY HNX HM2 HMA HMB F1 F2 HMV
      go_cut [10, 11] from 79 to 84 (fun q10 q11 wx => ∃ g m a n p od, q10 = .pointer (some ⟨g, 0, none⟩) ∧ q11 = .int .u32 (Y : Nat) ∧ Hid (PwI x Y w4 wx g 11 m a n p od))
      case first =>
        go_region_held3 (fun w' => w'.cell? ⟨w2.heap.size + 1, 1, none⟩ = some (.slice (some ⟨gy, 0, none⟩) 1 cap2) ∧ w'.cell? ⟨gy, 0, none⟩ = some (.int .u32 (Y : Nat))) (exact two_after (w := w4) (by repeat (first | exact Below.refl _ _ | (refine Below.setCell ?_ (by first | exact Nat.le_refl _ | (simp; done) | omega) _) | (refine Below.alloc ?_ (by first | omega | (simp; done)) _) | refine Below.drew ?_)) HC4.out) (fail)
        all_goals
          go_wp2
          go_meet
          first | exact ⟨_, _, _, _, _, _, rfl, rfl, Lib.hid (pw_new1 x HYL.out w4)⟩ | exact ⟨_, _, _, _, _, _, rfl, rfl, Lib.hid (pw_new2 x HYL.out w4)⟩
      case rest =>
        obtain ⟨g, m0, aa0, nn0, pp0, od0, rfl, rfl, hr⟩ := hcut
        have HR0 := Lib.hid hr.out
        clear hr l0 l1 l2 l3
        go_wp2
        go_loopw [12] (fun iv wr => ∃ (k : Nat) (m : Bool) (aa : Option Addr) (nn pp : Nat) (od : Bool), iv = .int .i64 ((k : Int) - 1) ∧ k ≤ 11 ∧ Hid (PwI x Y w4 wr g k m aa nn pp od)) (fun iv _ => (intOf iv + 1).toNat)
        case atStart => exact ⟨11, _, _, _, _, _, rfl, Nat.le_refl _, HR0⟩
        case round =>
          obtain ⟨k, m, aa, nn, pp, od, rfl, hk, hi⟩ := hrel
          cases k with
          | zero =>
            have e0 : (((0 : Nat) : Int) - 1) = -1 := by omega
            rw [e0]
            obtain ⟨b0, b1, b2, b3, -, -, -, -⟩ := hi.out.box
            have HNR := Lib.hid hi.out.nm
            have HBI := Lib.hid hi.out.bel
            go_wp2_with (go_at_call 77; (with_reducible refine (written_any HNR.out (by decide)).mono ?_); rintro e w5 ⟨rfl, hb5⟩; have HB5 := Lib.hid hb5; clear hb5)
            have e1 : Y / 2 ^ 0 = Y := by rw [Nat.pow_zero, Nat.div_one]
            refine bodyPost_ret (v := .tuple #[.string (toldS (x ^ (Y / 2 ^ 0))), .int .i64 (toldE (x ^ (Y / 2 ^ 0)))]) (by simp [results, Tryd.results27, go_sem]) rfl (HQ.out _ _ _ (Or.inr ⟨HNP.out, by rw [e1, HY.out], by rw [e1, HY.out]⟩) ((HBW.out.trans (HBI.out.mono HBW.out.size)).trans (HB5.out.mono (Nat.le_trans HBW.out.size HBI.out.size))))
          | succ i =>
            have ei : (((i + 1 : Nat) : Int) - 1) = (i : Int) := by omega
            rw [ei]
            have hi10 : i ≤ 10 := by omega
            obtain ⟨R, HR⟩ : ∃ R, Hid (x ^ (Y / 2 ^ (i + 1)) = R) := ⟨_, Lib.hid rfl⟩
            have HPV : Hid (PwV R 63 w4 wr g m aa nn pp od) := Lib.hid (by rw [← HR.out]; exact hi.out)
            clear hi
            obtain ⟨b0, b1, b2, b3, b4, b5, b6, b7⟩ := HPV.out.box
            have HNR := Lib.hid HPV.out.nm
            go_upto_region 22 with (go_at_call 73; (with_reducible refine (ntimes_any HNR.out HNR.out (by decide)).mono ?_); rintro e w5 ⟨⟨v5, rfl, hm5⟩, hb5⟩; obtain ⟨a5, n5, p5, o5, rfl, hM5, hn5⟩ := hm5; have HM5 := Lib.hid hM5; have HN5 := Lib.hid hn5; have HB5 := Lib.hid hb5; obtain ⟨c0, c1, c2, c3, c4, c5, c6, c7⟩ := HPV.out.box.after hb5; clear hM5 hn5 hb5)
            obtain ⟨s5, HS5⟩ : ∃ b, Hid (decide (R * R < 0) = b) := ⟨_, Lib.hid rfl⟩
            rw [HS5.out]
            have HP6 := Lib.hid (HPV.out.step (od' := o5) HB5.out HM5.out HS5.out HN5.out)
            generalize ((((w5.setCell ⟨g, 0, none⟩ (.bool s5)).setCell ⟨g, 1, none⟩ (.slice a5 n5 p5)).setCell ⟨g, 2, none⟩ (.bool false)).setCell ⟨g, 3, none⟩ (.bool o5)) = w6 at HP6 ⊢
            clear b0 b1 b2 b3 b4 b5 b6 b7 c0 c1 c2 c3 c4 c5 c6 c7 HNR HPV HM5 HN5 HB5 HS5
            have hb1 : (Y : Int) / 2 ^ i = ((Y / 2 ^ i : Nat) : Int) := by rw [Int.natCast_ediv, Int.natCast_pow]; rfl
            have hbt : bits BinOp.and IntKind.u32 ((Y : Int) / 2 ^ i) 1 = ((Y / 2 ^ i % 2 : Nat) : Int) := by
              rw [hb1]
              have h := u32_and_nat (Y / 2 ^ i) 1 (Nat.lt_of_le_of_lt (Nat.div_le_self _ _) (by have := HYL.out; omega)) (by decide)
              rw [Nat.and_one_is_mod] at h
              exact h
            have hpw := pow_two_step x Y i
            rw [HR.out] at hpw
            clear hb1
            by_cases hbit : Y / 2 ^ i % 2 = 1
            · rw [hbit] at hbt hpw
              have HE1 : Hid (x ^ (Y / 2 ^ i) = R * R * x) := Lib.hid (by rw [hpw, Int.pow_succ, Int.pow_zero, Int.one_mul])
              obtain ⟨c0, c1, c2, c3, -, -, -, -⟩ := HP6.out.box
              have G16 := G1.out.after HP6.out.bel
              obtain ⟨g0, g1, g2, g3, -, -, -, -⟩ := G16
              have HN6 := Lib.hid HP6.out.nm
              have HX6 : Hid (Nm 126 w6 (numV m1 (.slice ao1 n1 cap1) false od1) x) := Lib.hid ⟨ao1, n1, cap1, od1, by rw [HM1.out], HM4.out.1.later HP6.out.bel (Nat.le_refl _), by have := HNA.out.1; omega⟩
              clear hpw hbit
              go_upto_region 24 with (go_at_call 73; (with_reducible refine (ntimes_any HN6.out HX6.out (by decide)).mono ?_); rintro e w7 ⟨⟨v7, rfl, hm7⟩, hb7⟩; obtain ⟨a7, n7, p7, o7, rfl, hM7, hn7⟩ := hm7; have HM7 := Lib.hid hM7; have HN7 := Lib.hid hn7; have HB7 := Lib.hid hb7; obtain ⟨f0, f1, f2, f3, f4, f5, f6, f7⟩ := HP6.out.box.after hb7; clear hM7 hn7 hb7)
              obtain ⟨s7, HS7⟩ : ∃ b, Hid (decide (R * R * x < 0) = b) := ⟨_, Lib.hid rfl⟩
              rw [HS7.out]
              have HP8 := Lib.hid (HP6.out.step (od' := o7) HB7.out HM7.out HS7.out HN7.out)
              generalize ((((w7.setCell ⟨g, 0, none⟩ (.bool s7)).setCell ⟨g, 1, none⟩ (.slice a7 n7 p7)).setCell ⟨g, 2, none⟩ (.bool false)).setCell ⟨g, 3, none⟩ (.bool o7)) = w8 at HP8 ⊢
              clear c0 c1 c2 c3 g0 g1 g2 g3 f0 f1 f2 f3 f4 f5 f6 f7 HN6 HX6 HP6 HM7 HN7 HB7 HS7 hbt
              obtain ⟨bn, HBN⟩ : ∃ t, Hid (bitsN (R * R * x).natAbs = t) := ⟨_, Lib.hid rfl⟩
              have h82 := bits_any HP8.out.num (digs_dig (by decide) _) (show nd _ ≤ 1000000 by have := HP8.out.kn; omega)
              have H82 : Hid (Calls Tryd.prog 81 #[.slice a7 n7 p7] w8 fun e W' => e = .returned (.int .i64 (bitsN (R * R * x).natAbs : Nat)) ∧ w8 = W') := Lib.hid h82
              rw [HBN.out] at H82
              obtain ⟨q0, q1, q2, q3, -, -, -, -⟩ := HP8.out.box
              clear h82
              by_cases hover : 1994 < bn
              · have HLG : Hid (Lim ≤ (x ^ y.natAbs).natAbs) := Lib.hid (by
                  rw [HY.out]
                  refine pow_grow (by have := HX2.out; omega) (Nat.div_le_self Y (2 ^ i)) ?_
                  rw [HE1.out]
                  have h1 : ¬ bitsN (R * R * x).natAbs ≤ 1994 := by rw [HBN.out]; omega
                  rw [bits_T94] at h1
                  have := lim_T94
                  omega)
                have HTB := Lib.hid (told_long HLG.out)
                have HBI := Lib.hid HP8.out.bel
                go_wp2_with (go_at_call 81; (with_reducible refine H82.out.mono ?_); rintro e w9 ⟨rfl, rfl⟩)
                exact bodyPost_ret (v := .tuple #[.string ⟨#[]⟩, .int .i64 4]) (by simp [results, Tryd.results27, go_sem]) rfl (HQ.out _ _ _ (Or.inr ⟨HNP.out, HTB.out.1.symm, HTB.out.2.symm⟩) (HBW.out.trans (HBI.out.mono HBW.out.size)))
              · have hdo : decide (1994 < (bn : Int)) = false := decide_eq_false (by omega)
                have HK : Hid (nd (R * R * x).natAbs ≤ 63) := Lib.hid (nd_of_bits (k := 63) (by rw [HBN.out]; omega))
                go_wp2_with (go_at_call 81; (with_reducible refine H82.out.mono ?_); rintro e w9 ⟨rfl, rfl⟩)
                go_roundw
                case rel => exact ⟨i, _, _, _, _, _, by go_num, by omega, Lib.hid (by show PwV (x ^ (Y / 2 ^ i)) _ _ _ _ _ _ _ _ _; rw [HE1.out]; exact ⟨HP8.out.box, HP8.out.num, HP8.out.sgn, HP8.out.own, HK.out, HP8.out.ge, HP8.out.bel⟩)⟩
                case measure => simp [intOf]
            · have hbit0 : Y / 2 ^ i % 2 = 0 := by omega
              rw [hbit0] at hbt hpw
              have HE0 : Hid (x ^ (Y / 2 ^ i) = R * R) := Lib.hid (by rw [hpw, Int.pow_zero, Int.mul_one])
              clear hpw hbit hbit0
              go_upto_region 24 with (fail)
              clear hbt
              obtain ⟨bn, HBN⟩ : ∃ t, Hid (bitsN (R * R).natAbs = t) := ⟨_, Lib.hid rfl⟩
              have h82 := bits_any HP6.out.num (digs_dig (by decide) _) (show nd _ ≤ 1000000 by have := HP6.out.kn; omega)
              have H82 : Hid (Calls Tryd.prog 81 #[.slice a5 n5 p5] w6 fun e W' => e = .returned (.int .i64 (bitsN (R * R).natAbs : Nat)) ∧ w6 = W') := Lib.hid h82
              rw [HBN.out] at H82
              obtain ⟨q0, q1, q2, q3, -, -, -, -⟩ := HP6.out.box
              clear h82
              by_cases hover : 1994 < bn
              · have HLG : Hid (Lim ≤ (x ^ y.natAbs).natAbs) := Lib.hid (by
                  rw [HY.out]
                  refine pow_grow (by have := HX2.out; omega) (Nat.div_le_self Y (2 ^ i)) ?_
                  rw [HE0.out]
                  have h1 : ¬ bitsN (R * R).natAbs ≤ 1994 := by rw [HBN.out]; omega
                  rw [bits_T94] at h1
                  have := lim_T94
                  omega)
                have HTB := Lib.hid (told_long HLG.out)
                have HBI := Lib.hid HP6.out.bel
                go_wp2_with (go_at_call 81; (with_reducible refine H82.out.mono ?_); rintro e w9 ⟨rfl, rfl⟩)
                exact bodyPost_ret (v := .tuple #[.string ⟨#[]⟩, .int .i64 4]) (by simp [results, Tryd.results27, go_sem]) rfl (HQ.out _ _ _ (Or.inr ⟨HNP.out, HTB.out.1.symm, HTB.out.2.symm⟩) (HBW.out.trans (HBI.out.mono HBW.out.size)))
              · have hdo : decide (1994 < (bn : Int)) = false := decide_eq_false (by omega)
                have HK : Hid (nd (R * R).natAbs ≤ 63) := Lib.hid (nd_of_bits (k := 63) (by rw [HBN.out]; omega))
                go_wp2_with (go_at_call 81; (with_reducible refine H82.out.mono ?_); rintro e w9 ⟨rfl, rfl⟩)
                go_roundw
                case rel => exact ⟨i, _, _, _, _, _, by go_num, by omega, Lib.hid (by show PwV (x ^ (Y / 2 ^ i)) _ _ _ _ _ _ _ _ _; rw [HE0.out]; exact ⟨HP6.out.box, HP6.out.num, HP6.out.sgn, HP6.out.own, HK.out, HP6.out.ge, HP6.out.bel⟩)⟩
                case measure => simp [intOf]
end Go.Proofs.YtkpoegdcmnjedaaDoor
