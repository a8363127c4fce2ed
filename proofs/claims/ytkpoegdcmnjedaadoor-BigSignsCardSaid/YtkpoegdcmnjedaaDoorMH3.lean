import Derived.Test.YtkpoegdcmnjedaaDoorMG7
namespace Go.Proofs.YtkpoegdcmnjedaaDoor
open Go.RowKit
set_option linter.unusedVariables false
set_option linter.unusedSimpArgs false

theorem eight_cells {g h : Nat} {x0 x1 x2 x3 y0 y1 y2 y3 : Value} {W : World} (a : Box4 g x0 x1 x2 x3 W) (b : Box4 h y0 y1 y2 y3 W) :
    W.cell? ⟨g, 0, none⟩ = some x0 ∧ W.cell? ⟨g, 1, none⟩ = some x1 ∧ W.cell? ⟨g, 2, none⟩ = some x2 ∧ W.cell? ⟨g, 3, none⟩ = some x3 ∧
    (W.cell? ⟨h, 0, none⟩ = some y0 ∧ W.cell? ⟨h, 1, none⟩ = some y1 ∧ W.cell? ⟨h, 2, none⟩ = some y2 ∧ W.cell? ⟨h, 3, none⟩ = some y3) :=
  ⟨a.c0, a.c1, a.c2, a.c3, b.c0, b.c1, b.c2, b.c3⟩
theorem Box4.far4 {g c : Nat} {x0 x1 x2 x3 y0 y1 y2 y3 : Value} {W : World} (h : Box4 g x0 x1 x2 x3 W) (hc : g ≠ c) :
    Box4 g x0 x1 x2 x3 ((((W.setCell ⟨c, 0, none⟩ y0).setCell ⟨c, 1, none⟩ y1).setCell ⟨c, 2, none⟩ y2).setCell ⟨c, 3, none⟩ y3) :=
  (((h.far hc).far hc).far hc).far hc

theorem Nm.parts {K : Nat} {W : World} {v : Value} {x : Int} (h : Nm K W v x) : ∃ b a n p o, v = numV b (.slice a n p) false o ∧ Nm K W (numV b (.slice a n p) false o) x := by
  have h' := h
  obtain ⟨ao, n, cap, od, rfl, _, _⟩ := h'
  exact ⟨_, _, _, _, _, rfl, h⟩
theorem NmB.parts {B K : Nat} {W : World} {v : Value} {x : Int} (h : NmB B K W v x) : ∃ b a n p o, v = numV b (.slice a n p) false o ∧ NmB B K W (numV b (.slice a n p) false o) x := by
  have h' := h
  obtain ⟨ao, n, cap, od, rfl, _, _⟩ := h'
  exact ⟨_, _, _, _, _, rfl, h⟩

set_option maxRecDepth 100000 in
set_option maxHeartbeats 4000000 in
theorem less_any {K : Nat} {W : World} {va vb : Value} {x y : Int} (ha : Nm K W va x) (hb : Nm K W vb y) (hK : K ≤ 100000) :
    Calls Tryd.prog 67 #[va, vb] W fun e W' => (∃ v, e = .returned v ∧ NmB W.heap.size (K + 1) W' v (x - y)) ∧ Below W.heap.size W W' := by
  have HA := Lib.hid ha
  have HB := Lib.hid hb
  obtain ⟨a1, n1, p1, o1, rfl, hm1, hn1⟩ := ha
  obtain ⟨a2, n2, p2, o2, rfl, hm2, hn2⟩ := hb
  obtain ⟨s1, HS1⟩ : ∃ s, Hid (decide (x < 0) = s) := ⟨_, Lib.hid rfl⟩
  obtain ⟨s2, HS2⟩ : ∃ s, Hid (decide (y < 0) = s) := ⟨_, Lib.hid rfl⟩
  rw [HS1.out] at HA ⊢
  rw [HS2.out] at HB ⊢
  obtain ⟨V, hV, v0, v1, v2, vb, vs⟩ := three_new W (Obj.cells #[.bool s1, .slice a1 n1 p1, .bool false, .bool o1] 46) (Obj.cells #[.bool s2, .slice a2 n2 p2, .bool false, .bool o2] 46) (Obj.cells #[.bool false, .slice none 0 0, .bool false, .bool false] 46)
  have HA1 := Lib.hid (HA.out.later vb (Nat.le_refl _))
  have HB1 := Lib.hid (HB.out.later vb (Nat.le_refl _))
  have HVB := Lib.hid vb
  have F0 := Lib.hid (And.intro (Box4.of v0) (And.intro (Box4.of v1) (Box4.of v2)))
  clear hm1 hm2 vb v0 v1 v2
  go_enter Tryd.func67, Tryd.ntmps67
  go_upto_region 1 with (fail)
  rw [← hV]
  clear hV
  go_region_held3 (fun w' => (w'.cell? ⟨W.heap.size, 0, none⟩ = some (.bool s1) ∧ w'.cell? ⟨W.heap.size, 1, none⟩ = some (.slice a1 n1 p1) ∧ w'.cell? ⟨W.heap.size, 2, none⟩ = some (.bool false) ∧ w'.cell? ⟨W.heap.size, 3, none⟩ = some (.bool o1) ∧ w'.cell? ⟨W.heap.size + 1, 0, none⟩ = some (.bool s2) ∧ w'.cell? ⟨W.heap.size + 1, 1, none⟩ = some (.slice a2 n2 p2) ∧ w'.cell? ⟨W.heap.size + 1, 2, none⟩ = some (.bool false) ∧ w'.cell? ⟨W.heap.size + 1, 3, none⟩ = some (.bool o2))) (first | exact eight_cells (F0.out.1.after (Below.drew (Below.refl _ _))) (F0.out.2.1.after (Below.drew (Below.refl _ _))) | exact eight_cells (F0.out.1.after (undrew hb5)) (F0.out.2.1.after (undrew hb5)) | exact eight_cells ((F0.out.1.after (undrew hb5)).after hb6) ((F0.out.2.1.after (undrew hb5)).after hb6) | exact eight_cells (((F0.out.1.after (undrew hb5)).after hb6).far4 (by omega)) (((F0.out.2.1.after (undrew hb5)).after hb6).far4 (by omega))) (first | (go_at_call 89; refine (negated_any (HB1.out.later (Below.drew (Below.refl _ _)) (Nat.le_refl _))).mono ?_; rintro e w5 ⟨⟨v5, rfl, hm5⟩, hb5⟩; obtain ⟨b5, a5, n5, p5, o5, rfl, hm5'⟩ := hm5.parts; have HM5 := Lib.hid hm5'; clear hm5 hm5') | (go_at_call 64; refine (nplus_any (HA1.out.later (undrew hb5) (Nat.le_refl _)) HM5.out hK).mono ?_; rintro e w6 ⟨⟨v6, rfl, hm6⟩, hb6⟩; obtain ⟨b6, a6, n6, p6, o6, rfl, hm6'⟩ := hm6.parts; have HM6 := Lib.hid hm6'; clear hm6 hm6'; obtain ⟨g0, g1, g2, g3, g4, g5, g6, g7⟩ := (F0.out.2.2.after (undrew hb5)).after hb6))
  go_wp2
  have B5 := undrew hb5
  have hxy : x + -y = x - y := by omega
  refine bodyPost_ret (v := numV b6 (.slice a6 n6 p6) false o6) (by simp [results, Tryd.results67, go_sem, g0, g1, g2, g3]) rfl ⟨⟨_, rfl, ?_⟩, ?_⟩
  · rw [← hxy]
    exact (HM6.out.four (by have := B5.size; omega) _ _ _ _).mono (by have := B5.size; omega)
  · exact below_four ((HVB.out.trans (B5.mono (by omega))).trans (hb6.mono (by have := B5.size; omega))) (by omega) _ _ _ _
end Go.Proofs.YtkpoegdcmnjedaaDoor
namespace Go.Proofs.YtkpoegdcmnjedaaDoor
open Go.RowKit
set_option linter.unusedVariables false
set_option linter.unusedSimpArgs false

def cmpZ (x y : Int) : Int := if x < y then -1 else if y < x then 1 else 0
theorem cmpZ_pos {x y : Int} (hx : 0 ≤ x) (hy : 0 ≤ y) : cmpZ x y = cmpI x.natAbs y.natAbs := by
  unfold cmpZ cmpI
  (repeat' split) <;> omega
theorem cmpZ_neg {x y : Int} (hx : x < 0) (hy : y < 0) : cmpZ x y = cmpI y.natAbs x.natAbs := by
  unfold cmpZ cmpI
  (repeat' split) <;> omega
theorem cmag_any {K : Nat} {x y : Int} {W : World} {s1 s2 : Bool} {a1 a2 : Option Addr} {n1 n2 p1 p2 : Nat} {o1 o2 : Bool}
    (ha : Nm K W (numV s1 (.slice a1 n1 p1) false o1) x) (hb : Nm K W (numV s2 (.slice a2 n2 p2) false o2) y) (hK : K ≤ 100000) :
    Calls Tryd.prog 112 #[.slice a1 n1 p1, .slice a2 n2 p2] W fun e W' => e = .returned (.int .i64 (cmpI x.natAbs y.natAbs)) ∧ Below W.heap.size W W' := by
  obtain ⟨b1, m1, q1, r1, e1, h1, k1⟩ := ha
  obtain ⟨b2, m2, q2, r2, e2, h2, k2⟩ := hb
  simp only [numV, Value.agg.injEq, Array.mk.injEq, List.cons.injEq, Value.slice.injEq] at e1 e2
  obtain ⟨_, ⟨rfl, rfl, rfl⟩, _⟩ := e1
  obtain ⟨_, ⟨rfl, rfl, rfl⟩, _⟩ := e2
  have HC := compare_any h1 h2 (digs_dig (by decide) _) (digs_dig (by decide) _) (by show nd x.natAbs ≤ _; omega) (by show nd y.natAbs ≤ _; omega)
  rw [val_digs (by decide), val_digs (by decide)] at HC
  exact HC
set_option maxHeartbeats 1000000 in
theorem ncompare_any {K : Nat} {W : World} {va vb : Value} {x y : Int} (ha : Nm K W va x) (hb : Nm K W vb y) (hK : K ≤ 100000) :
    Calls Tryd.prog 70 #[va, vb] W fun e W' => e = .returned (.int .i64 (cmpZ x y)) ∧ Below W.heap.size W W' := by
  have HA := Lib.hid ha
  have HB := Lib.hid hb
  obtain ⟨a1, n1, p1, o1, rfl, hm1, hn1⟩ := ha
  obtain ⟨a2, n2, p2, o2, rfl, hm2, hn2⟩ := hb
  obtain ⟨c, HC⟩ : ∃ c, Hid (cmpZ x y = c) := ⟨_, Lib.hid rfl⟩
  rw [HC.out]
  by_cases hx : x < 0
  all_goals
    by_cases hy : y < 0
    all_goals
      first | rw [decide_eq_true hx] at HA ⊢ | rw [decide_eq_false hx] at HA ⊢
      first | rw [decide_eq_true hy] at HB ⊢ | rw [decide_eq_false hy] at HB ⊢
  · rw [cmpZ_neg hx hy] at HC
    have HC2 := HC
    clear hm1 hm2 hn1 hn2 hx hy
    go_enter Tryd.func70, Tryd.ntmps70
    go_wp2_with (go_at_call 112; go_loud (refine (cmag_any (HB.out.later (((Below.refl _ _).alloc (Nat.le_refl _) _).alloc (by simp) _) (Nat.le_refl _)) (HA.out.later (((Below.refl _ _).alloc (Nat.le_refl _) _).alloc (by simp) _) (Nat.le_refl _)) hK).mono ?_; rintro e w5 ⟨rfl, hb5⟩; have HB5 := Lib.hid hb5; clear hb5))
    go_ret
    exact ⟨by rw [HC2.out] <;> rfl, (((Below.refl _ _).alloc (Nat.le_refl _) _).alloc (by simp) _).trans (HB5.out.mono (by simp; omega))⟩
  · have hc : Hid (c = -1) := Lib.hid (by rw [← HC.out]; unfold cmpZ; rw [if_pos (by omega)])
    clear hm1 hm2 hn1 hn2 hx hy
    go_enter Tryd.func70, Tryd.ntmps70
    go_wp2
    go_ret
    exact ⟨by rw [hc.out] <;> rfl, ((Below.refl _ _).alloc (Nat.le_refl _) _).alloc (by simp) _⟩
  · have hc : Hid (c = 1) := Lib.hid (by rw [← HC.out]; unfold cmpZ; rw [if_neg (by omega), if_pos (by omega)])
    clear hm1 hm2 hn1 hn2 hx hy
    go_enter Tryd.func70, Tryd.ntmps70
    go_wp2
    go_ret
    exact ⟨by rw [hc.out] <;> rfl, ((Below.refl _ _).alloc (Nat.le_refl _) _).alloc (by simp) _⟩
  · rw [cmpZ_pos (by omega) (by omega)] at HC
    have HC2 := HC
    clear hm1 hm2 hn1 hn2 hx hy
    go_enter Tryd.func70, Tryd.ntmps70
    go_wp2_with (go_at_call 112; go_loud (refine (cmag_any (HA.out.later (((Below.refl _ _).alloc (Nat.le_refl _) _).alloc (by simp) _) (Nat.le_refl _)) (HB.out.later (((Below.refl _ _).alloc (Nat.le_refl _) _).alloc (by simp) _) (Nat.le_refl _)) hK).mono ?_; rintro e w5 ⟨rfl, hb5⟩; have HB5 := Lib.hid hb5; clear hb5))
    go_ret
    exact ⟨by rw [HC2.out] <;> rfl, (((Below.refl _ _).alloc (Nat.le_refl _) _).alloc (by simp) _).trans (HB5.out.mono (by simp; omega))⟩

/-- -1, 0 or 1. -/
def sgnZ (x : Int) : Int := if x < 0 then -1 else if 0 < x then 1 else 0
set_option maxHeartbeats 1000000 in
theorem sign_any {K : Nat} {W : World} {v : Value} {x : Int} (h : Nm K W v x) : Calls Tryd.prog 75 #[v] W fun e W' => e = .returned (.int .i64 (sgnZ x)) ∧ Below W.heap.size W W' := by
  obtain ⟨ao, n, cap, od, rfl, hm, hn⟩ := h
  obtain ⟨c, HC⟩ : ∃ c, Hid (sgnZ x = c) := ⟨_, Lib.hid rfl⟩
  have hl := hm.len
  rw [HC.out]
  by_cases hx : x < 0
  · rw [decide_eq_true hx]
    have hc : Hid (c = -1) := Lib.hid (by rw [← HC.out]; unfold sgnZ; rw [if_pos (by omega)])
    clear hm hn hx hl
    go_enter Tryd.func75, Tryd.ntmps75
    go_wp2
    go_ret
    exact ⟨by rw [hc.out] <;> rfl, (Below.refl _ _).alloc (Nat.le_refl _) _⟩
  · rw [decide_eq_false hx]
    by_cases h0 : x = 0
    · have hc : Hid (c = 0) := Lib.hid (by rw [← HC.out]; unfold sgnZ; rw [if_neg (by omega), if_neg (by omega)])
      obtain rfl : n = 0 := by rw [hl, h0]; exact nd_zero.2 rfl
      clear hm hn hx hl h0
      go_enter Tryd.func75, Tryd.ntmps75
      go_wp2
      go_ret
      exact ⟨by rw [hc.out] <;> rfl, (Below.refl _ _).alloc (Nat.le_refl _) _⟩
    · have hc : Hid (c = 1) := Lib.hid (by rw [← HC.out]; unfold sgnZ; rw [if_neg (by omega), if_pos (by omega)])
      have hp : 0 < n := by
        rw [hl]; exact Nat.pos_of_ne_zero fun e => by have := nd_zero.1 e; omega
      clear hm hn hx hl h0
      go_enter Tryd.func75, Tryd.ntmps75
      go_wp2
      go_ret
      exact ⟨by rw [hc.out] <;> rfl, (Below.refl _ _).alloc (Nat.le_refl _) _⟩
end Go.Proofs.YtkpoegdcmnjedaaDoor
namespace Go.Proofs.YtkpoegdcmnjedaaDoor
open Go.RowKit
set_option linter.unusedVariables false
set_option linter.unusedSimpArgs false

set_option maxRecDepth 100000 in
set_option maxHeartbeats 2000000 in
theorem two_less (a b : ByteArray) (W : World) (ha : a.size ≤ 1000000) (hb : b.size ≤ 1000000) : Calls Tryd.prog 63 #[.string a, .string b, .func (.func 67) #[] #[]] W (TwoR (fun x y => x - y) a b W) := by
  go_enter Tryd.func63, Tryd.ntmps63
  go_wp2_with (first | (go_at_call 69; refine (parseTwo_any a b _ ha hb).mono ?_; rintro e w2 ⟨m1, ao1, n1, cap1, lg1, od1, m2, ao2, n2, cap2, lg2, od2, er, rfl, hd, hbd⟩; have HD := Lib.hid hd; have HB := Lib.hid hbd; clear hd hbd; rcases HD.out with ⟨h1, rfl⟩ | ⟨h1, rfl, h2 | ⟨h2, rfl, h3⟩, h4 | ⟨h4, rfl, h5⟩⟩) | (go_at_call 67; refine (less_any (h3.later (((Below.refl _ _).alloc (Nat.le_refl _) _).alloc (by simp) _) (Nat.le_refl _)) (h5.later (((Below.refl _ _).alloc (Nat.le_refl _) _).alloc (by simp) _) (Nat.le_refl _)) (by decide)).mono ?_; rintro e w4 ⟨⟨v4, rfl, h6⟩, hb4⟩; have HB4 := Lib.hid hb4; have H6 := Lib.hid h6.nm; clear hb4 h6) | (go_at_call 77; refine (written_any H6.out (by decide)).mono ?_; rintro e w5 ⟨rfl, hb5⟩; have HB5 := Lib.hid hb5; clear hb5))
  · exact bodyPost_ret (v := .tuple #[.string ⟨#[]⟩, .int .i64 2]) (by simp [results, Tryd.results63, go_sem]) rfl ⟨_, 2, rfl, Or.inl ⟨h1, rfl, rfl⟩, ((HB.out.alloc HB.out.size _).alloc (by have := HB.out.size; simp; omega) _)⟩
  · exact bodyPost_ret (v := .tuple #[.string ⟨#[]⟩, .int .i64 4]) (by simp [results, Tryd.results63, go_sem]) rfl ⟨_, 4, rfl, Or.inr (Or.inl ⟨h1, Or.inl h2.1, rfl, rfl⟩), ((HB.out.alloc HB.out.size _).alloc (by have := HB.out.size; simp; omega) _)⟩
  · exact bodyPost_ret (v := .tuple #[.string ⟨#[]⟩, .int .i64 4]) (by simp [results, Tryd.results63, go_sem]) rfl ⟨_, 4, rfl, Or.inr (Or.inl ⟨h1, Or.inl h2.1, rfl, rfl⟩), ((HB.out.alloc HB.out.size _).alloc (by have := HB.out.size; simp; omega) _)⟩
  · exact bodyPost_ret (v := .tuple #[.string ⟨#[]⟩, .int .i64 4]) (by simp [results, Tryd.results63, go_sem]) rfl ⟨_, 4, rfl, Or.inr (Or.inl ⟨h1, Or.inr h4.1, rfl, rfl⟩), ((HB.out.alloc HB.out.size _).alloc (by have := HB.out.size; simp; omega) _)⟩
  · exact bodyPost_ret (v := .tuple #[.string (toldS (valT a - valT b)), .int .i64 (toldE (valT a - valT b))]) (by simp [results, Tryd.results63, go_sem]) rfl ⟨_, _, rfl, Or.inr (Or.inr ⟨h1, h2, h4, rfl, rfl⟩),
      (((HB.out.alloc HB.out.size _).alloc (by have := HB.out.size; simp; omega) _).trans (HB4.out.mono (by have := HB.out.size; simp; omega))).trans (HB5.out.mono (by have h8 := HB.out.size; have h7 := HB4.out.size; simp at h7; omega))⟩
set_option maxHeartbeats 1000000 in
theorem sub_any (a b : ByteArray) (W : World) (ha : a.size ≤ 1000000) (hb : b.size ≤ 1000000) : Calls Tryd.prog 19 #[.string a, .string b] W (TwoR (fun x y => x - y) a b W) := by
  go_enter Tryd.func19, Tryd.ntmps19
  go_wp2_with (go_at_call 63; refine (two_less a b _ ha hb).mono ?_; rintro e w ⟨r, er, rfl, h, hb⟩)
  exact bodyPost_ret (v := .tuple #[.string r, .int .i64 er]) (by simp [results, Tryd.results19, go_sem]) rfl ⟨_, _, rfl, h, hb⟩
/-- what Compare tells. -/
def CmpQ (a b : ByteArray) (W : World) (e : Ending) (W' : World) : Prop :=
  ∃ (r er : Int), e = .returned (.tuple #[.int .i64 r, .int .i64 er]) ∧
    ((¬ (IsNum a ∧ IsNum b) ∧ r = 0 ∧ er = 2) ∨ ((IsNum a ∧ IsNum b) ∧ (Lim ≤ natT a ∨ Lim ≤ natT b) ∧ r = 0 ∧ er = 4) ∨
     ((IsNum a ∧ IsNum b) ∧ natT a < Lim ∧ natT b < Lim ∧ r = cmpZ (valT a) (valT b) ∧ er = 0)) ∧ Below W.heap.size W W'
set_option maxRecDepth 100000 in
set_option maxHeartbeats 2000000 in
theorem compareT_any (a b : ByteArray) (W : World) (ha : a.size ≤ 1000000) (hb : b.size ≤ 1000000) : Calls Tryd.prog 21 #[.string a, .string b] W (CmpQ a b W) := by
  go_enter Tryd.func21, Tryd.ntmps21
  go_wp2_with (first | (go_at_call 69; refine (parseTwo_any a b _ ha hb).mono ?_; rintro e w2 ⟨m1, ao1, n1, cap1, lg1, od1, m2, ao2, n2, cap2, lg2, od2, er, rfl, hd, hbd⟩; have HD := Lib.hid hd; have HB := Lib.hid hbd; clear hd hbd; rcases HD.out with ⟨h1, rfl⟩ | ⟨h1, rfl, h2 | ⟨h2, rfl, h3⟩, h4 | ⟨h4, rfl, h5⟩⟩) | (go_at_call 70; refine (ncompare_any (h3.later (((Below.refl _ _).alloc (Nat.le_refl _) _).alloc (by simp) _) (Nat.le_refl _)) (h5.later (((Below.refl _ _).alloc (Nat.le_refl _) _).alloc (by simp) _) (Nat.le_refl _)) (by decide)).mono ?_; rintro e w4 ⟨rfl, hb4⟩; have HB4 := Lib.hid hb4; clear hb4))
  · exact bodyPost_ret (v := .tuple #[.int .i64 0, .int .i64 2]) (by simp [results, Tryd.results21, go_sem]) rfl ⟨_, 2, rfl, Or.inl ⟨h1, rfl, rfl⟩, ((HB.out.alloc HB.out.size _).alloc (by have := HB.out.size; simp; omega) _)⟩
  · exact bodyPost_ret (v := .tuple #[.int .i64 0, .int .i64 4]) (by simp [results, Tryd.results21, go_sem]) rfl ⟨_, 4, rfl, Or.inr (Or.inl ⟨h1, Or.inl h2.1, rfl, rfl⟩), ((HB.out.alloc HB.out.size _).alloc (by have := HB.out.size; simp; omega) _)⟩
  · exact bodyPost_ret (v := .tuple #[.int .i64 0, .int .i64 4]) (by simp [results, Tryd.results21, go_sem]) rfl ⟨_, 4, rfl, Or.inr (Or.inl ⟨h1, Or.inl h2.1, rfl, rfl⟩), ((HB.out.alloc HB.out.size _).alloc (by have := HB.out.size; simp; omega) _)⟩
  · exact bodyPost_ret (v := .tuple #[.int .i64 0, .int .i64 4]) (by simp [results, Tryd.results21, go_sem]) rfl ⟨_, 4, rfl, Or.inr (Or.inl ⟨h1, Or.inr h4.1, rfl, rfl⟩), ((HB.out.alloc HB.out.size _).alloc (by have := HB.out.size; simp; omega) _)⟩
  · exact bodyPost_ret (v := .tuple #[.int .i64 (cmpZ (valT a) (valT b)), .int .i64 0]) (by simp [results, Tryd.results21, go_sem]) rfl ⟨_, _, rfl, Or.inr (Or.inr ⟨h1, h2, h4, rfl, rfl⟩),
      ((HB.out.alloc HB.out.size _).alloc (by have := HB.out.size; simp; omega) _).trans (HB4.out.mono (by have := HB.out.size; simp; omega))⟩
end Go.Proofs.YtkpoegdcmnjedaaDoor
