import Derived.Test.YtkpoegdcmnjedaaDoorMH1
namespace Go.Proofs.YtkpoegdcmnjedaaDoor
open Go.RowKit
set_option linter.unusedVariables false
set_option linter.unusedSimpArgs false

def cmpZ (x y : Int) : Int := if x < y then -1 else if y < x then 1 else 0
theorem cmpZ_pos {x y : Int} (hx : 0 ≤ x) (hy : 0 ≤ y) : cmpZ x y = cmpI x.natAbs y.natAbs := by
  unfold cmpZ cmpI
  (repeat' split) <;> omega
theorem cmpZ_neg {x y : Int} (hx : x < 0) (hy : y < 0) : cmpZ x y = cmpI y.natAbs x.natAbs := by
  unfold cmpZ cmpI
  (repeat' split) <;> omega
theorem cmag_any {K : Nat} {x y : Int} {W : World} {s1 s2 : Bool} {a1 a2 : Option Addr} {n1 n2 p1 p2 : Nat} {o1 o2 : Bool}
    (ha : Nm K W (numV s1 (.slice a1 n1 p1) false o1) x) (hb : Nm K W (numV s2 (.slice a2 n2 p2) false o2) y) (hK : K ≤ 100000) :
    Calls Tryd.prog 112 #[.slice a1 n1 p1, .slice a2 n2 p2] W fun e W' => e = .returned (.int .i64 (cmpI x.natAbs y.natAbs)) ∧ Below W.heap.size W W' := by
  obtain ⟨b1, m1, q1, r1, e1, h1, k1⟩ := ha
  obtain ⟨b2, m2, q2, r2, e2, h2, k2⟩ := hb
  simp only [numV, Value.agg.injEq, Array.mk.injEq, List.cons.injEq, Value.slice.injEq] at e1 e2
  obtain ⟨_, ⟨rfl, rfl, rfl⟩, _⟩ := e1
  obtain ⟨_, ⟨rfl, rfl, rfl⟩, _⟩ := e2
  have HC := compare_any h1 h2 (digs_dig (by decide) _) (digs_dig (by decide) _) (by show nd x.natAbs ≤ _; omega) (by show nd y.natAbs ≤ _; omega)
  rw [val_digs (by decide), val_digs (by decide)] at HC
  exact HC
set_option maxHeartbeats 1000000 in
theorem ncompare_any {K : Nat} {W : World} {va vb : Value} {x y : Int} (ha : Nm K W va x) (hb : Nm K W vb y) (hK : K ≤ 100000) :
    Calls Tryd.prog 70 #[va, vb] W fun e W' => e = .returned (.int .i64 (cmpZ x y)) ∧ Below W.heap.size W W' := by
  have HA := Lib.hid ha
  have HB := Lib.hid hb
  obtain ⟨a1, n1, p1, o1, rfl, hm1, hn1⟩ := ha
  obtain ⟨a2, n2, p2, o2, rfl, hm2, hn2⟩ := hb
  obtain ⟨c, HC⟩ : ∃ c, Hid (cmpZ x y = c) := ⟨_, Lib.hid rfl⟩
  rw [HC.out]
  by_cases hx : x < 0
  all_goals
    by_cases hy : y < 0
    all_goals
      first | rw [decide_eq_true hx] at HA ⊢ | rw [decide_eq_false hx] at HA ⊢
      first | rw [decide_eq_true hy] at HB ⊢ | rw [decide_eq_false hy] at HB ⊢
  · rw [cmpZ_neg hx hy] at HC
    have HC2 := HC
    clear hm1 hm2 hn1 hn2 hx hy
    go_enter Tryd.func70, Tryd.ntmps70
    go_wp2_with (go_at_call 112; go_loud (refine (cmag_any (HB.out.later (((Below.refl _ _).alloc (Nat.le_refl _) _).alloc (by simp) _) (Nat.le_refl _)) (HA.out.later (((Below.refl _ _).alloc (Nat.le_refl _) _).alloc (by simp) _) (Nat.le_refl _)) hK).mono ?_; rintro e w5 ⟨rfl, hb5⟩; have HB5 := Lib.hid hb5; clear hb5))
    go_ret
    exact ⟨by rw [HC2.out] <;> rfl, (((Below.refl _ _).alloc (Nat.le_refl _) _).alloc (by simp) _).trans (HB5.out.mono (by simp; omega))⟩
  · have hc : Hid (c = -1) := Lib.hid (by rw [← HC.out]; unfold cmpZ; rw [if_pos (by omega)])
    clear hm1 hm2 hn1 hn2 hx hy
    go_enter Tryd.func70, Tryd.ntmps70
    go_wp2
    go_ret
    exact ⟨by rw [hc.out] <;> rfl, ((Below.refl _ _).alloc (Nat.le_refl _) _).alloc (by simp) _⟩
  · have hc : Hid (c = 1) := Lib.hid (by rw [← HC.out]; unfold cmpZ; rw [if_neg (by omega), if_pos (by omega)])
    clear hm1 hm2 hn1 hn2 hx hy
    go_enter Tryd.func70, Tryd.ntmps70
    go_wp2
    go_ret
    exact ⟨by rw [hc.out] <;> rfl, ((Below.refl _ _).alloc (Nat.le_refl _) _).alloc (by simp) _⟩
  · rw [cmpZ_pos (by omega) (by omega)] at HC
    have HC2 := HC
    clear hm1 hm2 hn1 hn2 hx hy
    go_enter Tryd.func70, Tryd.ntmps70
    go_wp2_with (go_at_call 112; go_loud (refine (cmag_any (HA.out.later (((Below.refl _ _).alloc (Nat.le_refl _) _).alloc (by simp) _) (Nat.le_refl _)) (HB.out.later (((Below.refl _ _).alloc (Nat.le_refl _) _).alloc (by simp) _) (Nat.le_refl _)) hK).mono ?_; rintro e w5 ⟨rfl, hb5⟩; have HB5 := Lib.hid hb5; clear hb5))
    go_ret
    exact ⟨by rw [HC2.out] <;> rfl, (((Below.refl _ _).alloc (Nat.le_refl _) _).alloc (by simp) _).trans (HB5.out.mono (by simp; omega))⟩

/-- -1, 0 or 1. -/
def sgnZ (x : Int) : Int := if x < 0 then -1 else if 0 < x then 1 else 0
set_option maxHeartbeats 1000000 in
theorem sign_any {K : Nat} {W : World} {v : Value} {x : Int} (h : Nm K W v x) : Calls Tryd.prog 75 #[v] W fun e W' => e = .returned (.int .i64 (sgnZ x)) ∧ Below W.heap.size W W' := by
  obtain ⟨ao, n, cap, od, rfl, hm, hn⟩ := h
  obtain ⟨c, HC⟩ : ∃ c, Hid (sgnZ x = c) := ⟨_, Lib.hid rfl⟩
  have hl := hm.len
  rw [HC.out]
  by_cases hx : x < 0
  · rw [decide_eq_true hx]
    have hc : Hid (c = -1) := Lib.hid (by rw [← HC.out]; unfold sgnZ; rw [if_pos (by omega)])
    clear hm hn hx hl
    go_enter Tryd.func75, Tryd.ntmps75
    go_wp2
    go_ret
    exact ⟨by rw [hc.out] <;> rfl, (Below.refl _ _).alloc (Nat.le_refl _) _⟩
  · rw [decide_eq_false hx]
    by_cases h0 : x = 0
    · have hc : Hid (c = 0) := Lib.hid (by rw [← HC.out]; unfold sgnZ; rw [if_neg (by omega), if_neg (by omega)])
      obtain rfl : n = 0 := by rw [hl, h0]; exact nd_zero.2 rfl
      clear hm hn hx hl h0
      go_enter Tryd.func75, Tryd.ntmps75
      go_wp2
      go_ret
      exact ⟨by rw [hc.out] <;> rfl, (Below.refl _ _).alloc (Nat.le_refl _) _⟩
    · have hc : Hid (c = 1) := Lib.hid (by rw [← HC.out]; unfold sgnZ; rw [if_neg (by omega), if_pos (by omega)])
      have hp : 0 < n := by
        rw [hl]; exact Nat.pos_of_ne_zero fun e => by have := nd_zero.1 e; omega
      clear hm hn hx hl h0
      go_enter Tryd.func75, Tryd.ntmps75
      go_wp2
      go_ret
      exact ⟨by rw [hc.out] <;> rfl, (Below.refl _ _).alloc (Nat.le_refl _) _⟩
end Go.Proofs.YtkpoegdcmnjedaaDoor
