import Derived.Test.YtkpoegdcmnjedaaDoorRB1
namespace Go.Proofs.YtkpoegdcmnjedaaDoor
open Go.RowKit
set_option linter.unusedVariables false
set_option linter.unusedSimpArgs false

theorem full_digs {b : Nat} {r : List Nat} (hb : 2 ≤ b) (hd : Dig b r) (h : r = [] ∨ b ^ (r.length - 1) ≤ val b r) : digs b (val b r) = r := by
  rcases h with rfl | h
  · rw [val_nil, digs_zero]
  · by_cases e : r = []
    · subst e; rw [val_nil, digs_zero]
    · have hl : 0 < r.length := List.length_pos_iff.2 e
      obtain ⟨k, h1, h2, h3⟩ := top_of r
      have h4 := trim_take hb hd h1 h2 h3
      have h5 : (digs b (val b r)).length ≤ r.length := (digs_length_le hb).2 (val_lt hd)
      have h6 : ¬ (digs b (val b r)).length ≤ r.length - 1 := fun h7 => by
        have := (digs_length_le hb).1 h7
        omega
      rw [← h4] at h6 ⊢
      rw [List.length_take] at h6
      exact List.take_of_length_le (by omega)
theorem digs_low {b n : Nat} (hb : 2 ≤ b) (hn : 0 < (digs b n).length) : b ^ ((digs b n).length - 1) ≤ n := by
  rcases Nat.lt_or_ge n (b ^ ((digs b n).length - 1)) with h | h
  · have := (digs_length_le hb).2 h
    omega
  · exact h

structure PlI (l m : List Nat) (q : Nat) (W wr : World) (v : Value) (i : Nat) (r : List Nat) (c : Nat) : Prop where
  len : r.length = i
  dig : Dig 10 r
  cl : c ≤ 1
  eq : V 10 l i + V 10 m i = val 10 r + 10 ^ i * c
  top : i ≤ q ∨ (i = q + 1 ∧ c = 0 ∧ 10 ^ q ≤ val 10 r)
  m : N W.heap.size wr v r
  b : Below W.heap.size W wr
theorem pl_eq {l m r : List Nat} {i d1 d2 c : Nat} (hr : r.length = i) (h1 : dg l i = d1) (h2 : dg m i = d2) (h : V 10 l i + V 10 m i = val 10 r + 10 ^ i * c) :
    V 10 l (i + 1) + V 10 m (i + 1) = val 10 (r ++ [(d1 + d2 + c) % 10]) + 10 ^ (i + 1) * ((d1 + d2 + c) / 10) := by
  have h3 := Nat.mod_add_div (d1 + d2 + c) 10
  rw [V_succ, V_succ, val_snoc, hr, h1, h2, Nat.pow_succ, Nat.mul_assoc, Nat.add_assoc (val 10 r), ← Nat.mul_add, h3, Nat.mul_add, Nat.mul_add]
  omega
theorem PlI.step {l m : List Nat} {q : Nat} {W wr w' : World} {v v' : Value} {i : Nat} {r : List Nat} {c d1 d2 : Nat} (h : PlI l m q W wr v i r c) (hq : l.length ≤ q ∧ m.length ≤ q)
    (h1 : dg l i = d1) (h2 : dg m i = d2) (h3 : d1 < 10) (h4 : d2 < 10) (hgo : i < q ∨ 0 < c) (hn : N W.heap.size w' v' (r ++ [(d1 + d2 + c) % 10])) (hb : Below W.heap.size wr w') : PlI l m q W w' v' (i + 1) (r ++ [(d1 + d2 + c) % 10]) ((d1 + d2 + c) / 10) := by
  have hcl := h.cl
  refine ⟨by rw [List.length_append, h.len]; rfl, h.dig.snoc (Nat.mod_lt _ (by decide)), by omega, pl_eq h.len h1 h2 h.eq, ?_, hn, h.b.trans hb⟩
  by_cases hi : i < q
  · exact Or.inl (by omega)
  · have hc : c = 1 := by omega
    have hiq : i = q := by rcases h.top with h5 | ⟨h5, h6, _⟩ <;> omega
    subst hiq
    rw [dg_ge hq.1] at h1
    rw [dg_ge hq.2] at h2
    subst h1 h2 hc
    exact Or.inr ⟨rfl, by decide, by rw [val_snoc, h.len]; simp⟩
theorem PlI.done {x y q : Nat} {W wr : World} {v : Value} {i : Nat} {r : List Nat} (h : PlI (digs 10 x) (digs 10 y) q W wr v i r 0) (hq : q = max (nt x) (nt y)) (hi : q ≤ i) : r = digs 10 (x + y) := by
  have e := h.eq
  rw [V_stop _ (by show nt x ≤ i; omega), V_stop _ (by show nt y ≤ i; omega), val_digs (by decide), val_digs (by decide), Nat.mul_zero, Nat.add_zero] at e
  rw [e]
  symm
  refine full_digs (by decide) h.dig ?_
  rw [h.len]
  rcases h.top with h5 | ⟨h5, _, h6⟩
  · obtain rfl : i = q := by omega
    by_cases hz : i = 0
    · left; exact List.length_eq_zero_iff.1 (h.len.trans hz)
    · right
      rw [← e]
      by_cases hx : nt x = i
      · have := digs_low (b := 10) (n := x) (by decide) (by show 0 < nt x; omega)
        have e2 : (digs 10 x).length = i := hx
        rw [e2] at this; omega
      · have hy : nt y = i := by omega
        have := digs_low (b := 10) (n := y) (by decide) (by show 0 < nt y; omega)
        have e2 : (digs 10 y).length = i := hy
        rw [e2] at this; omega
  · right; rw [h5]; exact h6

set_option maxRecDepth 100000 in
set_option maxHeartbeats 1000000 in
theorem ref_plus_any {B B' : Nat} {va vb : Value} {x y : Nat} {W : World} (ha : N B W va (digs 10 x)) (hb : N B' W vb (digs 10 y)) (hla : nt x ≤ 1000000) (hlb : nt y ≤ 1000000) :
    Calls Tryd.prog 114 #[va, vb] W fun e W' => (∃ v', e = .returned v' ∧ N W.heap.size W' v' (digs 10 (x + y))) ∧ Below W.heap.size W W' := by
  obtain ⟨aa, ca, rfl, _, _⟩ := ha.slice
  obtain ⟨ab, cb, rfl, _, _⟩ := hb.slice
  obtain ⟨l, HL⟩ : ∃ l, Hid (digs 10 x = l) := ⟨_, Lib.hid rfl⟩
  obtain ⟨m, HM⟩ : ∃ m, Hid (digs 10 y = m) := ⟨_, Lib.hid rfl⟩
  rw [HL.out] at ha ⊢
  rw [HM.out] at hb ⊢
  have HA := Lib.hid ha
  have HB := Lib.hid hb
  have hll : l.length ≤ 1000000 := by rw [← HL.out]; exact hla
  have hlm : m.length ≤ 1000000 := by rw [← HM.out]; exact hlb
  have DL : Hid (Dig 10 l) := Lib.hid (by rw [← HL.out]; exact digs_dig (by decide) _)
  have DM : Hid (Dig 10 m) := Lib.hid (by rw [← HM.out]; exact digs_dig (by decide) _)
  clear ha hb hla hlb
  obtain ⟨q, HQ⟩ : ∃ q, Hid (q = max l.length m.length) := ⟨_, Lib.hid rfl⟩
  have HI0 : Hid (PlI l m q W W (.slice none 0 0) 0 [] 0) := Lib.hid ⟨rfl, Dig.nil (by decide), by omega, by simp [V, val_nil], Or.inl (by omega), N.nil _ _, Below.refl _ _⟩
  go_enter Tryd.func114, Tryd.ntmps114
  go_wp2
  go_loopw [5, 6, 7] (fun v cv iv wr => ∃ (i : Nat) (r : List Nat) (c : Nat), iv = .int .i64 i ∧ cv = .int .i64 c ∧ i ≤ 1000001 ∧ Hid (PlI l m q W wr v i r c)) (fun _ _ i _ => 1000002 - (intOf i).toNat)
  case atStart => exact ⟨0, [], 0, rfl, rfl, by omega, HI0⟩
  case round =>
    obtain ⟨i, r, c, rfl, rfl, hi, hp⟩ := hrel
    have hcl := hp.out.cl
    have hgo : (i < l.length ∨ i < m.length ∨ 0 < c) ∨ (l.length ≤ i ∧ m.length ≤ i ∧ c = 0) := by omega
    rcases hgo with hgo | ⟨h1, h2, rfl⟩
    · have hi2 : i ≤ 1000000 := by
        have := HQ.out
        rcases hp.out.top with h | ⟨h, h', _⟩ <;> omega
      have HGO : Hid (i < q ∨ 0 < c) := Lib.hid (by have := HQ.out; omega)
      have hBw := hp.out.b.size
      have hA := HA.out.later hp.out.b (Nat.le_refl _)
      have hB := HB.out.later hp.out.b (Nat.le_refl _)
      have hd1 := ref_digit_any hA i (by omega)
      have hd2 := ref_digit_any hB i (by omega)
      have hl1 := DL.out i
      have hl2 := DM.out i
      obtain ⟨d1, HX⟩ : ∃ x, Hid (dg l i = x) := ⟨_, Lib.hid rfl⟩
      obtain ⟨d2, HY⟩ : ∃ y, Hid (dg m i = y) := ⟨_, Lib.hid rfl⟩
      rw [HX.out] at hd1 hl1
      rw [HY.out] at hd2 hl2
      have HD1 := Lib.hid hd1
      have HD2 := Lib.hid hd2
      have E1 : Hid (((d1 : Int) + (d2 : Int) + (c : Int)) % 10 = (((d1 + d2 + c) % 10 : Nat) : Int)) := Lib.hid (by simp)
      have E2 : Hid (((d1 : Int) + (d2 : Int) + (c : Int)) / 10 = (((d1 + d2 + c) / 10 : Nat) : Int)) := Lib.hid (by simp)
      have HLL : Hid (r.length ≤ 1000000000) := Lib.hid (by rw [hp.out.len]; omega)
      clear hd1 hd2 hA hB
      have hgo2 : (i < l.length) ∨ (decide (i < l.length) = false ∧ i < m.length) ∨ (decide (i < l.length) = false ∧ decide (i < m.length) = false ∧ 0 < c) := by
        by_cases h1 : i < l.length
        · exact Or.inl h1
        · by_cases h2 : i < m.length
          · exact Or.inr (Or.inl ⟨by simpa using h1, h2⟩)
          · exact Or.inr (Or.inr ⟨by simpa using h1, by simpa using h2, by omega⟩)
      clear hgo
      rcases hgo2 with h1 | ⟨h1, h2⟩ | ⟨h1, h2, h3⟩
      all_goals
        go_wp2_with fail
        refine HD1.out.mono ?_
        rintro e w1 ⟨rfl, rfl⟩
        go_wp2_with fail
        refine HD2.out.mono ?_
        rintro e w2 ⟨rfl, rfl⟩
        go_wp2_with (at_builtin; go_loud (refine wpList_app64 rfl _ _ rfl W.heap.size wr _ ((d1 + d2 + c) % 10) E1.out u5 r rfl rfl hp.out.m hBw HLL.out ?_; intro v' w' hb' hm' _; have HNN := Lib.hid hm'; have HBB := Lib.hid hb'; clear hm' hb'))
        go_roundw
        case rel => exact ⟨i + 1, r ++ [(d1 + d2 + c) % 10], (d1 + d2 + c) / 10, by go_num, by rw [← E2.out], by omega, Lib.hid (hp.out.step (by have := HQ.out; omega) HX.out HY.out hl1 hl2 HGO.out HNN.out HBB.out)⟩
        case measure => simp [intOf] <;> omega
    · have hd1 : decide (i < l.length) = false := by rw [decide_eq_false_iff_not]; omega
      have hd2 : decide (i < m.length) = false := by rw [decide_eq_false_iff_not]; omega
      go_wp2
      go_ret
      refine ⟨⟨_, rfl, ?_⟩, hp.out.b⟩
      have hp2 := hp.out
      rw [← HL.out, ← HM.out] at hp2
      rw [← hp2.done (by rw [HQ.out, ← HL.out, ← HM.out]; rfl) (by have := HQ.out; omega)]
      exact hp2.m
end Go.Proofs.YtkpoegdcmnjedaaDoor
