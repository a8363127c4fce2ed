import Derived.Test.YtkpoegdcmnjedaaDoorNB5
import Derived.Test.YtkpoegdcmnjedaaDoorMH4
namespace Go.Proofs.YtkpoegdcmnjedaaDoor
open Go.RowKit
set_option linter.unusedVariables false
set_option linter.unusedSimpArgs false

/-! ### shifted -/
theorem pow_B32 {n m : Nat} (h : n ≤ 32 * m) : 2 ^ n ≤ B32 ^ m := by
  have e : B32 ^ m = 2 ^ (32 * m) := (Nat.pow_mul 2 32 m).symm
  rw [e]
  exact Nat.pow_le_pow_right (by decide) h
theorem nd_mul2 {a n k m : Nat} (ha : nd a ≤ k) (hn : n ≤ 32 * m) : nd (a * 2 ^ n) ≤ k + m := by
  refine (digs_length_le (by decide)).2 ?_
  have h1 := Nat.lt_of_lt_of_le (lt_nd (a := a)) (Nat.pow_le_pow_right (by decide) ha)
  have h3 : a * 2 ^ n < B32 ^ k * B32 ^ m := Nat.lt_of_le_of_lt (Nat.mul_le_mul_left _ (pow_B32 hn)) (Nat.mul_lt_mul_of_pos_right h1 (Nat.pow_pos (by decide)))
  rw [← Nat.pow_add] at h3
  exact h3
theorem nd_shift {a K n : Nat} (ha : nd a ≤ K) (hK : K ≤ 1000) (hn : n ≤ 100000) : nd (a * 2 ^ n) ≤ 10000 := by
  have := nd_mul2 (m := 3125) ha (by omega)
  omega
theorem four_cells4 {g : Nat} {x0 x1 x2 x3 : Value} {W : World} (a : Box4 g x0 x1 x2 x3 W) :
    W.cell? ⟨g, 0, none⟩ = some x0 ∧ W.cell? ⟨g, 1, none⟩ = some x1 ∧ W.cell? ⟨g, 2, none⟩ = some x2 ∧ W.cell? ⟨g, 3, none⟩ = some x3 := ⟨a.c0, a.c1, a.c2, a.c3⟩
set_option maxRecDepth 100000 in
set_option maxHeartbeats 4000000 in
theorem shifted_up {K : Nat} {W : World} {v : Value} {x : Int} (h : Nm K W v x) (hK : K ≤ 1000) (n : Nat) (hn : n ≤ 100000) :
    Calls Tryd.prog 98 #[v, .int .i64 n] W fun e W' => (∃ v', e = .returned v' ∧ Nm 10000 W' v' (x * (2 ^ n : Nat))) ∧ Below W.heap.size W W' := by
  obtain ⟨a1, n1, p1, o1, rfl, hm1, hn1⟩ := h
  obtain ⟨s1, HS1⟩ : ∃ s, Hid (decide (x < 0) = s) := ⟨_, Lib.hid rfl⟩
  rw [HS1.out]
  obtain ⟨V1, hV1, hbox1, vb1, vs1⟩ := box_new W (.bool s1) (.slice a1 n1 p1) (.bool false) (.bool o1)
  obtain ⟨V, hV2, hbox2, vb2, vs2⟩ := box_new V1 (.bool false) (.slice none 0 0) (.bool false) (.bool false)
  have HV : Hid (V = (W.alloc (Obj.cells #[.bool s1, .slice a1 n1 p1, .bool false, .bool o1] 46)).alloc (Obj.cells #[.bool false, .slice none 0 0, .bool false, .bool false] 46)) := Lib.hid (by rw [hV2, hV1])
  have HVB : Hid (Below W.heap.size W V) := Lib.hid (vb1.trans (vb2.mono (by omega)))
  have hVS : V.heap.size = W.heap.size + 2 := by omega
  rw [vs1] at hbox2
  have F0 : Hid (Box4 W.heap.size (.bool s1) (.slice a1 n1 p1) (.bool false) (.bool o1) V ∧ Box4 (W.heap.size + 1) (.bool false) (.slice none 0 0) (.bool false) (.bool false) V) := Lib.hid ⟨hbox1.after vb2, hbox2⟩
  have HM1 := Lib.hid (hm1.later HVB.out (Nat.le_refl _))
  have HUP : Hid (∀ w', M 0 w' (.slice a1 n1 p1) (digs B32 x.natAbs) → Calls Tryd.prog 119 #[.slice a1 n1 p1, .int .i64 n] w' fun e W' => (∃ v', e = .returned v' ∧ M w'.heap.size W' v' (digs B32 (x.natAbs * 2 ^ n))) ∧ Below w'.heap.size w' W') := Lib.hid fun w' h1 => by
    have HP := up_any n (by omega) h1 (digs_dig (by decide) _) (by show nd x.natAbs ≤ _; omega)
    rw [val_digs (by decide)] at HP
    exact HP
  have HNS := Lib.hid (nd_shift hn1 hK hn)
  have hn0 : (0 : Int) ≤ (n : Int) := by omega
  clear hm1 hV1 hV2 hbox1 hbox2 vb1 vb2 vs1 vs2
  go_enter Tryd.func98, Tryd.ntmps98
  go_upto_region 2 with (fail)
  rw [← HV.out]
  go_region_held3 (fun w' => (w'.cell? ⟨W.heap.size, 0, none⟩ = some (.bool s1) ∧ w'.cell? ⟨W.heap.size, 1, none⟩ = some (.slice a1 n1 p1) ∧ w'.cell? ⟨W.heap.size, 2, none⟩ = some (.bool false) ∧ w'.cell? ⟨W.heap.size, 3, none⟩ = some (.bool o1))) (first | exact four_cells4 (F0.out.1.after (Below.drew (Below.refl _ _))) | exact four_cells4 (F0.out.1.after (undrew hb5)) | exact four_cells4 ((F0.out.1.after (undrew hb5)).after hb6) | exact four_cells4 (((F0.out.1.after (undrew hb5)).after hb6).far4 (by omega))) (first | (go_at_call 119; refine (HUP.out V.drew (HM1.out.later (Below.drew (Below.refl _ _)) (Nat.le_refl _))).mono ?_; rintro e w5 ⟨⟨v5, rfl, hm5⟩, hb5⟩; obtain ⟨a5, n5, p5, rfl⟩ := hm5.slice3) | (go_at_call 80; refine (signed_any _ _ _ _ _ _ _ _).mono ?_; rintro e w6 ⟨rfl, hb6⟩; obtain ⟨g0, g1, g2, g3, g4, g5, g6, g7⟩ := (F0.out.2.after (undrew hb5)).after hb6))
  go_wp2
  have B5 := undrew hb5
  refine bodyPost_ret (v := numV (s1 && (false || decide (0 < n5))) (.slice a5 n5 p5) false false) (by simp [results, Tryd.results98, go_sem, g0, g1, g2, g3]) rfl ⟨⟨_, rfl, ?_⟩, ?_⟩
  · refine Nm.mk (((hm5.later hb6 (Nat.le_refl _)).four (g := W.heap.size + 1) (by show _ < V.heap.size; omega) _ _ _ _).mono (Nat.zero_le _)) (by rw [Int.natAbs_mul, Int.natAbs_natCast]) ?_ HNS.out
    intro h0
    have hp : (0 : Int) < ((2 ^ n : Nat) : Int) := by exact_mod_cast Nat.pow_pos (n := n) (show 0 < 2 by decide)
    rw [← HS1.out]
    by_cases hx : x < 0
    · have := Int.mul_neg_of_neg_of_pos hx hp
      rw [decide_eq_true hx, decide_eq_true this]
    · have := Int.mul_nonneg (show 0 ≤ x by omega) (Int.le_of_lt hp)
      rw [decide_eq_false hx, decide_eq_false (by omega)]
  · exact below_four ((HVB.out.trans (B5.mono (by omega))).trans (hb6.mono (by have := B5.size; omega))) (by omega) _ _ _ _
/-- a shift down, rounded down. -/
theorem down_floor {x : Int} {p : Nat} (hp : 0 < p) : x / (p : Int) = if x < 0 then -((x.natAbs / p + (if x.natAbs % p = 0 then 0 else 1) : Nat) : Int) else ((x.natAbs / p : Nat) : Int) := by
  by_cases hx : x < 0
  · rw [if_pos hx]
    obtain ⟨a, rfl⟩ : ∃ a : Nat, x = -(a : Int) := ⟨x.natAbs, by omega⟩
    rw [Int.natAbs_neg, Int.natAbs_natCast]
    have h1 := Nat.mod_add_div a p
    have h2 := Nat.mod_lt a hp
    by_cases h0 : a % p = 0
    · rw [if_pos h0]
      have e : -(a : Int) = (p : Int) * -((a / p : Nat) : Int) := by
        rw [Int.mul_neg]; congr 1; rw [← Int.natCast_mul]; congr 1; omega
      rw [e, Int.mul_ediv_cancel_left _ (by omega)]; simp
    · rw [if_neg h0]
      have e : -(a : Int) = (p : Int) * -((a / p + 1 : Nat) : Int) + ((p - a % p : Nat) : Int) := by
        rw [Int.mul_neg, ← Int.natCast_mul, Nat.mul_add, Nat.mul_one]
        generalize p * (a / p) = q at *
        omega
      rw [e, Int.mul_add_ediv_left _ _ (by omega), Int.ediv_eq_zero_of_lt (by omega) (by omega)]; simp
  · rw [if_neg hx]
    obtain ⟨a, rfl⟩ : ∃ a : Nat, x = (a : Int) := ⟨x.natAbs, by omega⟩
    rw [Int.natAbs_natCast]; simp
set_option maxRecDepth 100000 in
set_option maxHeartbeats 4000000 in
theorem shifted_down {K : Nat} {W : World} {v : Value} {x : Int} (h : Nm K W v x) (hK : K ≤ 1000) (n : Nat) (hn0 : 1 ≤ n) (hn : n ≤ 100000) :
    Calls Tryd.prog 98 #[v, .int .i64 (-(n : Int))] W fun e W' => (∃ v', e = .returned v' ∧ Nm 10000 W' v' (x / (2 ^ n : Nat))) ∧ Below W.heap.size W W' := by
  obtain ⟨a1, n1, p1, o1, rfl, hm1, hn1⟩ := h
  obtain ⟨s1, HS1⟩ : ∃ s, Hid (decide (x < 0) = s) := ⟨_, Lib.hid rfl⟩
  rw [HS1.out]
  obtain ⟨V1, hV1, hbox1, vb1, vs1⟩ := box_new W (.bool s1) (.slice a1 n1 p1) (.bool false) (.bool o1)
  obtain ⟨V, hV2, hbox2, vb2, vs2⟩ := box_new V1 (.bool false) (.slice none 0 0) (.bool false) (.bool false)
  have HV : Hid (V = (W.alloc (Obj.cells #[.bool s1, .slice a1 n1 p1, .bool false, .bool o1] 46)).alloc (Obj.cells #[.bool false, .slice none 0 0, .bool false, .bool false] 46)) := Lib.hid (by rw [hV2, hV1])
  have HVB : Hid (Below W.heap.size W V) := Lib.hid (vb1.trans (vb2.mono (by omega)))
  have HVS : Hid (V.heap.size = W.heap.size + 2) := Lib.hid (by omega)
  rw [vs1] at hbox2
  have F0 : Hid (Box4 W.heap.size (.bool s1) (.slice a1 n1 p1) (.bool false) (.bool o1) V ∧ Box4 (W.heap.size + 1) (.bool false) (.slice none 0 0) (.bool false) (.bool false) V) := Lib.hid ⟨hbox1.after vb2, hbox2⟩
  have HM1 := Lib.hid (hm1.later HVB.out (Nat.le_refl _))
  obtain ⟨lo, HLO⟩ : ∃ b, Hid (decide (x.natAbs % 2 ^ n ≠ 0) = b) := ⟨_, Lib.hid rfl⟩
  have HDN : Hid (Calls Tryd.prog 120 #[.slice a1 n1 p1, .int .i64 n] V fun e W' => (∃ v', e = .returned (.tuple #[v', .bool lo]) ∧ M V.heap.size W' v' (digs B32 (x.natAbs / 2 ^ n))) ∧ Below V.heap.size V W') := Lib.hid (by
    have HP := down_any n (by omega) HM1.out (digs_dig (by decide) _) (by show nd x.natAbs ≤ _; omega)
    rw [val_digs (by decide), HLO.out] at HP
    exact HP)
  have hpp : 0 < 2 ^ n := Nat.pow_pos (by decide)
  have HFL := Lib.hid (down_floor (x := x) hpp)
  have HNQ : Hid (nd (x.natAbs / 2 ^ n) ≤ K) := Lib.hid (Nat.le_trans (nd_mono (Nat.div_le_self _ _)) hn1)
  have hng : ¬ (0 : Int) ≤ -(n : Int) := by omega
  have hng2 : decide ((0 : Int) ≤ -(n : Int)) = false := decide_eq_false hng
  obtain ⟨c0, c1, c2, c3, _⟩ := F0.out.1
  clear hm1 hV1 hV2 hbox1 hbox2 vb1 vb2 vs1 vs2
  go_enter Tryd.func98, Tryd.ntmps98
  go_upto_region 3 with (fail)
  rw [← HV.out]
  go_upto_region 4 with ((go_at_call 120; (with_reducible refine HDN.out.mono ?_); rintro e w5 ⟨⟨v5, rfl, hm5⟩, hb5⟩; obtain ⟨a5, n5, p5, rfl⟩ := hm5.slice3; have HM5 := Lib.hid hm5; have HB5 := Lib.hid hb5; have F5 := Lib.hid (And.intro (F0.out.1.after hb5) (F0.out.2.after hb5)); clear hm5 hb5))
  obtain ⟨d0, d1, d2, d3, _⟩ := F5.out.1
  have hbig : (x.natAbs / 2 ^ n + (if x.natAbs % 2 ^ n = 0 then 0 else 1) : Nat) ≤ x.natAbs / 2 ^ n + 1 := by split <;> omega
  cases s1
  · have hx : ¬ x < 0 := of_decide_eq_false HS1.out
    rw [if_neg hx] at HFL
    go_wp2_with ((go_at_call 80; (with_reducible refine (signed_any _ _ _ _ _ _ _ _).mono ?_); rintro e w6 ⟨rfl, hb6⟩; have HB6 := Lib.hid hb6; clear hb6; have f6 := F5.out.2.after HB6.out; obtain ⟨g0, g1, g2, g3, g4, g5, g6, g7⟩ := f6))
    refine bodyPost_ret (v := numV (false && (false || decide (0 < n5))) (.slice a5 n5 p5) false false) (by simp [results, Tryd.results98, go_sem, g0, g1, g2, g3]) rfl ⟨⟨_, rfl, ?_⟩, ?_⟩
    · refine Nm.mk (((HM5.out.later HB6.out (Nat.le_refl _)).four (g := W.heap.size + 1) (by have := HVS.out; omega) _ _ _ _).mono (Nat.zero_le _)) (by rw [HFL.out, Int.natAbs_natCast]) ?_ (Nat.le_trans HNQ.out (by omega))
      intro h0
      rw [HFL.out]
      generalize x.natAbs / 2 ^ n = q at h0 ⊢
      exact (decide_eq_false (by omega)).symm
    · exact below_four ((HVB.out.trans (HB5.out.mono HVB.out.size)).trans (HB6.out.mono (Nat.le_trans HVB.out.size HB5.out.size))) (by omega) _ _ _ _
  · have hx : x < 0 := of_decide_eq_true HS1.out
    rw [if_pos hx] at HFL
    cases lo
    · have h0 : x.natAbs % 2 ^ n = 0 := by have := of_decide_eq_false HLO.out; omega
      rw [if_pos h0, Nat.add_zero] at HFL
      go_wp2_with ((go_at_call 80; (with_reducible refine (signed_any _ _ _ _ _ _ _ _).mono ?_); rintro e w6 ⟨rfl, hb6⟩; have HB6 := Lib.hid hb6; clear hb6; have f6 := F5.out.2.after HB6.out; obtain ⟨g0, g1, g2, g3, g4, g5, g6, g7⟩ := f6))
      refine bodyPost_ret (v := numV (true && (false || decide (0 < n5))) (.slice a5 n5 p5) false false) (by simp [results, Tryd.results98, go_sem, g0, g1, g2, g3]) rfl ⟨⟨_, rfl, ?_⟩, ?_⟩
      · refine Nm.mk (((HM5.out.later HB6.out (Nat.le_refl _)).four (g := W.heap.size + 1) (by have := HVS.out; omega) _ _ _ _).mono (Nat.zero_le _)) (by rw [HFL.out, Int.natAbs_neg, Int.natAbs_natCast]) ?_ (Nat.le_trans HNQ.out (by omega))
        intro h1
        rw [HFL.out]
        generalize x.natAbs / 2 ^ n = q at h1 ⊢
        exact (decide_eq_true (by omega)).symm
      · exact below_four ((HVB.out.trans (HB5.out.mono HVB.out.size)).trans (HB6.out.mono (Nat.le_trans HVB.out.size HB5.out.size))) (by omega) _ _ _ _
    · have h0 : ¬ x.natAbs % 2 ^ n = 0 := by have := of_decide_eq_true HLO.out; exact this
      rw [if_neg h0] at HFL
      have H111 : Hid (Calls Tryd.prog 111 #[.slice a5 n5 p5, .slice (some ⟨w5.heap.size, 0, none⟩) 1 1] (w5.alloc (Obj.cells #[.int .u32 1] 75)) fun e W' => (∃ v', e = .returned v' ∧ M (w5.heap.size + 1) W' v' (digs B32 (x.natAbs / 2 ^ n + 1))) ∧ Below (w5.heap.size + 1) (w5.alloc (Obj.cells #[.int .u32 1] 75)) W') := Lib.hid (by
        have h1 := M.single w5 1
        have hd1 : Dig B32 [1] := Dig.mem (by decide) (fun d hd => by simp at hd; subst hd; decide)
        have h2 := HM5.out.later ((Below.refl w5.heap.size w5).alloc (Nat.le_refl _) (Obj.cells #[.int .u32 1] 75)) (Nat.le_refl _)
        have := plus_any h2 h1 (digs_dig (by decide) _) hd1 (by show nd (x.natAbs / 2 ^ n) ≤ _; exact Nat.le_trans HNQ.out (by omega)) (by decide)
        rw [val_digs (by decide), show val B32 [1] = 1 from rfl] at this
        simpa using this)
      have HNQ1 : Hid (nd (x.natAbs / 2 ^ n + 1) ≤ K + 1) := Lib.hid (nd_add _ _ HNQ.out (show nd 1 ≤ K by
        have hk : 1 ≤ nd x.natAbs := Nat.pos_of_ne_zero fun e => by have := nd_zero.1 e; omega
        have h1 : nd 1 ≤ nd x.natAbs := nd_mono (by omega)
        omega))
      go_wp2_with (first | (go_at_call 111; (with_reducible refine H111.out.mono ?_); rintro e w7 ⟨⟨v7, rfl, hm7⟩, hb7⟩; obtain ⟨a7, n7, p7, rfl⟩ := hm7.slice3; have HM7 := Lib.hid hm7; have HB7 := Lib.hid (((Below.refl w5.heap.size w5).alloc (Nat.le_refl _) (Obj.cells #[.int .u32 1] 75)).trans (hb7.mono (by omega))); clear hm7 hb7; have F7 := Lib.hid (And.intro (F5.out.1.after HB7.out) (F5.out.2.after HB7.out)); obtain ⟨e0, e1, e2, e3, _⟩ := F7.out.1) | (go_at_call 80; (with_reducible refine (signed_any _ _ _ _ _ _ _ _).mono ?_); rintro e w6 ⟨rfl, hb6⟩; have HB6 := Lib.hid hb6; clear hb6; have f6 := F7.out.2.after HB6.out; obtain ⟨g0, g1, g2, g3, g4, g5, g6, g7⟩ := f6))
      refine bodyPost_ret (v := numV (true && (false || decide (0 < n7))) (.slice a7 n7 p7) false false) (by simp [results, Tryd.results98, go_sem, g0, g1, g2, g3]) rfl ⟨⟨_, rfl, ?_⟩, ?_⟩
      · refine Nm.mk (((HM7.out.later HB6.out (Nat.le_refl _)).four (g := W.heap.size + 1) (by have := HVS.out; have := HB5.out.size; omega) _ _ _ _).mono (Nat.zero_le _)) (by rw [HFL.out, Int.natAbs_neg, Int.natAbs_natCast]) ?_ (Nat.le_trans HNQ1.out (by omega))
        intro h1
        rw [HFL.out]
        generalize x.natAbs / 2 ^ n = q at h1 ⊢
        exact (decide_eq_true (by omega)).symm
      · exact below_four (((HVB.out.trans (HB5.out.mono HVB.out.size)).trans (HB7.out.mono (Nat.le_trans HVB.out.size HB5.out.size))).trans (HB6.out.mono (Nat.le_trans (Nat.le_trans HVB.out.size HB5.out.size) HB7.out.size))) (by omega) _ _ _ _
end Go.Proofs.YtkpoegdcmnjedaaDoor
namespace Go.Proofs.YtkpoegdcmnjedaaDoor
open Go.RowKit
set_option linter.unusedVariables false
set_option linter.unusedSimpArgs false

/-! ### the program's Shift -/
def shZ (x n : Int) : Int := if 0 ≤ n then x * (2 ^ n.toNat : Nat) else x / (2 ^ (-n).toNat : Nat)
theorem shifted_any {K : Nat} {W : World} {v : Value} {x : Int} (h : Nm K W v x) (hK : K ≤ 1000) (n : Int) (h0 : -100000 ≤ n) (h1 : n ≤ 100000) :
    Calls Tryd.prog 98 #[v, .int .i64 n] W fun e W' => (∃ v', e = .returned v' ∧ Nm 10000 W' v' (shZ x n)) ∧ Below W.heap.size W W' := by
  by_cases hn : 0 ≤ n
  · obtain ⟨k, rfl⟩ : ∃ k : Nat, n = k := ⟨n.toNat, by omega⟩
    have := shifted_up h hK k (by omega)
    unfold shZ; rw [if_pos hn]; exact this
  · obtain ⟨k, rfl⟩ : ∃ k : Nat, n = -(k : Int) := ⟨(-n).toNat, by omega⟩
    have := shifted_down h hK k (by omega) (by omega)
    unfold shZ; rw [if_neg hn, show (- -(k : Int)).toNat = k by omega]; exact this
/-- what Shift tells. -/
def ShQ (s : ByteArray) (n : Int) (W : World) (e : Ending) (W' : World) : Prop :=
  ∃ (r : ByteArray) (er : Int), e = .returned (.tuple #[.string r, .int .i64 er]) ∧
    ((¬ IsNum s ∧ r = ⟨#[]⟩ ∧ er = 2) ∨ (IsNum s ∧ (n < -100000 ∨ 100000 < n) ∧ r = ⟨#[]⟩ ∧ er = 7) ∨ (IsNum s ∧ (-100000 ≤ n ∧ n ≤ 100000) ∧ Lim ≤ natT s ∧ r = ⟨#[]⟩ ∧ er = 4) ∨
      (IsNum s ∧ (-100000 ≤ n ∧ n ≤ 100000) ∧ natT s < Lim ∧ r = toldS (shZ (valT s) n) ∧ er = toldE (shZ (valT s) n))) ∧ Below W.heap.size W W'
set_option maxRecDepth 100000 in
set_option maxHeartbeats 2000000 in
theorem shift_any (s : ByteArray) (n : Int) (W : World) (hs : s.size ≤ 1000000) : Calls Tryd.prog 45 #[.string s, .int .i64 n] W (ShQ s n W) := by
  by_cases hlo : n < -100000
  · go_enter Tryd.func45, Tryd.ntmps45
    go_wp2_with (go_at_call 62; refine (parse_num s _ hs).mono ?_; rintro e w2 ⟨m, ao, n', cap, lg, od, er, rfl, hd, hb⟩; have HD := Lib.hid hd; have HB := Lib.hid hb; clear hd hb; rcases HD.out with ⟨h1, rfl⟩ | ⟨h1, h2, rfl, rfl⟩ | ⟨h1, h2, rfl, rfl, h3, _⟩)
    · exact bodyPost_ret (v := .tuple #[.string ⟨#[]⟩, .int .i64 2]) (by simp [results, Tryd.results45, go_sem]) rfl ⟨_, 2, rfl, Or.inl ⟨h1, rfl, rfl⟩, HB.out.alloc (HB.out.size) _⟩
    · exact bodyPost_ret (v := .tuple #[.string ⟨#[]⟩, .int .i64 7]) (by simp [results, Tryd.results45, go_sem]) rfl ⟨_, 7, rfl, Or.inr (Or.inl ⟨h1, Or.inl (by omega), rfl, rfl⟩), HB.out.alloc (HB.out.size) _⟩
    · exact bodyPost_ret (v := .tuple #[.string ⟨#[]⟩, .int .i64 7]) (by simp [results, Tryd.results45, go_sem]) rfl ⟨_, 7, rfl, Or.inr (Or.inl ⟨h1, Or.inl (by omega), rfl, rfl⟩), HB.out.alloc (HB.out.size) _⟩
  have c1 : decide (n < -100000) = false := decide_eq_false hlo
  by_cases hhi : 100000 < n
  · go_enter Tryd.func45, Tryd.ntmps45
    go_wp2_with (go_at_call 62; refine (parse_num s _ hs).mono ?_; rintro e w2 ⟨m, ao, n', cap, lg, od, er, rfl, hd, hb⟩; have HD := Lib.hid hd; have HB := Lib.hid hb; clear hd hb; rcases HD.out with ⟨h1, rfl⟩ | ⟨h1, h2, rfl, rfl⟩ | ⟨h1, h2, rfl, rfl, h3, _⟩)
    · exact bodyPost_ret (v := .tuple #[.string ⟨#[]⟩, .int .i64 2]) (by simp [results, Tryd.results45, go_sem]) rfl ⟨_, 2, rfl, Or.inl ⟨h1, rfl, rfl⟩, HB.out.alloc (HB.out.size) _⟩
    · exact bodyPost_ret (v := .tuple #[.string ⟨#[]⟩, .int .i64 7]) (by simp [results, Tryd.results45, go_sem]) rfl ⟨_, 7, rfl, Or.inr (Or.inl ⟨h1, Or.inr (by omega), rfl, rfl⟩), HB.out.alloc (HB.out.size) _⟩
    · exact bodyPost_ret (v := .tuple #[.string ⟨#[]⟩, .int .i64 7]) (by simp [results, Tryd.results45, go_sem]) rfl ⟨_, 7, rfl, Or.inr (Or.inl ⟨h1, Or.inr (by omega), rfl, rfl⟩), HB.out.alloc (HB.out.size) _⟩
  have c2 : decide (100000 < n) = false := decide_eq_false hhi
  have HR : Hid (-100000 ≤ n ∧ n ≤ 100000) := Lib.hid (by omega)
  clear hlo hhi
  go_enter Tryd.func45, Tryd.ntmps45
  go_wp2_with (first | (go_at_call 62; refine (parse_num s _ hs).mono ?_; rintro e w2 ⟨m, ao, n', cap, lg, od, er, rfl, hd, hb⟩; have HD := Lib.hid hd; have HB := Lib.hid hb; clear hd hb; rcases HD.out with ⟨h1, rfl⟩ | ⟨h1, h2, rfl, rfl⟩ | ⟨h1, h2, rfl, rfl, h3, _⟩) | (go_at_call 98; refine (shifted_any (h3.later ((Below.refl _ _).alloc (Nat.le_refl _) _) (Nat.le_refl _)) (by decide) n HR.out.1 HR.out.2).mono ?_; rintro e w4 ⟨⟨v4, rfl, h4⟩, hb4⟩; have HB4 := Lib.hid hb4; have H4 := Lib.hid h4; clear hb4 h4) | (go_at_call 77; refine (written_any H4.out (by decide)).mono ?_; rintro e w5 ⟨rfl, hb5⟩; have HB5 := Lib.hid hb5; clear hb5))
  · exact bodyPost_ret (v := .tuple #[.string ⟨#[]⟩, .int .i64 2]) (by simp [results, Tryd.results45, go_sem]) rfl ⟨_, 2, rfl, Or.inl ⟨h1, rfl, rfl⟩, HB.out.alloc (HB.out.size) _⟩
  · exact bodyPost_ret (v := .tuple #[.string ⟨#[]⟩, .int .i64 4]) (by simp [results, Tryd.results45, go_sem]) rfl ⟨_, 4, rfl, Or.inr (Or.inr (Or.inl ⟨h1, HR.out, h2, rfl, rfl⟩)), HB.out.alloc (HB.out.size) _⟩
  · exact bodyPost_ret (v := .tuple #[.string (toldS (shZ (valT s) n)), .int .i64 (toldE (shZ (valT s) n))]) (by simp [results, Tryd.results45, go_sem]) rfl ⟨_, _, rfl, Or.inr (Or.inr (Or.inr ⟨h1, HR.out, h2, rfl, rfl⟩)),
      ((HB.out.alloc (HB.out.size) _).trans (HB4.out.mono (by have := HB.out.size; simp; omega))).trans (HB5.out.mono (by have h6 := HB.out.size; have h7 := HB4.out.size; simp at h7; omega))⟩
end Go.Proofs.YtkpoegdcmnjedaaDoor
