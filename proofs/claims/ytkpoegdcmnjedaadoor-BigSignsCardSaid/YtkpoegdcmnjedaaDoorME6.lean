import Derived.Test.YtkpoegdcmnjedaaDoorME4
import Derived.Test.YtkpoegdcmnjedaaDoorMI3
namespace Go.Proofs.YtkpoegdcmnjedaaDoor
open Go.RowKit
set_option linter.unusedVariables false
set_option linter.unusedSimpArgs false

/-! ### magnitude.over: the mathematics of the long way -/
theorem val_app {b : Nat} : ∀ (l m : List Nat), val b (l ++ m) = val b l + b ^ l.length * val b m
  | [], m => by rw [List.nil_append, val_nil, List.length_nil, Nat.pow_zero]; omega
  | d :: l, m => by
    rw [List.cons_append, val_cons, val_cons, val_app l m, List.length_cons, Nat.pow_succ, Nat.mul_add, Nat.mul_comm (b ^ l.length) b, Nat.mul_assoc]
    omega
theorem val_two0 {b : Nat} (l : List Nat) : val b (l ++ [0, 0]) = val b l := by
  rw [val_app, val_cons, val_cons, val_nil]; omega
theorem val_cut {b : Nat} (U : List Nat) {j : Nat} (hj : j ≤ U.length) : val b U = val b (U.take j) + b ^ j * val b (U.drop j) := by
  have h := val_app (b := b) (U.take j) (U.drop j)
  rw [List.take_append_drop, List.length_take, Nat.min_eq_left hj] at h
  exact h
theorem drop_step {b : Nat} {U : List Nat} {j : Nat} (hj : j < U.length) : val b (U.drop j) = dg U j + b * val b (U.drop (j + 1)) := by
  have e : U.drop j = dg U j :: U.drop (j + 1) := by
    rw [List.drop_eq_getElem_cons hj]
    congr 1
    unfold dg
    rw [List.getD_eq_getElem?_getD, List.getElem?_eq_getElem hj]; rfl
  rw [e, val_cons]
theorem val_set0 {b : Nat} {Q : List Nat} {j : Nat} (q : Nat) (hj : j < Q.length) (h0 : dg Q j = 0) : val b (Q.set j q) = val b Q + b ^ j * q := by
  rw [val_cut Q (Nat.le_of_lt hj), val_cut (Q.set j q) (j := j) (by rw [List.length_set]; omega), drop_step hj, drop_step (U := Q.set j q) (by rw [List.length_set]; exact hj), dg_set hj, if_pos rfl, h0]
  rw [List.take_set_of_le (Nat.le_refl _), List.drop_set_of_lt (by omega)]
  simp only [Nat.zero_add, Nat.mul_add]
  omega
theorem put_take {U r : List Nat} {j : Nat} (h : j ≤ U.length) : (put U j r).take j = U.take j := by
  unfold put
  rw [List.append_assoc, List.take_append_of_le_length (by rw [List.length_take]; omega), List.take_of_length_le (by rw [List.length_take]; omega)]
theorem put_drop {U r : List Nat} {j : Nat} (h : j ≤ U.length) : (put U j r).drop j = r ++ U.drop (j + r.length) := by
  unfold put
  rw [List.append_assoc, List.drop_append_of_le_length (by rw [List.length_take]; omega), List.drop_of_length_le (by rw [List.length_take]; omega), List.nil_append]
theorem over_lt {b : Nat} {U : List Nat} {z j n : Nat} (hb : 0 < b) (hz : z < b ^ n) (hd : Dig b U) (hn : j + n + 1 ≤ U.length) (h1 : val b (U.drop (j + 1)) < z) : val b (win U j n) / z < b := by
  have t2 := val_cut (b := b) (U.drop j) (j := n + 1) (by rw [List.length_drop]; omega)
  have ew : (U.drop j).take (n + 1) = win U j n := rfl
  rw [ew] at t2
  have t3 := drop_step (b := b) (U := U) (j := j) (by omega)
  have hdj := hd j
  have h5 : b * (val b (U.drop (j + 1)) + 1) ≤ b * z := Nat.mul_le_mul_left _ h1
  rw [Nat.mul_add] at h5
  exact Nat.div_lt_of_lt_mul (by rw [Nat.mul_comm]; omega)
/-- one digit of the quotient. -/
theorem over_step {b : Nat} {U r Q : List Nat} {z X j n q : Nat} (hb : 0 < b) (hz : z < b ^ n) (hd : Dig b U) (hn : j + n + 1 ≤ U.length) (h1 : val b (U.drop (j + 1)) < z) (h2 : val b Q * z + val b U = X) (h0 : dg Q j = 0) (hj : j < Q.length)
    (hq : q = val b (win U j n) / z) (hr : val b r = val b (win U j n) % z) (hl : r.length = n + 1) :
    q < b ∧ val b ((put U j r).drop j) < z ∧ val b (Q.set j q) * z + val b (put U j r) = X := by
  have hzp : 0 < z := by omega
  have t1 := val_cut (b := b) (U.drop (j + 1)) (j := n) (by rw [List.length_drop]; omega)
  rw [List.drop_drop, show j + 1 + n = j + (n + 1) by omega] at t1
  have t0 : val b (U.drop (j + (n + 1))) = 0 := by
    rcases Nat.eq_zero_or_pos (val b (U.drop (j + (n + 1)))) with h | h
    · exact h
    · have := Nat.mul_le_mul_left (b ^ n) h
      omega
  have t2 := val_cut (b := b) (U.drop j) (j := n + 1) (by rw [List.length_drop]; omega)
  rw [List.drop_drop, t0, Nat.mul_zero, Nat.add_zero] at t2
  have t3 := drop_step (b := b) (U := U) (j := j) (by omega)
  have ew : (U.drop j).take (n + 1) = win U j n := rfl
  rw [ew] at t2
  rw [t2] at t3
  have hdj := hd j
  have t4 : val b (win U j n) < b * z := by
    have h5 : b * (val b (U.drop (j + 1)) + 1) ≤ b * z := Nat.mul_le_mul_left _ h1
    rw [Nat.mul_add] at h5
    omega
  have t5 := put_drop (U := U) (r := r) (j := j) (by omega)
  have t6 : val b ((put U j r).drop j) = val b r := by rw [t5, val_app, hl, t0, Nat.mul_zero, Nat.add_zero]
  refine ⟨by rw [hq]; exact Nat.div_lt_of_lt_mul (by rw [Nat.mul_comm]; exact t4), by rw [t6, hr]; exact Nat.mod_lt _ hzp, ?_⟩
  have lp : (put U j r).length = U.length := put_length (by omega)
  have t7 := val_cut (b := b) (put U j r) (j := j) (by rw [lp]; omega)
  rw [t6, put_take (by omega)] at t7
  have t8 := val_cut (b := b) U (j := j) (by omega)
  rw [t2] at t8
  have t9 : z * q + val b r = val b (win U j n) := by rw [hr, hq]; exact Nat.div_add_mod _ _
  rw [val_set0 q hj h0, t7, ← h2, t8, ← t9, Nat.add_mul, Nat.mul_add, Nat.mul_assoc, Nat.mul_comm q z]
  omega
theorem over_begin {X n : Nat} (hn : 2 ≤ n) (hl : n ≤ nd X) {Z : Nat} (hZ : B32 ^ (n - 1) ≤ Z) : val B32 ((digs B32 X ++ [0, 0]).drop (nd X + 2 - n)) < Z := by
  have hk : nd X + 2 - n ≤ (digs B32 X).length := by show _ ≤ nd X; omega
  rw [List.drop_append_of_le_length hk, val_two0]
  have hd : Dig B32 ((digs B32 X).drop (nd X + 2 - n)) := fun i => by rw [dg_drop]; exact digs_dig (by decide) _ _
  have h := val_lt hd
  have e : ((digs B32 X).drop (nd X + 2 - n)).length = n - 2 := by rw [List.length_drop]; show nd X - _ = _; omega
  rw [e] at h
  exact Nat.lt_of_lt_of_le h (Nat.le_trans (Nat.pow_le_pow_right (by decide) (by omega)) hZ)
theorem nd_ge {Z : Nat} (h : 0 < nd Z) : B32 ^ (nd Z - 1) ≤ Z := by
  rcases Nat.lt_or_ge Z (B32 ^ (nd Z - 1)) with h1 | h1
  · have : nd Z ≤ nd Z - 1 := (digs_length_le (by decide)).2 h1
    omega
  · exact h1
theorem nd_top {Z : Nat} (h : 0 < nd Z) : 0 < dg (digs B32 Z) (nd Z - 1) := by
  rcases digs_tight (b := B32) (by decide) Z with h1 | h1
  · unfold nd at h; rw [h1] at h; simp at h
  · exact Nat.pos_of_ne_zero h1
theorem nd_up32 {a s : Nat} (hs : s ≤ 32) : nd (a * 2 ^ s) ≤ nd a + 1 := (digs_length_le (by decide)).2 (by
  have h1 := (digs_length_le (b := B32) (n := a) (k := nd a) (by decide)).1 (Nat.le_refl _)
  rw [Nat.pow_succ]
  have h2 : 2 ^ s ≤ B32 := Nat.le_trans (Nat.pow_le_pow_right (by decide) hs) (by decide)
  exact Nat.lt_of_lt_of_le (Nat.mul_lt_mul_of_pos_right h1 (Nat.pow_pos (by decide))) (Nat.mul_le_mul_left _ h2))
theorem Dig.app {b : Nat} {l m : List Nat} (hl : Dig b l) (hm : Dig b m) : Dig b (l ++ m) := fun i => by
  rw [dg_append]; split
  · exact hl _
  · exact hm _
theorem Dig.setD {b : Nat} {l : List Nat} {i d : Nat} (h : Dig b l) (hi : i < l.length) (hd : d < b) : Dig b (l.set i d) := fun k => by
  rw [dg_set hi]; split
  · exact hd
  · exact h _
theorem Dig.putD {b : Nat} {U r : List Nat} {j : Nat} (hU : Dig b U) (hr : Dig b r) (h : j + r.length ≤ U.length) : Dig b (put U j r) := fun k => by
  rw [dg_put h]; split
  · exact hU _
  · split
    · exact hr _
    · exact hU _
theorem dg_rep0 (K i : Nat) : dg (List.replicate K 0) i = 0 := by
  unfold dg
  rw [List.getD_eq_getElem?_getD, List.getElem?_replicate]; split <;> rfl
theorem val_rep0 (b : Nat) : ∀ K : Nat, val b (List.replicate K 0) = 0
  | 0 => rfl
  | K + 1 => by rw [List.replicate_succ, val_cons, val_rep0 b K]; omega
theorem Dig.rep0 (K : Nat) : Dig B32 (List.replicate K 0) := fun i => by rw [dg_rep0]; decide
theorem Dig.two0 : Dig B32 [0, 0] := Dig.mem (by decide) (by decide)
theorem wpList_app32z {ops : Array Oper} {rest : List Oper} {o : Oper} {a : Act} {Q : Exit → Act → World → Prop} (hgd : o.guard = none) (s x : Operand)
    (ho : o.op = .call { callee := .builtin .append, args := #[s, x], argTypes := #[44, 44] }) (β : Nat) (V : World)
    (v : Value) (l : List Nat) (hs : a.eval s = v) (hx : a.eval x = .slice (some ⟨V.heap.size, 0, none⟩) 2 2) (hm : M β V v l) (hβ : β ≤ V.heap.size) (hn : l.length ≤ 1000000000)
    (h : ∀ v' w', Below β V w' → M β w' v' (l ++ [0, 0]) → wpList Tryd.prog ops Q rest (a.put o.dst v') w') :
    wpList Tryd.prog ops Q (o :: rest) a (V.alloc (Obj.cells #[.int .u32 0, .int .u32 0] 75)) := by
  obtain ⟨i0, hi, hinf⟩ := Option.map_eq_some_iff.1 info75
  simp only [Prod.mk.injEq] at hinf
  obtain ⟨hz0, hz1, hz2⟩ := hinf
  have hx0 : (V.alloc (Obj.cells #[.int .u32 0, .int .u32 0] 75)).heap[V.heap.size]? = some (.cells #[.int .u32 0, .int .u32 0] 75 (0, 0)) := heap_alloc_new V _
  have hown : V.ownsRow β 75 1 v l.length (U32s l) := hm
  refine wpList_append_own _ hgd s x 44 ho β 75 i0 (.int .u32 0) 1 4 Tryd.underlying44 hi hz0 hz1 hz2 rfl (by decide) _ _ _ hs (hown.alloc _) ⟨V.heap.size, 0, none⟩ 2 2 [.int .u32 0, .int .u32 0] hx rfl ?c1 ?c2 (by unfold maxLen; omega) (by omega) (by simp; omega) ?_
  case c1 =>
    intro j w hj
    have hadd : (⟨V.heap.size, 0, none⟩ : Addr).add j = ⟨V.heap.size, j, none⟩ := by unfold Addr.add; split <;> simp_all
    rw [hadd, cell_of_row _ _ _ _ _ _ hx0]
    simpa using hj
  case c2 =>
    intro w hw
    simp at hw; subst hw; rfl
  intro v' w' hown' hg _
  have hb : Below β V w' := ((Below.refl β V).alloc hβ _).grown hg (by simp; omega) (fun k e => (hown.lt k e).1)
  refine h v' w' hb ?_
  unfold M
  rw [List.length_append]
  have e : U32s (l ++ [0, 0]) = U32s l ++ [.int .u32 0, .int .u32 0] := by simp [U32s]
  rw [e]
  exact hown'
end Go.Proofs.YtkpoegdcmnjedaaDoor
namespace Go.Proofs.YtkpoegdcmnjedaaDoor
open Go.RowKit
set_option linter.unusedVariables false
set_option linter.unusedSimpArgs false

/-! ### magnitude.over, the long way -/
structure OvI (X Z N K gU cU gQ : Nat) (vz : Value) (W wr : World) (k : Nat) (U Q : List Nat) : Prop where
  mu : M W.heap.size wr (.slice (some ⟨gU, 0, none⟩) N cU) U
  mq : M W.heap.size wr (.slice (some ⟨gQ, 0, none⟩) K K) Q
  mz : M W.heap.size wr vz (digs B32 Z)
  lu : U.length = N
  lq : Q.length = K
  du : Dig B32 U
  dq : Dig B32 Q
  lt : val B32 (U.drop k) < Z
  eq : val B32 Q * Z + val B32 U = X
  zero : ∀ i, i < k → dg Q i = 0
  bel : Below W.heap.size W wr
set_option maxRecDepth 100000 in
set_option maxHeartbeats 4000000 in
theorem over_big {B B' : Nat} {va vb : Value} {x y : Nat} {W : World} (ha : M B W va (digs B32 x)) (hb : M B' W vb (digs B32 y)) (hx : nd x ≤ 100000) (hy : B32 ≤ y) (hxy : y ≤ x) :
    Calls Tryd.prog 117 #[va, vb] W (OvQ va x y W) := by
  obtain ⟨aa, ca, rfl, hc1, hc2⟩ := ha.slice
  obtain ⟨ab, cb, rfl, hd1, hd2⟩ := hb.slice
  have hny : nd y ≤ nd x := nd_mono hxy
  have HC := compare_any ha hb (digs_dig (by decide) _) (digs_dig (by decide) _) (show nd x ≤ _ by omega) (show nd y ≤ _ by omega)
  rw [val_digs (by decide), val_digs (by decide)] at HC
  have HCH := Lib.hid HC
  obtain ⟨c, hc⟩ : ∃ c, cmpI x y = c := ⟨_, rfl⟩
  rw [hc] at HCH
  have hcn : 0 ≤ c := by
    have := cmpI_neg (a := x) (b := y)
    rw [hc] at this
    omega
  have HA := Lib.hid ha
  have HB := Lib.hid hb
  have hn2 : 2 ≤ nd y := by
    rcases Nat.lt_or_ge (nd y) 2 with h | h
    · have := (digs_length_le (b := B32) (n := y) (k := 1) (by decide)).1 (show nd y ≤ 1 by omega)
      rw [Nat.pow_one] at this; omega
    · exact h
  have hlx : (digs B32 x).length = nd x := rfl
  have hly : (digs B32 y).length = nd y := rfl
  rw [hlx] at HA HCH ⊢
  rw [hly] at HB HCH ⊢
  obtain ⟨gb, rfl, _, hgb⟩ := hb.block (show 0 < nd y by omega)
  obtain ⟨top, HTP⟩ : ∃ t, Hid (dg (digs B32 y) (nd y - 1) = t) := ⟨_, Lib.hid rfl⟩
  have hcell := hb.cell (i := nd y - 1) (show nd y - 1 < nd y by omega)
  rw [HTP.out] at hcell
  have htl : top < 4294967296 := by rw [← HTP.out]; exact (digs_dig (b := B32) (by decide) y) _
  have hbl : Lib.bitLen top ≤ 32 := Lib.bitLen_le top 32 (by omega) htl
  obtain ⟨s, hs⟩ : ∃ s : Nat, s = 32 - Lib.bitLen top := ⟨_, rfl⟩
  have HLZ : Hid (∀ w, Calls Tryd.prog 137 #[.int .u32 top] w fun e w' => e = .returned (.int .i64 s) ∧ w' = w) := Lib.hid fun w => by
    refine (Tryd.bits_LeadingZeros32 (top : Int) w (by omega) (by omega)).mono ?_
    rintro e w' ⟨rfl, h⟩
    refine ⟨?_, h⟩
    congr 2
    simp only [Int.toNat_natCast]
    omega
  have hs32 : s ≤ 32 := by omega
  obtain ⟨X, HX⟩ : ∃ X, Hid (x * 2 ^ s = X) := ⟨_, Lib.hid rfl⟩
  obtain ⟨Z, HZ⟩ : ∃ Z, Hid (y * 2 ^ s = Z) := ⟨_, Lib.hid rfl⟩
  have hZy : y ≤ Z := by rw [← HZ.out]; exact Nat.le_mul_of_pos_right _ (Nat.pow_pos (by decide))
  have hXZ : Z ≤ X := by rw [← HX.out, ← HZ.out]; exact Nat.mul_le_mul_right _ hxy
  have hnX : nd X ≤ 200000 := by
    have := nd_up32 (a := x) hs32
    rw [HX.out] at this; omega
  have hnZ : nd Z ≤ nd X := nd_mono hXZ
  have hZ2 : 2 ≤ nd Z := Nat.le_trans hn2 (nd_mono hZy)
  have hrest : x / y = X / Z ∧ X % Z = x % y * 2 ^ s := by
    rw [← HX.out, ← HZ.out]
    exact ⟨(Nat.mul_div_mul_right _ _ (Nat.pow_pos (by decide))).symm, Nat.mul_mod_mul_right _ _ _⟩
  have HREST := Lib.hid hrest
  have hny2 : nd y ≤ 100000 := by omega
  clear HC ha hb hc hlx hly hxy hy hbl hs hny hrest
  go_enter Tryd.func117, Tryd.ntmps117
  go_wp2_with fail
  refine HCH.out.mono ?_
  rintro e w ⟨rfl, hb5⟩
  have HB5 := Lib.hid hb5
  have hcell3 := cell_after hb5 hcell
  have HA5 := Lib.hid (HA.out.later hb5 (Nat.le_refl _))
  have HBB5 := Lib.hid (HB.out.later hb5 (Nat.le_refl _))
  have e1 : ((nd y : Int) - 1).toNat = nd y - 1 := by omega
  clear hb5 hcell HCH
  go_wp2_with fail
  refine (HLZ.out _).mono ?_
  rintro e w ⟨rfl, rfl⟩
  go_wp2_with fail
  refine (up_any s (by omega) HA5.out (digs_dig (by decide) _) (show nd x ≤ _ by omega)).mono ?_
  rintro e w1 ⟨⟨v1, rfl, hm1⟩, hb1⟩
  rw [val_digs (by decide), HX.out] at hm1
  obtain ⟨ao1, cap1, rfl, _, _⟩ := hm1.slice
  have hl1 : (digs B32 X).length = nd X := rfl
  rw [hl1] at hm1 ⊢
  have HM1 := Lib.hid hm1
  have HB1 : Hid (Below W.heap.size W w1) := Lib.hid (HB5.out.trans (hb1.mono HB5.out.size))
  have HBW : Hid (Below w.heap.size w w1) := Lib.hid hb1
  have HZ1 : Hid (W.heap.size ≤ w.heap.size ∧ w.heap.size ≤ w1.heap.size) := Lib.hid ⟨HB5.out.size, hb1.size⟩
  have HL1 : Hid ((digs B32 X).length ≤ 1000000000) := Lib.hid (by rw [hl1]; omega)
  have hzz : w.heap.size ≤ w1.heap.size := hb1.size
  clear hm1 hb1 HA5 hcell3
  go_wp2_with (at_builtin; go_loud (refine wpList_app32z rfl _ _ rfl w.heap.size w1 (.slice ao1 (nd X) cap1) (digs B32 X) rfl rfl HM1.out HZ1.out.2 HL1.out ?_; intro v2 w2 hb2 hm2; have HM2 := Lib.hid hm2; have HB2 := Lib.hid hb2; clear hm2 hb2))
  obtain ⟨aoU, capU, rfl, hcU1, hcU2⟩ := HM2.out.slice
  have hlU : (digs B32 X ++ [0, 0]).length = nd X + 2 := by rw [List.length_append, hl1]; rfl
  rw [hlU] at hcU1 HM2 ⊢
  obtain ⟨gU, rfl, hgU1, hgU2⟩ := HM2.out.block (show 0 < nd X + 2 by omega)
  have hsz2 := HB2.out.size
  refine (up_any s (by omega) (HBB5.out.later (HBW.out.trans HB2.out) (Nat.le_refl _)) (digs_dig (by decide) _) (show nd y ≤ _ by omega)).mono ?_
  rintro e w3 ⟨⟨v3, rfl, hm3⟩, hb3⟩
  rw [val_digs (by decide), HZ.out] at hm3
  obtain ⟨aoZ, capZ, rfl, _, _⟩ := hm3.slice
  have hl3 : (digs B32 Z).length = nd Z := rfl
  rw [hl3] at hm3 ⊢
  obtain ⟨gZ, rfl, hgZ1, hgZ2⟩ := hm3.block (show 0 < nd Z by omega)
  have hsz3 := hb3.size
  have HM3 := Lib.hid hm3
  have HU3 : Hid (M w.heap.size w3 (.slice (some ⟨gU, 0, none⟩) (nd X + 2) capU) (digs B32 X ++ [0, 0])) := Lib.hid (HM2.out.later hb3 (Nat.le_refl _))
  have HB3 : Hid (Below W.heap.size W w3) := Lib.hid ((HB1.out.trans (HB2.out.mono HZ1.out.1)).trans (hb3.mono (by have := HZ1.out; omega)))
  obtain ⟨K, HK⟩ : ∃ K, Hid (K = nd X + 2 - nd Z) := ⟨_, Lib.hid rfl⟩
  have hK1 : 1 ≤ K := by have := HK.out; omega
  have hK2 : K ≤ 200002 := by have := HK.out; omega
  have hKn : K + nd Z = nd X + 2 := by have := HK.out; omega
  have eK' : (nd X : Int) + 2 - (nd Z : Int) = (K : Int) := by omega
  obtain ⟨w4, hmk, hm4, hb4, hs4⟩ := make32 w3 K K (Nat.le_refl _) (by omega)
  have HM4 := Lib.hid hm4
  have HB4 := Lib.hid hb4
  have h43 : w3.heap.size ≤ w4.heap.size := by omega
  clear hm3 hb3 HM2 hb4 hm4
  go_wp2_with fail
  go_loopw [12] (fun iv wr => ∃ (k : Nat) (U Q : List Nat), iv = .int .i64 ((k : Int) - 1) ∧ k ≤ K ∧ Hid (OvI X Z (nd X + 2) K gU capU w3.heap.size (.slice (some ⟨gZ, 0, none⟩) (nd Z) capZ) W wr k U Q)) (fun iv _ => (intOf iv + 1).toNat)
  case atStart =>
    have hz := HZ1.out
    exact ⟨K, _, _, rfl, Nat.le_refl _, Lib.hid ⟨(HU3.out.later HB4.out (Nat.le_refl _)).mono (by omega), HM4.out.mono (by omega), (HM3.out.later HB4.out (Nat.le_refl _)).mono (by omega), hlU, by rw [List.length_replicate], Dig.app (digs_dig (by decide) _) Dig.two0, Dig.rep0 K, by rw [HK.out]; exact over_begin hZ2 hnZ (nd_ge (by omega)), by rw [val_rep0, val_two0, val_digs (by decide)]; omega, fun i _ => dg_rep0 K i, HB3.out.trans (HB4.out.mono (by omega))⟩⟩
  case round =>
    obtain ⟨k, U, Q, rfl, hk, hi⟩ := hrel
    have HG : Hid (W.heap.size ≤ gU ∧ gU < gZ ∧ gZ < w3.heap.size ∧ W.heap.size ≤ w3.heap.size) := Lib.hid (by have hz := HZ1.out; omega)
    clear hmk hlU hgU1 hgU2 hgZ1 hgZ2 hsz2 hsz3 hs4 hl1 hl3 e1
    cases k with
    | zero =>
      have e0 : (((0 : Nat) : Int) - 1) = -1 := by omega
      rw [e0]
      have HLT : Hid (val B32 U < Z ∧ val B32 Q = X / Z ∧ val B32 U = X % Z) := Lib.hid (by
        have h1 := hi.out.lt
        rw [List.drop_zero] at h1
        have h2 := hi.out.eq
        have h3 : X / Z = val B32 Q ∧ X % Z = val B32 U := (Nat.div_mod_unique (by omega)).2 ⟨by rw [Nat.mul_comm]; omega, h1⟩
        exact ⟨h1, h3.1.symm, h3.2.symm⟩)
      have hnU : nd (val B32 U) ≤ 200000 := Nat.le_trans (nd_mono (Nat.le_of_lt HLT.out.1)) (by omega)
      go_wp2_with fail
      refine (trimmed_any hi.out.mu hi.out.du).mono ?_
      rintro e w5 ⟨rfl, rfl⟩
      go_wp2_with fail
      refine (down_any s (by omega) (hi.out.mu.trim hi.out.du) (digs_dig (by decide) _) (show nd (val B32 U) ≤ _ by omega)).mono ?_
      rintro e w5 ⟨⟨v5, rfl, hm5⟩, hb5⟩
      obtain ⟨ls, HLS⟩ : ∃ b, Hid (decide (val B32 (digs B32 (val B32 U)) % 2 ^ s ≠ 0) = b) := ⟨_, Lib.hid rfl⟩
      rw [HLS.out]
      have HM5 := Lib.hid hm5
      have HB6 := Lib.hid hb5
      have HQ5 := Lib.hid (hi.out.mq.later hb5 (Nat.le_refl _))
      obtain ⟨ao5, n5, cap5, rfl⟩ := hm5.slice3
      clear hm5 hb5
      go_wp2_with fail
      refine (trimmed_any HQ5.out hi.out.dq).mono ?_
      rintro e w6 ⟨rfl, rfl⟩
      go_wp2
      go_ret2
      refine ⟨_, _, rfl, ?_, Or.inl ?_, hi.out.bel.trans (HB6.out.mono hi.out.bel.size)⟩
      · rw [HREST.out.1, ← HLT.out.2.1]
        exact HQ5.out.trim hi.out.dq
      · have h := HM5.out
        rw [val_digs (by decide), HLT.out.2.2, HREST.out.2, Nat.mul_div_cancel _ (Nat.pow_pos (by decide))] at h
        exact h.mono hi.out.bel.size
    | succ j =>
      have ej : (((j + 1 : Nat) : Int) - 1) = (j : Int) := by omega
      rw [ej]
      have hjX : j + nd Z + 1 ≤ nd X + 2 := by omega
      have hst := fun (r : List Nat) (hr : val B32 r = val B32 (win U j (nd Z)) % Z) (hl : r.length = nd Z + 1) => over_step (q := val B32 (win U j (nd Z)) / Z) (n := nd Z) (by decide) ((digs_length_le (by decide)).1 (Nat.le_refl _)) hi.out.du (by rw [hi.out.lu]; omega) hi.out.lt hi.out.eq (hi.out.zero j (Nat.lt_succ_self _)) (by rw [hi.out.lq]; omega) rfl hr hl
      have HSTEP := Lib.hid hst
      have hqB : val B32 (win U j (nd Z)) / val B32 (digs B32 Z) < B32 := by
        rw [val_digs (by decide)]
        exact over_lt (by decide) ((digs_length_le (by decide)).1 (Nat.le_refl _)) hi.out.du (by rw [hi.out.lu]; omega) hi.out.lt
      have hdg := digit_any (n := nd Z) hi.out.mu hi.out.mz hi.out.du (digs_dig (by decide) _) rfl hZ2 (by rw [hi.out.lu]; omega) (by rw [hi.out.lu]; omega) (nd_top (by omega)) hqB (fun k e => by have h1 := HG.out; have e2 : gZ = k := by { cases e; rfl }; omega)
      rw [val_digs (by decide)] at hdg
      have HDG := Lib.hid hdg
      clear hst hdg hqB
      go_wp2_with fail
      refine HDG.out.mono ?_
      rintro e w' ⟨rfl, ⟨r, hr1, hr2, hr3, hr4⟩, hr5⟩
      obtain ⟨q, HQ⟩ : ∃ q, Hid (val B32 (win U j (nd Z)) / Z = q) := ⟨_, Lib.hid rfl⟩
      rw [HQ.out]
      have HS2 := Lib.hid (HSTEP.out r hr3 hr1)
      have HG2 := HG.out
      have HMQ : Hid (M W.heap.size w' (.slice (some ⟨w3.heap.size, 0, none⟩) K K) Q) := Lib.hid (hi.out.mq.kept hr5 (Or.inr fun e => by have e2 : w3.heap.size = gU := by { cases e; rfl }; omega))
      have HMZ : Hid (M W.heap.size w' (.slice (some ⟨gZ, 0, none⟩) (nd Z) capZ) (digs B32 Z)) := Lib.hid (hi.out.mz.kept hr5 (Or.inr fun e => by have e2 : gZ = gU := by { cases e; rfl }; omega))
      have HMU := Lib.hid hr4
      have HR := Lib.hid (And.intro hr1 hr2)
      have HGR := Lib.hid hr5
      have hjK : j < K := by omega
      have hcQ := HMQ.out.cell (i := j) (by rw [hi.out.lq]; exact hjK)
      have hfQ := HMQ.out.free j
      clear hr1 hr2 hr3 hr4 hr5 HG2
      go_wp2
      go_roundw
      case rel =>
        have h1 := HG.out
        have h2 := hi.out.bel.size
        have n1 : w3.heap.size ≠ gU := by omega
        have n2 : w3.heap.size ≠ gZ := by omega
        have hS := HS2.out
        rw [HQ.out] at hS
        refine ⟨j, put U j r, Q.set j q, by go_num, by omega, Lib.hid ⟨HMU.out.setElse n1 _ _, HMQ.out.set (by rw [hi.out.lq]; exact hjK) q, HMZ.out.setElse n2 _ _, by rw [put_length (by rw [hi.out.lu, HR.out.1]; omega)]; exact hi.out.lu, by rw [List.length_set]; exact hi.out.lq, hi.out.du.putD HR.out.2 (by rw [hi.out.lu, HR.out.1]; omega), hi.out.dq.setD (by rw [hi.out.lq]; exact hjK) hS.1, hS.2.1, hS.2.2, ?_, ?_⟩⟩
        · intro i hij
          rw [dg_set (by rw [hi.out.lq]; exact hjK), if_neg (by omega)]
          exact hi.out.zero i (by omega)
        · exact (hi.out.bel.grown HGR.out h2 (fun k e => by cases e; exact h1.1)).setCell h1.2.2.2 _
      case measure => simp [intOf]
set_option maxHeartbeats 1000000 in
theorem over_less {B B' : Nat} {va vb : Value} {x y : Nat} {W : World} (ha : M B W va (digs B32 x)) (hb : M B' W vb (digs B32 y)) (hx : nd x ≤ 1000000) (hy : nd y ≤ 1000000) (hlt : x < y) :
    Calls Tryd.prog 117 #[va, vb] W (OvQ va x y W) := by
  obtain ⟨aa, ca, rfl, hc1, hc2⟩ := ha.slice
  obtain ⟨ab, cb, rfl, hd1, hd2⟩ := hb.slice
  have HC := compare_any ha hb (digs_dig (by decide) _) (digs_dig (by decide) _) hx hy
  rw [val_digs (by decide), val_digs (by decide)] at HC
  have HCH := Lib.hid HC
  obtain ⟨c, hc⟩ : ∃ c, cmpI x y = c := ⟨_, rfl⟩
  rw [hc] at HCH
  have hcn : c < 0 := by rw [← hc]; exact cmpI_neg.2 hlt
  have HE := Lib.hid (And.intro (Nat.div_eq_of_lt hlt) (Nat.mod_eq_of_lt hlt))
  have HA := Lib.hid ha
  clear HC ha hb hlt hc
  go_enter Tryd.func117, Tryd.ntmps117
  go_wp2_with fail
  refine HCH.out.mono ?_
  rintro e w ⟨rfl, hb5⟩
  have HB5 := Lib.hid hb5
  clear hb5
  go_wp2
  go_ret2
  refine ⟨_, _, rfl, ?_, ?_, HB5.out⟩
  · rw [HE.out.1, digs_zero]; exact M.nil _ _
  · right; refine ⟨rfl, ?_⟩; rw [HE.out.2]; exact (HA.out.later HB5.out (Nat.le_refl _)).mono (Nat.zero_le _)
/-- magnitude.over, whole. -/
theorem overH_any {a b : Nat} (ha : nd a ≤ 100000) (hb : nd b ≤ 100000) (hb0 : 0 < b) : OverH a b := by
  by_cases h1 : b < B32
  · exact overH_one (by omega) h1 hb0
  · by_cases h2 : a < b
    · exact fun w v1 v2 m1 m2 => over_less m1 m2 (by omega) (by omega) h2
    · exact fun w v1 v2 m1 m2 => over_big m1 m2 ha (by omega) (by omega)
end Go.Proofs.YtkpoegdcmnjedaaDoor
