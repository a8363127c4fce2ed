import Derived.Test.YtkpoegdcmnjedaaDoorRC3
import Derived.Test.YtkpoegdcmnjedaaDoorRD3
import Derived.Deep.QuietTactic
import Derived.Test.YtkpoegdcmnjedaaDoorQI1
import Derived.Test.YtkpoegdcmnjedaaDoorRG2
import Derived.Test.YtkpoegdcmnjedaaDoorPR3
namespace Go.Proofs.YtkpoegdcmnjedaaDoor
open Go.RowKit
set_option linter.unusedVariables false
set_option linter.unusedSimpArgs false

/-! ### times of the reference, for rows that are not trimmed -/
set_option maxRecDepth 100000 in
set_option maxHeartbeats 2000000 in
theorem ref_times_row {B B' : Nat} {va vb : Value} {l m : List Nat} {W : World} (ha : N B W va l) (hb : N B' W vb m) (hdl : Dig 10 l) (hdm : Dig 10 m) (hll : l.length ≤ 1000000) (hlm : m.length ≤ 1000000) :
    Calls Tryd.prog 94 #[va, vb] W fun e W' => (∃ v', e = .returned v' ∧ N W.heap.size W' v' (digs 10 (val 10 l * val 10 m))) ∧ Below W.heap.size W W' := by
  obtain ⟨aa, ca, rfl, _, _⟩ := ha.slice
  obtain ⟨ab, cb, rfl, _, _⟩ := hb.slice
  obtain ⟨x, HVX⟩ : ∃ x, Hid (val 10 l = x) := ⟨_, Lib.hid rfl⟩
  obtain ⟨y, HVY⟩ : ∃ y, Hid (val 10 m = y) := ⟨_, Lib.hid rfl⟩
  rw [HVX.out, HVY.out]
  have HA := Lib.hid ha
  have HB := Lib.hid hb
  have DL := Lib.hid hdl
  have DM := Lib.hid hdm
  have HV : Hid (val 10 l = x ∧ val 10 m = y) := Lib.hid ⟨HVX.out, HVY.out⟩
  clear ha hb hdl hdm
  obtain ⟨W1, hmk, hm0, hb0, hs0⟩ := make64 W (l.length + m.length) (l.length + m.length) (by omega) (by omega)
  have ec : ((l.length + m.length : Nat) : Int) = (l.length : Int) + (m.length : Int) := by omega
  rw [ec] at hmk
  have HI0 : Hid (RiI l m W.heap.size W W1 0 (List.replicate (l.length + m.length) 0)) := Lib.hid ⟨by simp, Dig.mem (by decide) (by simp), by
      have : ∀ n, val 10 (List.replicate n 0) = 0 := fun n => by
        induction n with
        | zero => rfl
        | succ n ih => rw [List.replicate_succ, val_cons, ih, Nat.mul_zero]
      rw [this]; simp [V], fun k _ => dg_zeros _ _, hm0, hb0⟩
  generalize hg1 : W.heap.size = g1 at HI0 hmk hs0 ⊢
  have HG1 := Lib.hid hg1
  clear hm0 hb0 hg1 ec
  go_enter Tryd.func94, Tryd.ntmps94
  go_wp2
  go_loopw [18] (fun iv wr => ∃ (i : Nat) (r : List Nat), iv = .int .i64 i ∧ i ≤ l.length ∧ Hid (RiI l m g1 W wr i r)) (fun i _ => l.length - (intOf i).toNat)
  case atStart => exact ⟨0, _, rfl, Nat.zero_le _, HI0⟩
  case round =>
    obtain ⟨i, r, rfl, hi, hti⟩ := hrel
    by_cases hlt : i < l.length
    · obtain ⟨ga, rfl, _, hga⟩ := HA.out.block (show 0 < l.length by omega)
      have hx := DL.out i
      have HJ0 : Hid (RiJ l m g1 W wr i 0 r 0) := Lib.hid ⟨hti.out.len, hti.out.dig, by omega, by have := hti.out.eq; simp [V]; exact this, fun k hk => hti.out.z k (by omega), Or.inl (Nat.zero_le _), hti.out.m, hti.out.b⟩
      obtain ⟨x1, HX⟩ : ∃ x, Hid (dg l i = x) := ⟨_, Lib.hid rfl⟩
      rw [HX.out] at hx
      obtain ⟨wo, rfl⟩ : ∃ wo : World, wo = wr := ⟨_, rfl⟩
      go_wp2
      go_loopw [7, 8] (fun cv jv wr2 => ∃ (j : Nat) (r : List Nat) (carry : Nat), jv = .int .i64 j ∧ cv = .int .i64 carry ∧ j ≤ 1000001 ∧ Hid (RiJ l m g1 W wr2 i j r carry)) (fun _ j _ => 1000002 - (intOf j).toNat)
      case atStart => exact ⟨0, r, 0, rfl, rfl, Nat.zero_le _, HJ0⟩
      case round =>
        obtain ⟨j, r2, carry, rfl, rfl, hj, htj⟩ := hrel
        have hcl := htj.out.cl
        have hR := htj.out.len
        have hgo : ((j < m.length ∨ (decide (j < m.length) = false ∧ 0 < carry)) ∧ j ≤ m.length) ∨ (m.length ≤ j ∧ carry = 0) := by
          have := htj.out.top
          by_cases h : j < m.length
          · exact Or.inl ⟨Or.inl h, by omega⟩
          · by_cases h2 : 0 < carry
            · exact Or.inl ⟨Or.inr ⟨by simpa using h, h2⟩, by omega⟩
            · exact Or.inr ⟨by omega, by omega⟩
        rcases hgo with ⟨hgo, hjm⟩ | ⟨hjt, rfl⟩
        · have hcr := htj.out.m.cell (show i + j < r2.length by omega)
          have hfr := htj.out.m.free (i + j)
          have hz := htj.out.dig (i + j)
          have hcell := (htj.out.b.cell (p := ⟨ga, i, none⟩) hga).trans (HA.out.cell hlt)
          rw [HX.out] at hcell
          have hy := DM.out j
          obtain ⟨y1, HY⟩ : ∃ y, Hid (dg m j = y) := ⟨_, Lib.hid rfl⟩
          have HD2 : Hid (∀ n, Calls Tryd.prog 105 #[.slice ab m.length cb, .int .i64 j] (wr.drewN n) fun e w' => e = .returned (.int .i64 (y1 : Int)) ∧ w' = wr.drewN n) := Lib.hid fun n => by
            have := ref_digit_any ((HB.out.later htj.out.b (Nat.le_refl _)).later (below_drewN _ _ n) (Nat.le_refl _)) j (by omega)
            rw [HY.out] at this
            exact turned this
          rw [HY.out] at hy
          obtain ⟨z, HZ⟩ : ∃ z, Hid (dg r2 (i + j) = z) := ⟨_, Lib.hid rfl⟩
          rw [HZ.out] at hcr hz
          obtain ⟨v, HVV⟩ : ∃ v, Hid (v = z + x1 * y1 + carry) := ⟨_, Lib.hid rfl⟩
          have hp81 : x1 * y1 ≤ 9 * 9 := Nat.mul_le_mul (by omega) (by omega)
          obtain ⟨p, HP⟩ : ∃ p, Hid (x1 * y1 = p) := ⟨_, Lib.hid rfl⟩
          rw [HP.out] at hp81
          have hm0 : IntKind.i64.wrap ((x1 : Int) * (y1 : Int)) = (p : Int) := by
            rw [← Int.natCast_mul, HP.out]; exact IntWalk.i64_in _ (by omega)
          have hm1 : IntKind.i64.wrap ((z : Int) + (p : Int)) = (z : Int) + (p : Int) := IntWalk.i64_in _ (by omega)
          have hm2 : IntKind.i64.wrap ((z : Int) + (p : Int) + (carry : Int)) = (z : Int) + (p : Int) + (carry : Int) := IntWalk.i64_in _ (by omega)
          have hm3 : IntKind.i64.wrap ((i : Int) + (j : Int)) = (i : Int) + (j : Int) := IntWalk.i64_in _ (by omega)
          have hm4 : ((i : Int) + (j : Int)).toNat = i + j := by omega
          have hi0 : (0 : Int) ≤ (i : Int) + (j : Int) := by omega
          have hi1 : (i : Int) + (j : Int) < (l.length : Int) + (m.length : Int) := by omega
          have hi2 : (0 : Int) ≤ (i : Int) := by omega
          have hi3 : (i : Int) < (l.length : Int) := by omega
          have HIJ : Hid (i + j < r2.length) := Lib.hid (by omega)
          clear hR
          rcases hgo with hgo | ⟨hgo, hgo2⟩
          all_goals
            go_wp2_with fail
            go_quiet ((go_at_call 105; exact Calls.quiet_of_same (HD2.out _)))
            clear hm0 hm1 hm2 hm3 hm4 hi0 hi1 hi2 hi3
            have HBN := Lib.hid (below_drewN wr.heap.size wr nq)
            have hcr2 := cell_after HBN.out hcr
            have hfr2 := free_after (a := ⟨g1, i + j, none⟩) HBN.out (World.block_lt_of_cell? wr ⟨g1, i + j, none⟩ hcr) hfr
            have HN2 := Lib.hid (htj.out.m.later HBN.out (Nat.le_refl _))
            have HB2 := Lib.hid (htj.out.b.trans (HBN.out.mono htj.out.b.size))
            clear hcr hfr
            have E1 : Hid (((z : Int) + (p : Int) + (carry : Int)) % 10 = ((v % 10 : Nat) : Int)) := Lib.hid (by rw [HVV.out, HP.out]; simp)
            have E2 : Hid (((z : Int) + (p : Int) + (carry : Int)) / 10 = ((v / 10 : Nat) : Int)) := Lib.hid (by rw [HVV.out, HP.out]; simp)
            have HTOP : Hid (j + 1 ≤ m.length ∨ (j + 1 = m.length + 1 ∧ v / 10 = 0)) := Lib.hid (by
              by_cases hj1 : j < m.length
              · exact Or.inl (by omega)
              · right
                have hjl : j = m.length := by omega
                have h1 := htj.out.z (i + j) (by omega)
                have h2 : dg m j = 0 := dg_ge (by omega)
                rw [HZ.out] at h1
                rw [HY.out] at h2
                refine ⟨by omega, ?_⟩
                rw [HVV.out, h1, h2]; omega)
            have HVL : Hid (v / 10 < 10) := Lib.hid (by rw [HVV.out, HP.out]; omega)
            generalize hwn : wr.drewN nq = wn at hcr2 hfr2 HN2 HB2 ⊢
            go_wp2
            go_roundw
            case rel =>
              refine ⟨j + 1, r2.set (i + j) (v % 10), v / 10, by go_num, by rw [← E2.out], by omega, ?_⟩
              rw [E1.out]
              exact Lib.hid ⟨by rw [List.length_set]; exact htj.out.len, htj.out.dig.set (Nat.mod_lt _ (by decide)) _, HVL.out, riJ_step HIJ.out HX.out HY.out HZ.out HVV.out htj.out.eq,
                fun k hk => by rw [dg_set HIJ.out, if_neg (by omega)]; exact htj.out.z k (by omega), HTOP.out, HN2.out.set HIJ.out _, HB2.out.setCell (by have := HG1.out; simp; omega) _⟩
            case measure => simp [intOf] <;> omega
        · have hjf : decide (j < m.length) = false := by rw [decide_eq_false_iff_not]; omega
          have HRI : Hid (RiI l m g1 W wr (i + 1) r2) := Lib.hid ⟨htj.out.len, htj.out.dig, by
            have h1 := htj.out.eq
            rw [V_stop j hjt, Nat.mul_zero, Nat.add_zero] at h1
            rw [V_succ, Nat.add_mul, Nat.mul_assoc]; exact h1, fun k hk => htj.out.z k (by have := htj.out.top; omega), htj.out.m, htj.out.b⟩
          clear hR
          go_wp2
          go_roundw
          case rel => exact ⟨i + 1, r2, by go_num, by omega, HRI⟩
          case measure => simp [intOf] <;> omega
    · obtain rfl : i = l.length := by omega
      go_wp2_with (go_at_call 95; refine (ref_trimmed_any hti.out.m hti.out.dig).mono ?_; rintro e w2 ⟨rfl, rfl⟩)
      go_ret
      have hE : val 10 r = x * y := by rw [hti.out.eq, HV.out.2, show V 10 l l.length = x from HV.out.1]
      rw [← hE]
      have hle : g1 ≤ W.heap.size := by rw [HG1.out]; exact Nat.le_refl _
      exact ⟨⟨_, rfl, (hti.out.m.trim hti.out.dig).mono hle⟩, hti.out.b.mono hle⟩
end Go.Proofs.YtkpoegdcmnjedaaDoor
namespace Go.Proofs.YtkpoegdcmnjedaaDoor
open Go.RowKit
set_option linter.unusedVariables false
set_option linter.unusedSimpArgs false

/-! ### the reference's Root -/
structure RtO (a L g : Nat) (w3 wr : World) (k : Nat) (O : List Nat) : Prop where
  n : N w3.heap.size wr (.slice (some ⟨g, 0, none⟩) L L) O
  len : O.length = L
  dig : Dig 10 O
  lo : val 10 O * val 10 O ≤ a
  hi : a < (val 10 O + 10 ^ k) * (val 10 O + 10 ^ k)
  z : ∀ j, j < k → dg O j = 0
  bel : Below w3.heap.size w3 wr
structure RtJ (a L g : Nat) (w3 wr : World) (i : Nat) (O : List Nat) : Prop where
  n : N w3.heap.size wr (.slice (some ⟨g, 0, none⟩) L L) O
  len : O.length = L
  dig : Dig 10 O
  lo : val 10 O * val 10 O ≤ a
  hi : a < (val 10 O + (10 - dg O i) * 10 ^ i) * (val 10 O + (10 - dg O i) * 10 ^ i)
  z : ∀ j, j < i → dg O j = 0
  bel : Below w3.heap.size w3 wr
theorem RtO.inner {a L g i : Nat} {w3 wr : World} {O : List Nat} (h : RtO a L g w3 wr (i + 1) O) : RtJ a L g w3 wr i O := by
  refine ⟨h.n, h.len, h.dig, h.lo, ?_, fun j hj => h.z j (by omega), h.bel⟩
  have hh := h.hi
  rw [h.z i (Nat.lt_succ_self _), Nat.sub_zero, Nat.mul_comm 10, ← Nat.pow_succ]
  exact hh
theorem val_up {O : List Nat} {i : Nat} (hi : i < O.length) : val 10 (O.set i (dg O i + 1)) = val 10 O + 10 ^ i := by
  have h := val_set (b := 10) (d := dg O i + 1) hi
  rw [Nat.mul_add, Nat.mul_one] at h
  omega
theorem set_back {O : List Nat} {i d : Nat} (hi : i < O.length) : (O.set i d).set i (dg O i) = O := by
  refine dg_ext (by rw [List.length_set, List.length_set]) fun k hk => ?_
  rw [dg_set (by rw [List.length_set]; exact hi)]
  split
  · rename_i h; rw [h]
  · rename_i h; rw [dg_set hi, if_neg h]
theorem RtJ.up {a L g i : Nat} {w3 wr w' : World} {O : List Nat} (h : RtJ a L g w3 wr i O) (hi : i < L) (hd : dg O i < 9) (hn : N w3.heap.size w' (.slice (some ⟨g, 0, none⟩) L L) (O.set i (dg O i + 1))) (hb : Below w3.heap.size w3 w') (hle : (val 10 O + 10 ^ i) * (val 10 O + 10 ^ i) ≤ a) :
    RtJ a L g w3 w' i (O.set i (dg O i + 1)) := by
  have hl : i < O.length := by rw [h.len]; exact hi
  have hv := val_up hl
  refine ⟨hn, by rw [List.length_set]; exact h.len, h.dig.setD hl (by omega), by rw [hv]; exact hle, ?_, ?_, hb⟩
  · rw [hv, dg_set hl, if_pos rfl]
    have hh := h.hi
    have e : val 10 O + 10 ^ i + (10 - (dg O i + 1)) * 10 ^ i = val 10 O + (10 - dg O i) * 10 ^ i := by
      rw [show 10 - dg O i = (10 - (dg O i + 1)) + 1 by omega, Nat.add_mul, Nat.one_mul]; omega
    rw [e]; exact hh
  · intro j hj
    rw [dg_set hl, if_neg (by omega)]
    exact h.z j hj
theorem RtJ.full {a L g i : Nat} {w3 wr : World} {O : List Nat} (h : RtJ a L g w3 wr i O) (hd : dg O i = 9) : RtO a L g w3 wr i O := by
  have hh := h.hi
  rw [hd, show 10 - 9 = 1 from rfl, Nat.one_mul] at hh
  exact ⟨h.n, h.len, h.dig, h.lo, hh, h.z, h.bel⟩
theorem RtJ.stop {a L g i : Nat} {w3 wr w' : World} {O : List Nat} (h : RtJ a L g w3 wr i O) (hn : N w3.heap.size w' (.slice (some ⟨g, 0, none⟩) L L) O) (hb : Below w3.heap.size w3 w') (hgt : a < (val 10 O + 10 ^ i) * (val 10 O + 10 ^ i)) : RtO a L g w3 w' i O :=
  ⟨hn, h.len, h.dig, h.lo, hgt, h.z, hb⟩
theorem root_begin {a L : Nat} (hL : nt a ≤ 2 * L) : a < (0 + 10 ^ L) * (0 + 10 ^ L) := by
  rw [Nat.zero_add, ← Nat.pow_add]
  have h1 : a < 10 ^ nt a := (digs_length_le (by decide)).1 (Nat.le_refl _)
  exact Nat.lt_of_lt_of_le h1 (Nat.pow_le_pow_right (by decide) (by omega))
theorem nrep0 : ∀ n, val 10 (List.replicate n 0) = 0
  | 0 => rfl
  | n + 1 => by rw [List.replicate_succ, val_cons, nrep0 n]
end Go.Proofs.YtkpoegdcmnjedaaDoor
namespace Go.Proofs.YtkpoegdcmnjedaaDoor
open Go.RowKit
set_option linter.unusedVariables false
set_option linter.unusedSimpArgs false

set_option maxRecDepth 100000 in
set_option maxHeartbeats 4000000 in
theorem ref_root_any (s : ByteArray) (W : World) (hs : s.size ≤ 400000) (la : IsNum s → natT s < Lim) : Calls Tryd.prog 38 #[.string s] W (RtQ s W) := by
  go_enter Tryd.func38, Tryd.ntmps38
  go_wp2_with fail
  refine (ref_one_any s _ (by omega)).mono ?_
  rintro e w2 ⟨m, ao, nn, cap, er, rfl, hd, hb⟩
  obtain ⟨V2, hV2, hbx, vb2, vs2⟩ := box2_new w2 (.bool m) (.slice ao nn cap)
  have HB2 := Lib.hid (hb.trans (vb2.mono hb.size))
  have FX := Lib.hid hbx
  have HV2 := Lib.hid vb2
  obtain ⟨x0, x1, -, -⟩ := FX.out
  clear hb
  go_upto_region 2 with (fail)
  rw [← hV2]
  clear hV2 hbx vb2 vs2
  rcases hd with ⟨h1, rfl⟩ | ⟨h1, rfl, hrn⟩
  · clear la
    go_wp2
    exact bodyPost_ret (v := .tuple #[.string ⟨#[]⟩, .int .i64 2]) (by simp [results, Tryd.results38, go_sem]) rfl ⟨_, 2, rfl, Or.inl ⟨h1, rfl, rfl⟩, HB2.out⟩
  obtain ⟨x, hq, hx⟩ := hrn
  have hnl := la h1
  rcases hx with ⟨hlt, hxv⟩ | ⟨hge, _⟩
  case inr => omega
  have hxn : x.natAbs = natT s := by rw [hxv, valT_abs]
  obtain ⟨_, _, _, _, ea, hna, hsa⟩ := hq.view
  simp only [numR, Value.agg.injEq, Array.mk.injEq, List.cons.injEq, Value.slice.injEq, Value.bool.injEq] at ea
  obtain ⟨rfl, ⟨rfl, rfl, rfl⟩, -⟩ := ea
  have HS := Lib.hid hsa.out
  have HQ := Lib.hid (hq.later HV2.out (Nat.le_refl _))
  have HNA := Lib.hid (hna.later HV2.out (Nat.le_refl _))
  have H1 := Lib.hid h1
  have HXV := Lib.hid hxv
  obtain ⟨a, HA⟩ : ∃ a, Hid (x.natAbs = a) := ⟨_, Lib.hid rfl⟩
  have HAT : Hid (a = natT s) := Lib.hid (by rw [← HA.out]; exact hxn)
  have HAL : Hid (a < Lim) := Lib.hid (by rw [HAT.out]; exact hnl)
  rw [HA.out] at HNA
  have hl : nn = nt a := by rw [← HA.out]; exact hna.len
  have HLN := Lib.hid hl
  have hn600 : nn ≤ 600 := by rw [hl]; exact nt_lim'.2 HAL.out
  clear hq hlt hxv hxn hna hsa hnl la h1 hl
  by_cases hneg : x < 0
  · obtain rfl : m = true := by rw [HS.out]; exact decide_eq_true hneg
    have HNG : Hid (valT s < 0) := Lib.hid (by rw [← HXV.out]; exact hneg)
    clear hneg
    go_wp2
    exact bodyPost_ret (v := .tuple #[.string ⟨#[]⟩, .int .i64 7]) (by simp [results, Tryd.results38, go_sem]) rfl ⟨_, 7, rfl, Or.inr (Or.inl ⟨H1.out, HNG.out, rfl, rfl⟩), HB2.out⟩
  obtain rfl : m = false := by rw [HS.out]; exact decide_eq_false hneg
  have HNG : Hid (¬ valT s < 0) := Lib.hid (by rw [← HXV.out]; exact hneg)
  have H86 : Hid (Calls Tryd.prog 86 #[numR false (.slice ao nn cap)] V2 fun e W' => e = .returned (.bool false) ∧ Below V2.heap.size V2 W') := Lib.hid (by
    have h := ref_Long_any HQ.out
    rwa [decide_eq_false (show ¬ Lim ≤ x.natAbs by rw [HA.out]; have := HAL.out; omega)] at h)
  clear hneg
  go_upto_region 8 with ((go_at_call 86; (with_reducible refine H86.out.mono ?_); rintro e w3 ⟨rfl, hb3⟩; have HB3 := Lib.hid hb3; clear hb3))
  have HX3 := Lib.hid (FX.out.after HB3.out)
  obtain ⟨y0, y1, -, -⟩ := HX3.out
  have HN3 := Lib.hid (HNA.out.later HB3.out (Nat.le_refl _))
  have HW3 : Hid (Below W.heap.size W w3) := Lib.hid (HB2.out.trans (HB3.out.mono HB2.out.size))
  obtain ⟨L, HL⟩ : ∃ L, Hid (L = (nn + 1) / 2) := ⟨_, Lib.hid rfl⟩
  have hL : ((nn : Int) + 1) / 2 = (L : Int) := by have := HL.out; omega
  have hLb : L ≤ 301 := by have := HL.out; omega
  obtain ⟨w4, hmk, hm4, hb4, hs4⟩ := make64 w3 L L (Nat.le_refl _) (by omega)
  have HB4 := Lib.hid hb4
  have HO0 : Hid (RtO a L w3.heap.size w3 w4 L (List.replicate L 0)) := Lib.hid ⟨hm4, by rw [List.length_replicate], Dig.mem (by decide) (fun d hd => by rw [List.eq_of_mem_replicate hd]; decide), by rw [nrep0]; exact Nat.zero_le _, by rw [nrep0]; exact root_begin (by have h1 := HL.out; have h2 := HLN.out; omega), fun j _ => dg_zeros _ _, hb4⟩
  clear x0 x1 H86 hm4 hb4 hs4
  go_wp2_with fail
  clear hL hmk
  go_loopw [7] (fun iv wr => ∃ (k : Nat) (O : List Nat), iv = .int .i64 ((k : Int) - 1) ∧ k ≤ L ∧ Hid (RtO a L w3.heap.size w3 wr k O)) (fun iv _ => (intOf iv + 1).toNat)
  case atStart => exact ⟨L, _, rfl, Nat.le_refl _, HO0⟩
  case round =>
    obtain ⟨k, O, rfl, hk, hi⟩ := hrel
    cases k with
    | zero =>
      have e0 : (((0 : Nat) : Int) - 1) = -1 := by omega
      rw [e0]
      obtain ⟨t, HT⟩ : ∃ t, Hid (val 10 O = t) := ⟨_, Lib.hid rfl⟩
      have HTT : Hid (t * t ≤ natT s ∧ natT s < (t + 1) * (t + 1)) := Lib.hid (by
        have h1 := hi.out.lo
        have h2 := hi.out.hi
        rw [Nat.pow_zero] at h2
        rw [HT.out, HAT.out] at h1 h2
        exact ⟨h1, h2⟩)
      have hQ : Qn 0 wr (numR false (.slice (some ⟨w3.heap.size, 0, none⟩) (nt t) L)) (t : Int) := ⟨some ⟨w3.heap.size, 0, none⟩, nt t, L, by rw [decide_eq_false (by omega)], by
        have h := hi.out.n.trim hi.out.dig
        rw [HT.out] at h
        rw [Int.natAbs_natCast]
        exact h.mono (Nat.zero_le _)⟩
      have HQT := Lib.hid hQ
      have HTR := ref_trimmed_any hi.out.n hi.out.dig
      rw [HT.out] at HTR
      have H95 := Lib.hid HTR
      have HBI := Lib.hid hi.out.bel
      have HTN : Hid (nt ((t : Int)).natAbs ≤ 1000000) := Lib.hid (by
        rw [Int.natAbs_natCast]
        exact Nat.le_trans (nt_lim'.2 (root_small (a := natT s) (by rw [← HAT.out]; exact HAL.out) HTT.out.1)) (by decide))
      clear HTR hQ
      go_wp2_with (first | (go_at_call 95; (with_reducible refine H95.out.mono ?_); rintro e w5 ⟨rfl, rfl⟩) | (go_at_call 83; (with_reducible refine (ref_num_any _ _ _ _ _).mono ?_); rintro e w6 ⟨rfl, hb6⟩; have HB6 := Lib.hid hb6; clear hb6) | (go_at_call 79; (with_reducible refine (ref_Text_any (HQT.out.later HB6.out (Nat.le_refl _)) HTN.out).mono ?_); rintro e w7 ⟨rfl, hb7⟩; have HB7 := Lib.hid hb7; clear hb7))
      exact bodyPost_ret (v := .tuple #[.string (ren (t : Int)), .int .i64 0]) (by simp [results, Tryd.results38, go_sem]) rfl ⟨_, 0, rfl, Or.inr (Or.inr ⟨H1.out, (by have := HNG.out; omega), ⟨t, HTT.out.1, HTT.out.2, rfl⟩, rfl⟩), ((HW3.out.trans (HBI.out.mono HW3.out.size)).trans (HB6.out.mono (Nat.le_trans HW3.out.size HBI.out.size))).trans (HB7.out.mono (Nat.le_trans HW3.out.size (Nat.le_trans HBI.out.size HB6.out.size)))⟩
    | succ i =>
      have ei : (((i + 1 : Nat) : Int) - 1) = (i : Int) := by omega
      rw [ei]
      have HJ0 := Lib.hid hi.out.inner
      go_wp2
      go_loopw [33] (fun _ wr2 => ∃ (O : List Nat), Hid (RtJ a L w3.heap.size w3 wr2 i O)) (fun _ w => mea w3.heap.size i w)
      case atStart => exact ⟨O, HJ0⟩
      case round =>
        obtain ⟨O2, hj⟩ := hrel
        have hiL : i < L := by omega
        have hil : i < O2.length := by rw [hj.out.len]; exact hiL
        have hc := hj.out.n.cell hil
        have hf := hj.out.n.free i
        have hd9 := hj.out.dig i
        obtain ⟨d, HD⟩ : ∃ d, Hid (dg O2 i = d) := ⟨_, Lib.hid rfl⟩
        rw [HD.out] at hc hd9
        have HIL := Lib.hid hil
        clear hil
        by_cases hd : d < 9
        · have hnset := hj.out.n.set HIL.out (d + 1)
          rw [show ((d + 1 : Nat) : Int) = (d : Int) + 1 by omega] at hnset
          have HN5 := Lib.hid hnset
          have HB5 : Hid (Below w3.heap.size w3 (wr.setCell ⟨w3.heap.size, i, none⟩ (.int .i64 ((d : Int) + 1)))) := Lib.hid (hj.out.bel.setCell (Nat.le_refl _) _)
          have HVU : Hid (val 10 (O2.set i (d + 1)) = val 10 O2 + 10 ^ i) := Lib.hid (by rw [← HD.out]; exact val_up HIL.out)
          have HDG : Hid (Dig 10 (O2.set i (d + 1)) ∧ (O2.set i (d + 1)).length ≤ 1000000) := Lib.hid ⟨hj.out.dig.setD HIL.out (by omega), by rw [List.length_set, hj.out.len]; omega⟩
          clear hnset
          go_upto_region 14 with (fail)
          generalize wr.setCell ⟨w3.heap.size, i, none⟩ (.int .i64 ((d : Int) + 1)) = w5 at HN5 HB5 ⊢
          have HX5 := Lib.hid (HX3.out.after HB5.out)
          obtain ⟨z0, z1, -, -⟩ := HX5.out
          have HA5 := Lib.hid (HN3.out.later HB5.out (Nat.le_refl _))
          obtain ⟨P, HP⟩ : ∃ P, Hid ((val 10 O2 + 10 ^ i) * (val 10 O2 + 10 ^ i) = P) := ⟨_, Lib.hid rfl⟩
          obtain ⟨c, HC⟩ : ∃ c, Hid (cmpI P a = c) := ⟨_, Lib.hid rfl⟩
          have HLP : Hid ((digs 10 P).length ≤ 1000000 ∧ (digs 10 a).length ≤ 1000000) := Lib.hid ⟨by
            have hv := val_lt HDG.out.1
            rw [HVU.out, List.length_set, hj.out.len] at hv
            have h2 : P < 10 ^ (L + L) := by rw [← HP.out, Nat.pow_add]; exact Nat.mul_lt_mul_of_lt_of_le hv (Nat.le_of_lt hv) (Nat.pow_pos (by decide))
            have h3 := (digs_length_le (b := 10) (n := P) (k := L + L) (by decide)).2 h2
            omega, by show nt a ≤ _; exact Nat.le_trans (nt_lim'.2 HAL.out) (by decide)⟩
          clear hc hf
          go_region_held3 (fun w' => w'.cell? ⟨w2.heap.size, 0, none⟩ = some (.bool false) ∧ w'.cell? ⟨w2.heap.size, 1, none⟩ = some (.slice ao nn cap)) (with_reducible first | (with_reducible exact two_cells (HX5.out.after (Below.drew (Below.refl _ _)))) | (with_reducible exact two_cells (HX5.out.after HW8.out))) (first | (go_at_call 94; (with_reducible refine (ref_times_row (HN5.out.later (Below.drew (Below.refl _ _)) (Nat.le_refl _)) (HN5.out.later (Below.drew (Below.refl _ _)) (Nat.le_refl _)) HDG.out.1 HDG.out.1 HDG.out.2 HDG.out.2).mono ?_); rw [HVU.out, HP.out]; rintro e w8 ⟨⟨v8, rfl, hm8⟩, hb8⟩; have HM8 := Lib.hid hm8; have HW8 := Lib.hid (undrew hb8); clear hm8 hb8) | (go_at_call 82; (with_reducible refine (ref_order_any HM8.out (HA5.out.later HW8.out (Nat.le_refl _)) (digs_dig (by decide) _) (digs_dig (by decide) _) HLP.out.1 HLP.out.2).mono ?_); rw [val_digs (by decide), val_digs (by decide), HC.out]; rintro e w9 ⟨rfl, rfl⟩))
          have HN8 := Lib.hid (HN5.out.later HW8.out (Nat.le_refl _))
          have HB8 := Lib.hid (HB5.out.trans (HW8.out.mono HB5.out.size))
          by_cases hgt : a < P
          · have hc0 : 0 < c := by rw [← HC.out]; unfold cmpI; rw [if_neg (by omega), if_pos hgt]; decide
            have HGT := Lib.hid hgt
            have hc8 := HN8.out.cell (i := i) (by rw [List.length_set]; exact HIL.out)
            rw [dg_set HIL.out, if_pos rfl, show ((d + 1 : Nat) : Int) = (d : Int) + 1 by omega] at hc8
            have hf8 := HN8.out.free i
            clear hgt
            go_wp2
            have hdd : ((d : Int) + 1 - 1) = (d : Int) := by omega
            have hnb := HN8.out.set (i := i) (by rw [List.length_set]; exact HIL.out) d
            rw [← HD.out, set_back HIL.out] at hnb
            have HST := Lib.hid (hj.out.stop hnb (HB8.out.setCell (Nat.le_refl _) _) (by rw [HP.out]; exact HGT.out))
            rw [HD.out] at HST
            go_roundw
            case rel =>
              exact ⟨i, _, by go_num, by omega, HST⟩
            case measure => simp [intOf]
          · have hc0 : c ≤ 0 := by rw [← HC.out]; unfold cmpI; (repeat' split) <;> omega
            have HLE : Hid (P ≤ a) := Lib.hid (by omega)
            clear hgt
            go_wp2
            go_roundw
            case rel =>
              exact ⟨_, Lib.hid (hj.out.up hiL (by rw [HD.out]; exact hd) (by rw [HD.out]; exact HN8.out) HB8.out (by rw [HP.out]; exact HLE.out))⟩
            case measure =>
              rw [mea_eq hj.out.n HIL.out, mea_eq HN8.out (by rw [List.length_set]; exact HIL.out), dg_set HIL.out, if_pos rfl, HD.out]
              omega
        · have hd2 : d = 9 := by omega
          have HFU := Lib.hid (hj.out.full (by rw [HD.out]; exact hd2))
          subst hd2
          go_wp2
          go_roundw
          case rel => exact ⟨i, _, by go_num, by omega, HFU⟩
          case measure => simp [intOf]
end Go.Proofs.YtkpoegdcmnjedaaDoor
