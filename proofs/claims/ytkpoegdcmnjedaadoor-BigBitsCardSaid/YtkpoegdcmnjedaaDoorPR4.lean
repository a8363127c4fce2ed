import Derived.Test.YtkpoegdcmnjedaaDoorPR4a
import Derived.Deep.CutRange
import Derived.Test.YtkpoegdcmnjedaaDoorSB3
import Derived.Test.YtkpoegdcmnjedaaDoorPA2
import Derived.Test.YtkpoegdcmnjedaaDoorRG4
namespace Go.Proofs.YtkpoegdcmnjedaaDoor
open Go.RowKit
set_option linter.unusedVariables false
set_option linter.unusedSimpArgs false

/-! ### the reference's Shift -/
theorem lim_4000 : Lim ≤ 2 ^ 4000 := by unfold Lim; decide +kernel
theorem lim_T : ∀ T : Nat, T = 4000 → Lim ≤ 2 ^ T := by rintro T rfl; exact lim_4000
theorem lim_far {k : Nat} (h : 4000 ≤ k) : Lim ≤ 2 ^ k := by
  obtain ⟨T, hT⟩ : ∃ T : Nat, T = 4000 := ⟨_, rfl⟩
  exact Nat.le_trans (lim_T T hT) (Nat.pow_le_pow_right (by decide) (by omega))
theorem shZ_zero (n : Int) : shZ 0 n = 0 := by unfold shZ; split <;> simp
theorem told_zero : toldS 0 = ⟨#[48]⟩ ∧ toldE 0 = 0 := by
  have h := told_small (x := 0) (by unfold Lim; decide +kernel)
  refine ⟨h.1.trans ?_, h.2⟩
  unfold ren
  decide +kernel
theorem shZ_big {x n : Int} (hx : x ≠ 0) (hn : 4000 < n) : toldS (shZ x n) = ⟨#[]⟩ ∧ toldE (shZ x n) = 4 := by
  have h : ¬ (shZ x n).natAbs < Lim := by
    unfold shZ
    rw [if_pos (by omega), Int.natAbs_mul, Int.natAbs_natCast]
    have h1 : Lim ≤ 2 ^ n.toNat := lim_far (by omega)
    have h2 : 2 ^ n.toNat ≤ x.natAbs * 2 ^ n.toNat := Nat.le_mul_of_pos_left _ (by omega)
    omega
  unfold toldS toldE
  rw [if_neg h, if_neg h]
  exact ⟨rfl, rfl⟩
theorem div_far {x : Int} {p q : Nat} (hp : x.natAbs < p) (hq : p ≤ q) : x / (p : Int) = x / (q : Int) := by
  rw [down_floor (by omega), down_floor (by omega), Nat.div_eq_of_lt hp, Nat.div_eq_of_lt (by omega), Nat.mod_eq_of_lt hp, Nat.mod_eq_of_lt (by omega)]
theorem shZ_low {x n : Int} (hx : x.natAbs < Lim) (hn : n < 0) : shZ x n = x / (2 ^ (min (-n) 4000).toNat : Nat) := by
  unfold shZ
  rw [if_neg (by omega)]
  by_cases h : -n ≤ 4000
  · rw [Int.min_eq_left h]
  · rw [Int.min_eq_right (by omega)]
    obtain ⟨T, hT⟩ : ∃ T : Nat, (4000 : Int).toNat = T := ⟨_, rfl⟩
    rw [hT]
    have hT2 : T = 4000 := by omega
    exact (div_far (p := 2 ^ T) (Nat.lt_of_lt_of_le hx (lim_far (by omega))) (Nat.pow_le_pow_right (by decide) (by omega))).symm
set_option maxRecDepth 100000 in
set_option maxHeartbeats 8000000 in
theorem ref_shift_any (s : ByteArray) (n : Int) (W : World) (hs : s.size ≤ 1000000) : Calls Tryd.prog 46 #[.string s, .int .i64 n] W (ShQ s n W) := by
  go_enter Tryd.func46, Tryd.ntmps46
  go_wp2_with fail
  refine (ref_one_any s _ (by omega)).mono ?_
  rintro e w2 ⟨m, ao, nn, cap, er, rfl, hd, hb⟩
  obtain ⟨V2, hV2, hbx, vb2, vs2⟩ := box2_new w2 (.bool m) (.slice ao nn cap)
  have HB2 := Lib.hid (hb.trans (vb2.mono hb.size))
  have FX := Lib.hid hbx
  have HV2 := Lib.hid vb2
  clear hb
  go_upto_region 2 with (fail)
  rw [← hV2]
  clear hV2 hbx vb2
  rcases hd with ⟨h1, rfl⟩ | ⟨h1, rfl, hrn⟩
  · go_wp2
    exact bodyPost_ret (v := .tuple #[.string ⟨#[]⟩, .int .i64 2]) (by simp [results, Tryd.results46, go_sem]) rfl ⟨_, 2, rfl, Or.inl ⟨h1, rfl, rfl⟩, HB2.out⟩
  by_cases hlo : n < -100000
  · go_wp2
    exact bodyPost_ret (v := .tuple #[.string ⟨#[]⟩, .int .i64 7]) (by simp [results, Tryd.results46, go_sem]) rfl ⟨_, 7, rfl, Or.inr (Or.inl ⟨h1, Or.inl (by omega), rfl, rfl⟩), HB2.out⟩
  have c1 : decide (n < -100000) = false := decide_eq_false hlo
  by_cases hhi : 100000 < n
  · go_wp2
    exact bodyPost_ret (v := .tuple #[.string ⟨#[]⟩, .int .i64 7]) (by simp [results, Tryd.results46, go_sem]) rfl ⟨_, 7, rfl, Or.inr (Or.inl ⟨h1, Or.inr (by omega), rfl, rfl⟩), HB2.out⟩
  have c2 : decide (100000 < n) = false := decide_eq_false hhi
  have HR : Hid (-100000 ≤ n ∧ n ≤ 100000) := Lib.hid (by omega)
  obtain ⟨x, hq, hx⟩ := hrn
  have HQ := Lib.hid (hq.later HV2.out (Nat.le_refl _))
  have hlen : nn = nt x.natAbs := by
    obtain ⟨m', a', n', p', e', _, _, _, h5⟩ := hq.parts
    simp only [numR, Value.agg.injEq, Array.mk.injEq, List.cons.injEq, Value.slice.injEq] at e'
    rw [e'.2.1.2.1]; exact h5
  obtain ⟨lb, HLB⟩ : ∃ b, Hid (decide (Lim ≤ x.natAbs) = b) := ⟨_, Lib.hid rfl⟩
  have H86 : Hid (Calls Tryd.prog 86 #[numR m (.slice ao nn cap)] V2 fun e W' => e = .returned (.bool lb) ∧ Below V2.heap.size V2 W') := Lib.hid (by have := ref_Long_any HQ.out; rw [HLB.out] at this; exact this)
  obtain ⟨x0, x1, x2, x3⟩ := FX.out
  rcases hx with ⟨hlt, hxv⟩ | ⟨hge, hge2, _⟩
  case inr =>
    obtain rfl : lb = true := by rw [← HLB.out]; exact decide_eq_true hge2
    clear hlen hq
    go_wp2_with ((go_at_call 86; (with_reducible refine H86.out.mono ?_); rintro e w3 ⟨rfl, hb3⟩; have HB3 := Lib.hid hb3; clear hb3))
    exact bodyPost_ret (v := .tuple #[.string ⟨#[]⟩, .int .i64 4]) (by simp [results, Tryd.results46, go_sem]) rfl ⟨_, 4, rfl, Or.inr (Or.inr (Or.inl ⟨h1, HR.out, hge, rfl, rfl⟩)), HB2.out.trans (HB3.out.mono HB2.out.size)⟩
  have hxl : x.natAbs < Lim := by rw [hxv, valT_abs]; exact hlt
  obtain rfl : lb = false := by rw [← HLB.out]; exact decide_eq_false (by omega)
  have HFIN : Hid (∀ r er, r = toldS (shZ x n) → er = toldE (shZ x n) → ∀ W', Below W.heap.size W W' → ShQ s n W (.returned (.tuple #[.string r, .int .i64 er])) W') := Lib.hid fun r er hr he W' hW' => ⟨r, er, rfl, Or.inr (Or.inr (Or.inr ⟨h1, HR.out, hlt, by rw [← hxv]; exact hr, by rw [← hxv]; exact he⟩)), hW'⟩
  have HXL := Lib.hid hxl
  clear hq hxv hlt hxl h1
  by_cases hx0 : x = 0
  · subst hx0
    obtain rfl : nn = 0 := by rw [hlen]; exact nt_zero
    clear hlen
    go_upto_region 8 with ((go_at_call 86; (with_reducible refine H86.out.mono ?_); rintro e w3 ⟨rfl, hb3⟩; have HB3 := Lib.hid hb3; clear hb3; have f3 := FX.out.after HB3.out; obtain ⟨u0, u1, u2, u3⟩ := f3))
    go_wp2
    exact bodyPost_ret (v := .tuple #[.string ⟨#[48]⟩, .int .i64 0]) (by simp [results, Tryd.results46, go_sem]) rfl (HFIN.out _ _ (by rw [shZ_zero]; exact told_zero.1.symm) (by rw [shZ_zero]; exact told_zero.2.symm) _ (HB2.out.trans (HB3.out.mono HB2.out.size)))
  have hnn : 0 < nn := by rw [hlen]; exact Nat.pos_of_ne_zero fun e => hx0 (by have := nt_eq_zero e; omega)
  have hnz : ((nn : Int) == 0) = false := by rw [beq_eq_false_iff_ne]; omega
  have HNX : Hid (nt x.natAbs ≤ 600) := Lib.hid (nt_lim'.2 HXL.out)
  clear hlen
  by_cases hbig : 4000 < n
  · have HTB := Lib.hid (shZ_big hx0 hbig)
    go_upto_region 8 with ((go_at_call 86; (with_reducible refine H86.out.mono ?_); rintro e w3 ⟨rfl, hb3⟩; have HB3 := Lib.hid hb3; clear hb3; have f3 := FX.out.after HB3.out; obtain ⟨u0, u1, u2, u3⟩ := f3))
    go_wp2
    exact bodyPost_ret (v := .tuple #[.string ⟨#[]⟩, .int .i64 4]) (by simp [results, Tryd.results46, go_sem]) rfl (HFIN.out _ _ HTB.out.1.symm HTB.out.2.symm _ (HB2.out.trans (HB3.out.mono HB2.out.size)))
  have c3 : decide (4000 < n) = false := decide_eq_false hbig
  by_cases hn0 : 0 ≤ n
  · obtain ⟨k, HKN⟩ : ∃ k : Nat, Hid (n = k) := ⟨n.toNat, Lib.hid (by omega)⟩
    have hk4 : k ≤ 4000 := by have := HKN.out; omega
    have HSZ : Hid (shZ x n = x * ((2 ^ k : Nat) : Int)) := Lib.hid (by unfold shZ; rw [if_pos hn0, HKN.out]; rfl)
    have HTWO : Hid (∀ w, Calls Tryd.prog 96 #[.int .i64 n] w fun e W' => (∃ v, e = .returned v ∧ Qn (w.heap.size + 1) W' v ((2 ^ k : Nat) : Int)) ∧ Below w.heap.size w W') := Lib.hid fun w => by rw [HKN.out]; exact ref_two_any k hk4 w
    have HNT : Hid (nt (((2 ^ k : Nat) : Int)).natAbs ≤ 1000000) := Lib.hid (by rw [Int.natAbs_natCast]; exact Nat.le_trans (nt_two k) (by omega))
    have HNX2 : Hid (nt x.natAbs ≤ 1000000) := Lib.hid (by have := HNX.out; omega)
    go_upto_region 8 with ((go_at_call 86; (with_reducible refine H86.out.mono ?_); rintro e w3 ⟨rfl, hb3⟩; have HB3 := Lib.hid hb3; clear hb3; have F3 := Lib.hid (FX.out.after HB3.out); obtain ⟨u0, u1, u2, u3⟩ := F3.out))
    have HQ3 := Lib.hid (HQ.out.later HB3.out (Nat.le_refl _))
    go_upto_region 13 with (fail)
    go_region_held3 (fun w' => (w'.cell? ⟨w2.heap.size, 0, none⟩ = some (.bool m) ∧ w'.cell? ⟨w2.heap.size, 1, none⟩ = some (.slice ao nn cap))) (with_reducible first | (with_reducible exact two_cells (F3.out.after (Below.drew (Below.refl _ _)))) | (with_reducible exact two_cells (F3.out.after HW8.out)) | (with_reducible exact two_cells (F3.out.after HW9.out)) | (with_reducible exact two_cells (F3.out.after HW10.out))) (first | (go_at_call 96; (with_reducible refine (HTWO.out _).mono ?_); rintro e w8 ⟨⟨v8, rfl, hm8⟩, hb8⟩; have HM8 := Lib.hid hm8; have HW8 := Lib.hid (undrew hb8); clear hm8 hb8) | (go_at_call 74; (with_reducible refine (ref_Times_any (HQ3.out.later HW8.out (Nat.le_refl _)) HM8.out HNX2.out HNT.out).mono ?_); rintro e w9 ⟨⟨v9, rfl, hm9⟩, hb9⟩; have HM9 := Lib.hid hm9; have HW9 := Lib.hid (HW8.out.trans (hb9.mono HW8.out.size)); clear hm9 hb9) | (go_at_call 61; (with_reducible refine (ref_told_nil HM9.out).mono ?_); rintro e w10 ⟨rfl, hb10⟩; have HW10 := Lib.hid (HW9.out.trans (hb10.mono HW9.out.size)); clear hb10))
    go_wp2
    exact bodyPost_ret (v := .tuple #[.string (toldS (x * ((2 ^ k : Nat) : Int))), .int .i64 (toldE (x * ((2 ^ k : Nat) : Int)))]) (by simp [results, Tryd.results46, go_sem]) rfl (HFIN.out _ _ (by rw [HSZ.out]) (by rw [HSZ.out]) _ ((HB2.out.trans (HB3.out.mono HB2.out.size)).trans (HW10.out.mono (Nat.le_trans HB2.out.size HB3.out.size))))
  · obtain ⟨k, HKN⟩ : ∃ k : Nat, Hid (min (-n) 4000 = k) := ⟨(min (-n) 4000).toNat, Lib.hid (by omega)⟩
    have hkn := HKN.out
    have hk4 : k ≤ 4000 := by omega
    have HSZ : Hid (shZ x n = x / ((2 ^ k : Nat) : Int)) := Lib.hid (by rw [shZ_low HXL.out (by omega), HKN.out]; rfl)
    have HTWO := Lib.hid (fun w => ref_two_any k hk4 w)
    have HNT : Hid (nt (((2 ^ k : Nat) : Int)).natAbs ≤ 400000) := Lib.hid (by rw [Int.natAbs_natCast]; exact Nat.le_trans (nt_two k) (by omega))
    have HNX2 : Hid (nt x.natAbs ≤ 400000) := Lib.hid (by have := HNX.out; omega)
    have HP0 : Hid (0 < ((2 ^ k : Nat) : Int)) := Lib.hid (by exact_mod_cast Nat.pow_pos (n := k) (show 0 < 2 by decide))
    have c4 : decide (0 ≤ n) = false := decide_eq_false hn0
    go_upto_region 8 with ((go_at_call 86; (with_reducible refine H86.out.mono ?_); rintro e w3 ⟨rfl, hb3⟩; have HB3 := Lib.hid hb3; clear hb3; have F3 := Lib.hid (FX.out.after HB3.out); obtain ⟨u0, u1, u2, u3⟩ := F3.out))
    have HQ3 := Lib.hid (HQ.out.later HB3.out (Nat.le_refl _))
    have w1 : IntKind.i64.wrap (-n) = -n := IntWalk.i64_in _ (by have := HR.out; omega)
    have HTW3 : Hid (∀ (z : Int) (w' : World), z = (k : Int) → Below w3.heap.size w3 w' → Calls Tryd.prog 96 #[.int .i64 z] w' fun e W' => ∃ m a n p, e = .returned (numR m (.slice a n p)) ∧ Qn 0 W' (numR m (.slice a n p)) ((2 ^ k : Nat) : Int) ∧ Below w3.heap.size w3 W' ∧ Below w'.heap.size w' W') := Lib.hid fun z w' hz hb => by
     subst hz
     exact (HTWO.out w').mono fun e W' ⟨⟨v, he, hq⟩, hb2⟩ => by
      obtain ⟨m, a, n, p, rfl, _, _⟩ := hq.view
      exact ⟨m, a, n, p, he, hq.mono (Nat.zero_le _), hb.trans (hb2.mono hb.size), hb2⟩
    have HDV3 : Hid (∀ (w' : World) (m2 : Bool) (a2 : Option Addr) (n2 p2 : Nat), Below w3.heap.size w3 w' → Qn 0 w' (numR m2 (.slice a2 n2 p2)) ((2 ^ k : Nat) : Int) → Calls Tryd.prog 78 #[numR m (.slice ao nn cap), numR m2 (.slice a2 n2 p2)] w' fun e W' => ∃ m5 a5 n5 p5 m6 a6 n6 p6, e = .returned (.tuple #[numR m5 (.slice a5 n5 p5), numR m6 (.slice a6 n6 p6)]) ∧ Qn w'.heap.size W' (numR m5 (.slice a5 n5 p5)) (x / ((2 ^ k : Nat) : Int)) ∧ Qn w'.heap.size W' (numR m6 (.slice a6 n6 p6)) (x % ((2 ^ k : Nat) : Int)) ∧ Below w3.heap.size w3 W' ∧ Below w'.heap.size w' W') := Lib.hid fun w' m2 a2 n2 p2 hb h2 => (ref_Divided_any (HQ3.out.later hb (Nat.le_refl _)) h2 HNX2.out HNT.out HP0.out).mono fun e W' ⟨⟨v1, v2, he, hq1, hq2⟩, hb2⟩ => by
      obtain ⟨m5, a5, n5, p5, rfl, _, _⟩ := hq1.view
      obtain ⟨m6, a6, n6, p6, rfl, _, _⟩ := hq2.view
      exact ⟨m5, a5, n5, p5, m6, a6, n6, p6, he, hq1, hq2, hb.trans (hb2.mono hb.size), hb2⟩
    clear HTWO HNT HNX2 HP0 HQ3 H86 HQ
    go_upto_region 14 with (fail)
    go_cut [8, 9] from 43 to 51 (fun q8 q9 wx => ∃ g6 g7 m5 a5 n5 p5 m6 a6 n6 p6, q8 = .pointer (some ⟨g6, 0, none⟩) ∧ q9 = .pointer (some ⟨g7, 0, none⟩) ∧ Hid (RdI (x / ((2 ^ k : Nat) : Int)) (x % ((2 ^ k : Nat) : Int)) w3 wx g6 g7 m5 a5 n5 p5 m6 a6 n6 p6))
    case first =>
      go_region_held3 (fun w' => (w'.cell? ⟨w2.heap.size, 0, none⟩ = some (.bool m) ∧ w'.cell? ⟨w2.heap.size, 1, none⟩ = some (.slice ao nn cap))) (exact two_cells (F3.out.after (by repeat (first | exact HW9.out | exact HW8.out | exact Below.refl _ _ | (refine Below.setCell ?_ (by first | exact Nat.le_refl _ | (simp; done) | omega | (have := HW9.out.size; simp; omega) | (have := HW8.out.size; simp; omega) | (have := HW9.out.size; have := HW8.out.size; simp; omega)) _) | (refine Below.alloc ?_ (by first | omega | (simp; done) | (have := HW9.out.size; simp; omega) | (have := HW8.out.size; simp; omega)) _) | refine Below.drew ?_)))) (first | (go_at_call 96; with_reducible refine (HTW3.out _ _ (by first | rfl | exact HKN.out | (rw [w1]; exact HKN.out)) (by first | exact Below.drew (Below.refl _ _) | exact Below.drew ((Below.refl _ _).alloc (Nat.le_refl _) _) | exact Below.drew (((Below.refl _ _).alloc (Nat.le_refl _) _).alloc (by simp) _))).mono ?_; rintro e w8 ⟨m8, a8, n8, p8, rfl, hq8, hb8, hbw8⟩; have HQ8 := Lib.hid hq8; have HW8 := Lib.hid hb8; have HZ8 := Lib.hid hbw8.size; (try (have FA8 := Lib.hid ((bx_new w3).after (undrew hbw8)); obtain ⟨fa0, fa1, fa2, fa3⟩ := FA8.out; have FA8m : w3.heap.size < w8.heap.size := World.block_lt_of_cell? w8 _ fa0; have FA8n := Nat.ne_of_lt FA8m; have FA8o := Nat.ne_of_gt FA8m)); (try (have FB8 := Lib.hid ((bx_new2 w3).after (undrew hbw8)); have FA8 := Lib.hid (((bx_new w3).after ((Below.refl _ _).alloc (Nat.le_refl _) (Obj.cells #[Value.bool false, Value.slice none 0 0] 51))).after (undrew hbw8)); obtain ⟨fa0, fa1, fa2, fa3⟩ := FA8.out; obtain ⟨fb0, fb1, fb2, fb3⟩ := FB8.out; have FA8m : w3.heap.size < w8.heap.size := World.block_lt_of_cell? w8 _ fa0; have FB8m : w3.heap.size + 1 < w8.heap.size := World.block_lt_of_cell? w8 _ fb0; have FA8n := Nat.ne_of_lt FA8m; have FA8o := Nat.ne_of_gt FA8m; have FB8n := Nat.ne_of_lt FB8m; have FB8o := Nat.ne_of_gt FB8m)); clear hq8 hb8 hbw8) | (go_at_call 78; (first | (with_reducible refine (HDV3.out _ _ _ _ _ HW8.out HQ8.out).mono ?_) | (with_reducible refine (HDV3.out _ _ _ _ _ (HW8.out.alloc HW8.out.size _) (HQ8.out.later ((Below.refl _ _).alloc (Nat.le_refl _) _) (Nat.le_refl _))).mono ?_) | (with_reducible refine (HDV3.out _ _ _ _ _ ((HW8.out.alloc HW8.out.size _).alloc (by have := HW8.out.size; simp; omega) _) (HQ8.out.later (((Below.refl _ _).alloc (Nat.le_refl _) _).alloc (by simp) _) (Nat.le_refl _))).mono ?_)); rintro e w9 ⟨m5, a5, n5, p5, m6, a6, n6, p6, rfl, hq9, hr9, hb9, hbw9⟩; have HQ9 := Lib.hid hq9; have HR9 := Lib.hid hr9; have HW9 := Lib.hid hb9; have HZ9 := Lib.hid hbw9.size; have HX9 : Hid (Below w8.heap.size w8 w9) := Lib.hid (by first | exact hbw9 | exact ((Below.refl _ _).alloc (Nat.le_refl _) _).trans (hbw9.mono (by simp)) | exact (((Below.refl _ _).alloc (Nat.le_refl _) _).alloc (by simp) _).trans (hbw9.mono (by simp; omega))); (try (have FA9 := Lib.hid (FA8.out.after HX9.out); obtain ⟨ga0, ga1, ga2, ga3⟩ := FA9.out)); (try (have FB9 := Lib.hid (FB8.out.after HX9.out); obtain ⟨gb0, gb1, gb2, gb3⟩ := FB9.out)); (try (have FC9 := Lib.hid ((bx_new w8).after hbw9); obtain ⟨gc0, gc1, gc2, gc3⟩ := FC9.out)); (try (have FD9 := Lib.hid ((bx_new2 w8).after hbw9); have FC9 := Lib.hid (((bx_new w8).after ((Below.refl _ _).alloc (Nat.le_refl _) (Obj.cells #[Value.bool false, Value.slice none 0 0] 51))).after hbw9); obtain ⟨gc0, gc1, gc2, gc3⟩ := FC9.out; obtain ⟨gd0, gd1, gd2, gd3⟩ := FD9.out)); (try (have FA9p := Lib.hid (FA9.out.after ((Below.refl _ _).alloc (Nat.le_refl _) (Obj.cells #[Value.bool false, Value.slice none 0 0] 51))); have FA9l : Hid _ := Lib.hid (World.block_lt_of_cell? w9 _ FA9.out.c0); have FA9m := FA9l.out; have FA9n := Nat.ne_of_lt FA9l.out; have FA9o := Nat.ne_of_gt FA9l.out; obtain ⟨pa0, pa1, pa2, pa3⟩ := FA9p.out)); (try (have FB9p := Lib.hid (FB9.out.after ((Below.refl _ _).alloc (Nat.le_refl _) (Obj.cells #[Value.bool false, Value.slice none 0 0] 51))); have FB9l : Hid _ := Lib.hid (World.block_lt_of_cell? w9 _ FB9.out.c0); have FB9m := FB9l.out; have FB9n := Nat.ne_of_lt FB9l.out; have FB9o := Nat.ne_of_gt FB9l.out; obtain ⟨pb0, pb1, pb2, pb3⟩ := FB9p.out)); (try (have FC9p := Lib.hid (FC9.out.after ((Below.refl _ _).alloc (Nat.le_refl _) (Obj.cells #[Value.bool false, Value.slice none 0 0] 51))); have FC9l : Hid _ := Lib.hid (World.block_lt_of_cell? w9 _ FC9.out.c0); have FC9m := FC9l.out; have FC9n := Nat.ne_of_lt FC9l.out; have FC9o := Nat.ne_of_gt FC9l.out; obtain ⟨pc0, pc1, pc2, pc3⟩ := FC9p.out)); have HLF : Hid (Lf (x / ((2 ^ k : Nat) : Int)) (x % ((2 ^ k : Nat) : Int)) w3 _ m5 a5 n5 p5 m6 a6 n6 p6 w9) := Lib.hid ⟨hq9, hr9, hb9, by first | exact HW8.out.size | (have z1 := HW8.out.size; simp only [World.size_alloc]; omega), hbw9.size⟩; clear hq9 hr9 hb9 hbw9))
      all_goals
        go_wp2
        go_meet
        refine ⟨_, _, m5, a5, n5, p5, m6, a6, n6, p6, rfl, rfl, Lib.hid ?_⟩
        first | (with_reducible exact leaf_nn HLF.out) | (with_reducible exact leaf_nn' HLF.out) | ((with_reducible refine leaf_s6 HLF.out FA9.out ?_ ?_); all_goals (first | omega | (simp only [World.size_alloc]; omega) | (have z1 := HW8.out.size; omega) | (have z1 := HW8.out.size; simp only [World.size_alloc]; omega))) | ((with_reducible refine leaf_s6 HLF.out FB9.out ?_ ?_); all_goals (first | omega | (simp only [World.size_alloc]; omega) | (have z1 := HW8.out.size; omega) | (have z1 := HW8.out.size; simp only [World.size_alloc]; omega))) | ((with_reducible refine leaf_s6 HLF.out FC9.out ?_ ?_); all_goals (first | omega | (simp only [World.size_alloc]; omega) | (have z1 := HW8.out.size; omega) | (have z1 := HW8.out.size; simp only [World.size_alloc]; omega))) | ((with_reducible refine leaf_s6 HLF.out FD9.out ?_ ?_); all_goals (first | omega | (simp only [World.size_alloc]; omega) | (have z1 := HW8.out.size; omega) | (have z1 := HW8.out.size; simp only [World.size_alloc]; omega))) | ((with_reducible refine leaf_s7 HLF.out FA9.out ?_ ?_); all_goals (first | omega | (simp only [World.size_alloc]; omega) | (have z1 := HW8.out.size; omega) | (have z1 := HW8.out.size; simp only [World.size_alloc]; omega))) | ((with_reducible refine leaf_s7 HLF.out FB9.out ?_ ?_); all_goals (first | omega | (simp only [World.size_alloc]; omega) | (have z1 := HW8.out.size; omega) | (have z1 := HW8.out.size; simp only [World.size_alloc]; omega))) | ((with_reducible refine leaf_s7 HLF.out FC9.out ?_ ?_); all_goals (first | omega | (simp only [World.size_alloc]; omega) | (have z1 := HW8.out.size; omega) | (have z1 := HW8.out.size; simp only [World.size_alloc]; omega))) | ((with_reducible refine leaf_s7 HLF.out FD9.out ?_ ?_); all_goals (first | omega | (simp only [World.size_alloc]; omega) | (have z1 := HW8.out.size; omega) | (have z1 := HW8.out.size; simp only [World.size_alloc]; omega))) | ((with_reducible refine leaf_67 HLF.out FA9.out FB9.out ?_ ?_ ?_ ?_ ?_); all_goals (first | omega | (simp only [World.size_alloc]; omega) | (have z1 := HW8.out.size; omega) | (have z1 := HW8.out.size; simp only [World.size_alloc]; omega))) | ((with_reducible refine leaf_67 HLF.out FA9.out FC9.out ?_ ?_ ?_ ?_ ?_); all_goals (first | omega | (simp only [World.size_alloc]; omega) | (have z1 := HW8.out.size; omega) | (have z1 := HW8.out.size; simp only [World.size_alloc]; omega))) | ((with_reducible refine leaf_67 HLF.out FA9.out FD9.out ?_ ?_ ?_ ?_ ?_); all_goals (first | omega | (simp only [World.size_alloc]; omega) | (have z1 := HW8.out.size; omega) | (have z1 := HW8.out.size; simp only [World.size_alloc]; omega))) | ((with_reducible refine leaf_67 HLF.out FB9.out FA9.out ?_ ?_ ?_ ?_ ?_); all_goals (first | omega | (simp only [World.size_alloc]; omega) | (have z1 := HW8.out.size; omega) | (have z1 := HW8.out.size; simp only [World.size_alloc]; omega))) | ((with_reducible refine leaf_67 HLF.out FB9.out FC9.out ?_ ?_ ?_ ?_ ?_); all_goals (first | omega | (simp only [World.size_alloc]; omega) | (have z1 := HW8.out.size; omega) | (have z1 := HW8.out.size; simp only [World.size_alloc]; omega))) | ((with_reducible refine leaf_67 HLF.out FB9.out FD9.out ?_ ?_ ?_ ?_ ?_); all_goals (first | omega | (simp only [World.size_alloc]; omega) | (have z1 := HW8.out.size; omega) | (have z1 := HW8.out.size; simp only [World.size_alloc]; omega))) | ((with_reducible refine leaf_67 HLF.out FC9.out FA9.out ?_ ?_ ?_ ?_ ?_); all_goals (first | omega | (simp only [World.size_alloc]; omega) | (have z1 := HW8.out.size; omega) | (have z1 := HW8.out.size; simp only [World.size_alloc]; omega))) | ((with_reducible refine leaf_67 HLF.out FC9.out FB9.out ?_ ?_ ?_ ?_ ?_); all_goals (first | omega | (simp only [World.size_alloc]; omega) | (have z1 := HW8.out.size; omega) | (have z1 := HW8.out.size; simp only [World.size_alloc]; omega))) | ((with_reducible refine leaf_67 HLF.out FC9.out FD9.out ?_ ?_ ?_ ?_ ?_); all_goals (first | omega | (simp only [World.size_alloc]; omega) | (have z1 := HW8.out.size; omega) | (have z1 := HW8.out.size; simp only [World.size_alloc]; omega))) | ((with_reducible refine leaf_67 HLF.out FD9.out FA9.out ?_ ?_ ?_ ?_ ?_); all_goals (first | omega | (simp only [World.size_alloc]; omega) | (have z1 := HW8.out.size; omega) | (have z1 := HW8.out.size; simp only [World.size_alloc]; omega))) | ((with_reducible refine leaf_67 HLF.out FD9.out FB9.out ?_ ?_ ?_ ?_ ?_); all_goals (first | omega | (simp only [World.size_alloc]; omega) | (have z1 := HW8.out.size; omega) | (have z1 := HW8.out.size; simp only [World.size_alloc]; omega))) | ((with_reducible refine leaf_67 HLF.out FD9.out FC9.out ?_ ?_ ?_ ?_ ?_); all_goals (first | omega | (simp only [World.size_alloc]; omega) | (have z1 := HW8.out.size; omega) | (have z1 := HW8.out.size; simp only [World.size_alloc]; omega)))
    case rest =>
      obtain ⟨g6, g7, m5, a5, n5, p5, m6, a6, n6, p6, rfl, rfl, hr⟩ := hcut
      have d0 := hr.out.b6.c0
      have d1 := hr.out.b6.c1
      have HRR := Lib.hid hr.out.quo
      have HWX := Lib.hid hr.out.bel
      clear hr u0 u1 u2 u3
      go_wp2_with ((go_at_call 61; (with_reducible refine (ref_told_nil HRR.out).mono ?_); rintro e w10 ⟨rfl, hb10⟩; have HC10 := Lib.hid (below_join hb10 HWX.out); clear hb10))
      exact bodyPost_ret (v := .tuple #[.string (toldS (x / ((2 ^ k : Nat) : Int))), .int .i64 (toldE (x / ((2 ^ k : Nat) : Int)))]) (by simp [results, Tryd.results46, go_sem]) rfl (HFIN.out _ _ (by rw [HSZ.out]) (by rw [HSZ.out]) _ ((HB2.out.trans (HB3.out.mono HB2.out.size)).trans (HC10.out.mono (Nat.le_trans HB2.out.size HB3.out.size))))
end Go.Proofs.YtkpoegdcmnjedaaDoor
