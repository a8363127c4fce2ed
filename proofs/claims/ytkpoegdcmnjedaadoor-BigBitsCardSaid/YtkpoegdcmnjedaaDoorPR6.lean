import Derived.Test.YtkpoegdcmnjedaaDoorPR4a
import Derived.Test.YtkpoegdcmnjedaaDoorPR7
import Derived.Deep.CutRange
namespace Go.Proofs.YtkpoegdcmnjedaaDoor
open Go.RowKit
set_option linter.unusedVariables false
set_option linter.unusedSimpArgs false

/-! ### bits -/
theorem Box2.kept {g : Nat} {x0 x1 : Value} {W W' : World} {row : Option Nat} (h : Box2 g x0 x1 W) (hg : W.grownBy W' row) (hne : some g ≠ row) : Box2 g x0 x1 W' := by
  have hlt : g < W.heap.size := World.block_lt_of_cell? W ⟨g, 0, none⟩ h.c0
  exact ⟨hg.cell h.c0 hne, hg.cell h.c1 hne, (World.frozen?_of_block (hg.block g hlt hne)).trans h.f0, (World.frozen?_of_block (hg.block g hlt hne)).trans h.f1⟩
theorem Qn.kept {B : Nat} {W W' : World} {v : Value} {x : Int} {row : Option Nat} (h : Qn B W v x) (hg : W.grownBy W' row) (hne : ∀ g, B ≤ g → some g ≠ row) : Qn B W' v x := by
  obtain ⟨ao, n, cap, e, hN⟩ := h
  refine ⟨ao, n, cap, e, World.ownsRow.kept hN hg ?_⟩
  cases e3 : (Value.slice ao n cap).ownBlock with
  | none => exact Or.inl rfl
  | some k => exact Or.inr (hne k (hN.lt k e3).1)
theorem Bo.set {B : Nat} {W : World} {v : Value} {l : List Bool} (h : Bo B W v l) {b : Nat} (hb : b < B) (j : Nat) (u : Value) : Bo B (W.setCell ⟨b, j, none⟩ u) v l := by
  refine World.ownsRow.kept h (grownBy_setCell W b j u) ?_
  cases e : v.ownBlock with
  | none => exact Or.inl rfl
  | some k => exact Or.inr fun e2 => by have := (World.ownsRow.lt h k e).1; cases e2; omega
theorem div_two_succ (x : Int) (k : Nat) : x / ((2 ^ k : Nat) : Int) / 2 = x / ((2 ^ (k + 1) : Nat) : Int) := by
  rw [Nat.pow_succ, Int.natCast_mul, Int.ediv_ediv_of_nonneg (Int.natCast_nonneg _)]; rfl
theorem bitsL_succ (x : Int) (k : Nat) : bitsL x (k + 1) = bitsL x k ++ [tbZ x k] := by
  unfold bitsL; rw [List.range_succ, List.map_append]; rfl
theorem wpList_appBk {ops : Array Oper} {rest : List Oper} {o : Oper} {a : Act} {Q : Exit → Act → World → Prop} (hgd : o.guard = none) (s x : Operand)
    (ho : o.op = .call { callee := .builtin .append, args := #[s, x], argTypes := #[115, 115] }) (β : Nat) (V : World) (d : Bool)
    (v : Value) (l : List Bool) (hs : a.eval s = v) (hx : a.eval x = .slice (some ⟨V.heap.size, 0, none⟩) 1 1) (hm : Bo β V v l) (hβ : β ≤ V.heap.size) (hn : l.length ≤ 1000000000)
    (h : ∀ v' w', Below β V w' → V.grownBy w' v.ownBlock → Bo β w' v' (l ++ [d]) → wpList Tryd.prog ops Q rest (a.put o.dst v') w') :
    wpList Tryd.prog ops Q (o :: rest) a (V.alloc (Obj.cells #[.bool d] 4)) := by
  refine wpList_app1 hgd s x 115 4 _ 1 Tryd.underlying115 info4 rfl (by decide) ho β V _ rfl v l.length (Bools l) hs hx hm hβ hn ?_
  intro v' w' hb hown hk
  refine h v' w' hb ⟨hb.os, hb.tape, hb.output, hb.size, fun k hlt hne => ?_⟩ ?_
  · rw [hk k _ (Array.getElem?_eq_getElem hlt) hne, Array.getElem?_eq_getElem hlt]
  · unfold Bo
    rw [List.length_append]
    have e : Bools (l ++ [d]) = Bools l ++ [.bool d] := by simp [Bools]
    rw [e]
    exact hown
structure BiI (x : Int) (W wr : World) (k : Nat) (ov : Value) (m : Bool) (a : Option Addr) (nn p : Nat) : Prop where
  box : Box2 W.heap.size (.bool m) (.slice a nn p) wr
  num : Qn 0 wr (numR m (.slice a nn p)) (x / ((2 ^ k : Nat) : Int))
  row : Bo (W.heap.size + 1) wr ov (bitsL x k)
  bel : Below W.heap.size W wr
  lt : W.heap.size < wr.heap.size
theorem natAbs_div_le (x : Int) {p : Nat} (hp : 0 < p) : (x / (p : Int)).natAbs ≤ x.natAbs := by
  have h := down_floor (x := x) hp
  by_cases hx : x < 0
  · rw [if_pos hx] at h
    rw [h, Int.natAbs_neg, Int.natAbs_natCast]
    by_cases h0 : x.natAbs % p = 0
    · rw [if_pos h0]; exact Nat.div_le_self _ _
    · rw [if_neg h0]
      have hp2 : p ≠ 1 := by rintro rfl; exact h0 (Nat.mod_one _)
      have := Nat.div_lt_self (show 0 < x.natAbs by omega) (show 1 < p by omega)
      omega
  · rw [if_neg hx] at h
    rw [h, Int.natAbs_natCast]; exact Nat.div_le_self _ _
set_option maxRecDepth 100000 in
set_option maxHeartbeats 8000000 in
theorem ref_bits_any : BitsH := by
  intro B v x W c h hx hc
  obtain ⟨m0, a0, n0, p0, rfl, _, _⟩ := h.view
  obtain ⟨V, hV, hbox, vb, vs⟩ := box2_new W (.bool m0) (.slice a0 n0 p0)
  have HV := Lib.hid hV
  have HVB := Lib.hid vb
  have HI0 : Hid (BiI x W V 0 (.slice none 0 0) m0 a0 n0 p0) := Lib.hid ⟨hbox, by rw [show ((2 ^ 0 : Nat) : Int) = 1 from rfl, Int.ediv_one]; exact (h.later vb (Nat.le_refl _)).mono (Nat.zero_le _), World.ownsRow_nil V _ 4 1, vb, by omega⟩
  clear h hV hbox vb vs
  go_enter Tryd.func126, Tryd.ntmps126
  go_upto_region 1 with (fail)
  rw [← HV.out]
  go_wp2
  go_loopw [5, 9] (fun ov iv wr => ∃ (k : Nat) (m : Bool) (a : Option Addr) (nn p : Nat), iv = .int .i64 k ∧ k ≤ c ∧ Hid (BiI x W wr k ov m a nn p)) (fun _ iv _ => c - (intOf iv).toNat)
  case atStart => exact ⟨0, _, _, _, _, rfl, Nat.zero_le _, HI0⟩
  case round =>
    obtain ⟨k, m, a, nn, p, rfl, hk, hi⟩ := hrel
    obtain ⟨ao7, n7, cap7, rfl⟩ := hi.out.row.slice3
    by_cases hlt : k < c
    · have HBX := Lib.hid hi.out.box
      have HNA : Hid (nt (x / ((2 ^ k : Nat) : Int)).natAbs ≤ 400000) := Lib.hid (Nat.le_trans (nt_mono (natAbs_div_le x (Nat.pow_pos (by decide)))) (by omega))
      obtain ⟨y, HYV⟩ : ∃ y, Hid (x / ((2 ^ k : Nat) : Int) = y) := ⟨_, Lib.hid rfl⟩
      have HNUM : Hid (Qn 0 wr (numR m (.slice a nn p)) y) := Lib.hid (by rw [← HYV.out]; exact hi.out.num)
      rw [HYV.out] at HNA
      have HTW3 : Hid (∀ w', Below wr.heap.size wr w' → Calls Tryd.prog 85 #[.int .i64 2] w' fun e W' => ∃ m a n p, e = .returned (numR m (.slice a n p)) ∧ Qn 0 W' (numR m (.slice a n p)) 2 ∧ Below wr.heap.size wr W' ∧ Below w'.heap.size w' W') := Lib.hid fun w' hb => (ref_whole_any 2 w' (by decide) (by decide)).mono fun e W' ⟨⟨v, he, hq⟩, hb2⟩ => by
        obtain ⟨m, a, n, p, rfl, _, _⟩ := hq.view
        exact ⟨m, a, n, p, he, hq.mono (Nat.zero_le _), hb.trans (hb2.mono hb.size), hb2⟩
      have HDV3 : Hid (∀ (w' : World) (m2 : Bool) (a2 : Option Addr) (n2 p2 : Nat), Below wr.heap.size wr w' → Qn 0 w' (numR m2 (.slice a2 n2 p2)) 2 → Calls Tryd.prog 78 #[numR m (.slice a nn p), numR m2 (.slice a2 n2 p2)] w' fun e W' => ∃ m5 a5 n5 p5 m6 a6 n6 p6, e = .returned (.tuple #[numR m5 (.slice a5 n5 p5), numR m6 (.slice a6 n6 p6)]) ∧ Qn w'.heap.size W' (numR m5 (.slice a5 n5 p5)) (y / 2) ∧ Qn w'.heap.size W' (numR m6 (.slice a6 n6 p6)) (y % 2) ∧ Below wr.heap.size wr W' ∧ Below w'.heap.size w' W') := Lib.hid fun w' m2 a2 n2 p2 hb h2 => (ref_Divided_any (HNUM.out.later hb (Nat.le_refl _)) h2 HNA.out (by decide +kernel) (by decide)).mono fun e W' ⟨⟨v1, v2, he, hq1, hq2⟩, hb2⟩ => by
        obtain ⟨m5, a5, n5, p5, rfl, _, _⟩ := hq1.view
        obtain ⟨m6, a6, n6, p6, rfl, _, _⟩ := hq2.view
        exact ⟨m5, a5, n5, p5, m6, a6, n6, p6, he, hq1, hq2, hb.trans (hb2.mono hb.size), hb2⟩
      have hbx := HBX.out
      clear HNA HNUM hbx
      go_upto_region 4 with (fail)
      go_cut [6, 7] from 10 to 25 (fun q6 q7 wx => ∃ g6 g7 m5 a5 n5 p5 m6 a6 n6 p6, q6 = .pointer (some ⟨g6, 0, none⟩) ∧ q7 = .pointer (some ⟨g7, 0, none⟩) ∧ Hid (RdI (y / 2) (y % 2) wr wx g6 g7 m5 a5 n5 p5 m6 a6 n6 p6))
      case first =>
        go_region_held3 (fun w' => (w'.cell? ⟨W.heap.size, 0, none⟩ = some (.bool m) ∧ w'.cell? ⟨W.heap.size, 1, none⟩ = some (.slice a nn p))) (exact two_cells (HBX.out.after (by repeat (first | exact HW9.out | exact HW8.out | exact Below.refl _ _ | (refine Below.setCell ?_ (by first | exact Nat.le_refl _ | (simp; done) | omega | (have := HW9.out.size; simp; omega) | (have := HW8.out.size; simp; omega) | (have := HW9.out.size; have := HW8.out.size; simp; omega)) _) | (refine Below.alloc ?_ (by first | omega | (simp; done) | (have := HW9.out.size; simp; omega) | (have := HW8.out.size; simp; omega)) _) | refine Below.drew ?_)))) (first | (go_at_call 85; with_reducible refine (HTW3.out _ (by first | exact Below.drew (Below.refl _ _) | exact Below.drew ((Below.refl _ _).alloc (Nat.le_refl _) _) | exact Below.drew (((Below.refl _ _).alloc (Nat.le_refl _) _).alloc (by simp) _))).mono ?_; rintro e w8 ⟨m8, a8, n8, p8, rfl, hq8, hb8, hbw8⟩; have HQ8 := Lib.hid hq8; have HW8 := Lib.hid hb8; have HZ8 := Lib.hid hbw8.size; (try (have FA8 := Lib.hid ((bx_new wr).after (undrew hbw8)); obtain ⟨fa0, fa1, fa2, fa3⟩ := FA8.out; have FA8m : wr.heap.size < w8.heap.size := World.block_lt_of_cell? w8 _ fa0; have FA8n := Nat.ne_of_lt FA8m; have FA8o := Nat.ne_of_gt FA8m)); (try (have FB8 := Lib.hid ((bx_new2 wr).after (undrew hbw8)); have FA8 := Lib.hid (((bx_new wr).after ((Below.refl _ _).alloc (Nat.le_refl _) (Obj.cells #[Value.bool false, Value.slice none 0 0] 51))).after (undrew hbw8)); obtain ⟨fa0, fa1, fa2, fa3⟩ := FA8.out; obtain ⟨fb0, fb1, fb2, fb3⟩ := FB8.out; have FA8m : wr.heap.size < w8.heap.size := World.block_lt_of_cell? w8 _ fa0; have FB8m : wr.heap.size + 1 < w8.heap.size := World.block_lt_of_cell? w8 _ fb0; have FA8n := Nat.ne_of_lt FA8m; have FA8o := Nat.ne_of_gt FA8m; have FB8n := Nat.ne_of_lt FB8m; have FB8o := Nat.ne_of_gt FB8m)); clear hq8 hb8 hbw8) | (go_at_call 78; (first | (with_reducible refine (HDV3.out _ _ _ _ _ HW8.out HQ8.out).mono ?_) | (with_reducible refine (HDV3.out _ _ _ _ _ (HW8.out.alloc HW8.out.size _) (HQ8.out.later ((Below.refl _ _).alloc (Nat.le_refl _) _) (Nat.le_refl _))).mono ?_) | (with_reducible refine (HDV3.out _ _ _ _ _ ((HW8.out.alloc HW8.out.size _).alloc (by have := HW8.out.size; simp; omega) _) (HQ8.out.later (((Below.refl _ _).alloc (Nat.le_refl _) _).alloc (by simp) _) (Nat.le_refl _))).mono ?_)); rintro e w9 ⟨m5, a5, n5, p5, m6, a6, n6, p6, rfl, hq9, hr9, hb9, hbw9⟩; have HQ9 := Lib.hid hq9; have HR9 := Lib.hid hr9; have HW9 := Lib.hid hb9; have HZ9 := Lib.hid hbw9.size; have HX9 : Hid (Below w8.heap.size w8 w9) := Lib.hid (by first | exact hbw9 | exact ((Below.refl _ _).alloc (Nat.le_refl _) _).trans (hbw9.mono (by simp)) | exact (((Below.refl _ _).alloc (Nat.le_refl _) _).alloc (by simp) _).trans (hbw9.mono (by simp; omega))); (try (have FA9 := Lib.hid (FA8.out.after HX9.out); obtain ⟨ga0, ga1, ga2, ga3⟩ := FA9.out)); (try (have FB9 := Lib.hid (FB8.out.after HX9.out); obtain ⟨gb0, gb1, gb2, gb3⟩ := FB9.out)); (try (have FC9 := Lib.hid ((bx_new w8).after hbw9); obtain ⟨gc0, gc1, gc2, gc3⟩ := FC9.out)); (try (have FD9 := Lib.hid ((bx_new2 w8).after hbw9); have FC9 := Lib.hid (((bx_new w8).after ((Below.refl _ _).alloc (Nat.le_refl _) (Obj.cells #[Value.bool false, Value.slice none 0 0] 51))).after hbw9); obtain ⟨gc0, gc1, gc2, gc3⟩ := FC9.out; obtain ⟨gd0, gd1, gd2, gd3⟩ := FD9.out)); (try (have FA9p := Lib.hid (FA9.out.after ((Below.refl _ _).alloc (Nat.le_refl _) (Obj.cells #[Value.bool false, Value.slice none 0 0] 51))); have FA9l : Hid _ := Lib.hid (World.block_lt_of_cell? w9 _ FA9.out.c0); have FA9m := FA9l.out; have FA9n := Nat.ne_of_lt FA9l.out; have FA9o := Nat.ne_of_gt FA9l.out; obtain ⟨pa0, pa1, pa2, pa3⟩ := FA9p.out)); (try (have FB9p := Lib.hid (FB9.out.after ((Below.refl _ _).alloc (Nat.le_refl _) (Obj.cells #[Value.bool false, Value.slice none 0 0] 51))); have FB9l : Hid _ := Lib.hid (World.block_lt_of_cell? w9 _ FB9.out.c0); have FB9m := FB9l.out; have FB9n := Nat.ne_of_lt FB9l.out; have FB9o := Nat.ne_of_gt FB9l.out; obtain ⟨pb0, pb1, pb2, pb3⟩ := FB9p.out)); (try (have FC9p := Lib.hid (FC9.out.after ((Below.refl _ _).alloc (Nat.le_refl _) (Obj.cells #[Value.bool false, Value.slice none 0 0] 51))); have FC9l : Hid _ := Lib.hid (World.block_lt_of_cell? w9 _ FC9.out.c0); have FC9m := FC9l.out; have FC9n := Nat.ne_of_lt FC9l.out; have FC9o := Nat.ne_of_gt FC9l.out; obtain ⟨pc0, pc1, pc2, pc3⟩ := FC9p.out)); have HLF : Hid (Lf (y / 2) (y % 2) wr _ m5 a5 n5 p5 m6 a6 n6 p6 w9) := Lib.hid ⟨hq9, hr9, hb9, by first | exact HW8.out.size | (have z1 := HW8.out.size; simp only [World.size_alloc]; omega), hbw9.size⟩; clear hq9 hr9 hb9 hbw9))
        all_goals
          go_wp2
          go_meet
          refine ⟨_, _, m5, a5, n5, p5, m6, a6, n6, p6, rfl, rfl, Lib.hid ?_⟩
          first | (with_reducible exact leaf_nn HLF.out) | (with_reducible exact leaf_nn' HLF.out) | ((with_reducible refine leaf_s6 HLF.out FA9.out ?_ ?_); all_goals (first | omega | (simp only [World.size_alloc]; omega) | (have z1 := HW8.out.size; omega) | (have z1 := HW8.out.size; simp only [World.size_alloc]; omega))) | ((with_reducible refine leaf_s6 HLF.out FB9.out ?_ ?_); all_goals (first | omega | (simp only [World.size_alloc]; omega) | (have z1 := HW8.out.size; omega) | (have z1 := HW8.out.size; simp only [World.size_alloc]; omega))) | ((with_reducible refine leaf_s6 HLF.out FC9.out ?_ ?_); all_goals (first | omega | (simp only [World.size_alloc]; omega) | (have z1 := HW8.out.size; omega) | (have z1 := HW8.out.size; simp only [World.size_alloc]; omega))) | ((with_reducible refine leaf_s6 HLF.out FD9.out ?_ ?_); all_goals (first | omega | (simp only [World.size_alloc]; omega) | (have z1 := HW8.out.size; omega) | (have z1 := HW8.out.size; simp only [World.size_alloc]; omega))) | ((with_reducible refine leaf_s7 HLF.out FA9.out ?_ ?_); all_goals (first | omega | (simp only [World.size_alloc]; omega) | (have z1 := HW8.out.size; omega) | (have z1 := HW8.out.size; simp only [World.size_alloc]; omega))) | ((with_reducible refine leaf_s7 HLF.out FB9.out ?_ ?_); all_goals (first | omega | (simp only [World.size_alloc]; omega) | (have z1 := HW8.out.size; omega) | (have z1 := HW8.out.size; simp only [World.size_alloc]; omega))) | ((with_reducible refine leaf_s7 HLF.out FC9.out ?_ ?_); all_goals (first | omega | (simp only [World.size_alloc]; omega) | (have z1 := HW8.out.size; omega) | (have z1 := HW8.out.size; simp only [World.size_alloc]; omega))) | ((with_reducible refine leaf_s7 HLF.out FD9.out ?_ ?_); all_goals (first | omega | (simp only [World.size_alloc]; omega) | (have z1 := HW8.out.size; omega) | (have z1 := HW8.out.size; simp only [World.size_alloc]; omega))) | ((with_reducible refine leaf_67 HLF.out FA9.out FB9.out ?_ ?_ ?_ ?_ ?_); all_goals (first | omega | (simp only [World.size_alloc]; omega) | (have z1 := HW8.out.size; omega) | (have z1 := HW8.out.size; simp only [World.size_alloc]; omega))) | ((with_reducible refine leaf_67 HLF.out FA9.out FC9.out ?_ ?_ ?_ ?_ ?_); all_goals (first | omega | (simp only [World.size_alloc]; omega) | (have z1 := HW8.out.size; omega) | (have z1 := HW8.out.size; simp only [World.size_alloc]; omega))) | ((with_reducible refine leaf_67 HLF.out FA9.out FD9.out ?_ ?_ ?_ ?_ ?_); all_goals (first | omega | (simp only [World.size_alloc]; omega) | (have z1 := HW8.out.size; omega) | (have z1 := HW8.out.size; simp only [World.size_alloc]; omega))) | ((with_reducible refine leaf_67 HLF.out FB9.out FA9.out ?_ ?_ ?_ ?_ ?_); all_goals (first | omega | (simp only [World.size_alloc]; omega) | (have z1 := HW8.out.size; omega) | (have z1 := HW8.out.size; simp only [World.size_alloc]; omega))) | ((with_reducible refine leaf_67 HLF.out FB9.out FC9.out ?_ ?_ ?_ ?_ ?_); all_goals (first | omega | (simp only [World.size_alloc]; omega) | (have z1 := HW8.out.size; omega) | (have z1 := HW8.out.size; simp only [World.size_alloc]; omega))) | ((with_reducible refine leaf_67 HLF.out FB9.out FD9.out ?_ ?_ ?_ ?_ ?_); all_goals (first | omega | (simp only [World.size_alloc]; omega) | (have z1 := HW8.out.size; omega) | (have z1 := HW8.out.size; simp only [World.size_alloc]; omega))) | ((with_reducible refine leaf_67 HLF.out FC9.out FA9.out ?_ ?_ ?_ ?_ ?_); all_goals (first | omega | (simp only [World.size_alloc]; omega) | (have z1 := HW8.out.size; omega) | (have z1 := HW8.out.size; simp only [World.size_alloc]; omega))) | ((with_reducible refine leaf_67 HLF.out FC9.out FB9.out ?_ ?_ ?_ ?_ ?_); all_goals (first | omega | (simp only [World.size_alloc]; omega) | (have z1 := HW8.out.size; omega) | (have z1 := HW8.out.size; simp only [World.size_alloc]; omega))) | ((with_reducible refine leaf_67 HLF.out FC9.out FD9.out ?_ ?_ ?_ ?_ ?_); all_goals (first | omega | (simp only [World.size_alloc]; omega) | (have z1 := HW8.out.size; omega) | (have z1 := HW8.out.size; simp only [World.size_alloc]; omega))) | ((with_reducible refine leaf_67 HLF.out FD9.out FA9.out ?_ ?_ ?_ ?_ ?_); all_goals (first | omega | (simp only [World.size_alloc]; omega) | (have z1 := HW8.out.size; omega) | (have z1 := HW8.out.size; simp only [World.size_alloc]; omega))) | ((with_reducible refine leaf_67 HLF.out FD9.out FB9.out ?_ ?_ ?_ ?_ ?_); all_goals (first | omega | (simp only [World.size_alloc]; omega) | (have z1 := HW8.out.size; omega) | (have z1 := HW8.out.size; simp only [World.size_alloc]; omega))) | ((with_reducible refine leaf_67 HLF.out FD9.out FC9.out ?_ ?_ ?_ ?_ ?_); all_goals (first | omega | (simp only [World.size_alloc]; omega) | (have z1 := HW8.out.size; omega) | (have z1 := HW8.out.size; simp only [World.size_alloc]; omega)))
      case rest =>
        obtain ⟨g6, g7, m5, a5, n5, p5, m6, a6, n6, p6, rfl, rfl, hr⟩ := hcut
        have hn6 : n6 = nt (y % 2).natAbs := by
          obtain ⟨_, _, _, _, e', _, _, _, h5⟩ := hr.out.rem.parts
          simp only [numR, Value.agg.injEq, Array.mk.injEq, List.cons.injEq, Value.slice.injEq] at e'
          rw [e'.2.1.2.1]; exact h5
        have HST : Hid (∀ c : Bool, c = decide (0 < n6) → bitsL x k ++ [c] = bitsL x (k + 1)) := Lib.hid (by
          intro c hc
          rw [bitsL_succ, hc]
          unfold tbZ
          rw [HYV.out, hn6]
          by_cases h0 : y % 2 = 0
          · rw [h0]
            have : nt (Int.natAbs 0) = 0 := nt_zero
            rw [this]; rfl
          · have : 0 < nt (y % 2).natAbs := by
              rcases Nat.eq_zero_or_pos (nt (y % 2).natAbs) with h | h
              · have := nt_eq_zero h; omega
              · exact h
            rw [decide_eq_true this, decide_eq_true h0])
        have HND : Hid (y / 2 = x / ((2 ^ (k + 1) : Nat) : Int)) := Lib.hid (by rw [← HYV.out]; exact div_two_succ x k)
        have HBC := Lib.hid hi.out.bel
        have HRW := Lib.hid (hi.out.row.later hr.out.bel (Nat.le_refl _))
        have HBXC := Lib.hid (HBX.out.after hr.out.bel)
        have HSZ : Hid (W.heap.size < wr.heap.size ∧ wr.heap.size ≤ wc.heap.size) := Lib.hid ⟨hi.out.lt, hr.out.bel.size⟩
        have HLB : Hid ((bitsL x k).length ≤ 1000000000) := Lib.hid (by rw [bitsL_length]; omega)
        have HLR : Hid (W.heap.size + 1 ≤ wc.heap.size) := Lib.hid (by have := HSZ.out; omega)
        have HWB : Hid (∀ g, wr.heap.size ≤ g → some g ≠ (Value.slice ao7 n7 cap7).ownBlock) := Lib.hid fun g hg e => by have := (World.ownsRow.lt hi.out.row g e.symm).2; omega
        have HWO : Hid (some W.heap.size ≠ (Value.slice ao7 n7 cap7).ownBlock) := Lib.hid fun e => by have := (World.ownsRow.lt hi.out.row _ e.symm).1; omega
        have d1 := hr.out.b7.c1
        clear hn6
        go_wp2_with (at_builtin; go_loud (refine wpList_appBk rfl _ _ rfl (W.heap.size + 1) wc _ (.slice ao7 n7 cap7) (bitsL x k) rfl rfl HRW.out HLR.out HLB.out ?_; intro v' w' hb' hg' hm'; have HM := Lib.hid hm'; have HG := Lib.hid hg'; have HB6 := Lib.hid (hr.out.b6.kept hg' (HWB.out g6 hr.out.h6)); have HBK := Lib.hid (HBXC.out.kept hg' HWO.out); obtain ⟨c60, c61, -, -⟩ := HB6.out; obtain ⟨k20, k21, k22, k23⟩ := HBK.out; clear hm' hb' hg'))
        go_roundw
        case rel =>
          refine ⟨k + 1, m5, a5, n5, p5, by go_num, by omega, Lib.hid ⟨HBK.out.two _ _, ?_, ?_, ?_, ?_⟩⟩
          · rw [← HND.out]
            exact (((hr.out.quo.kept HG.out HWB.out).set HSZ.out.1 _ _).set HSZ.out.1 _ _).mono (Nat.zero_le _)
          · rw [← HST.out _ rfl]
            exact (HM.out.set (Nat.lt_succ_self _) _ _).set (Nat.lt_succ_self _) _ _
          · have hz := HSZ.out
            exact (((HBC.out.trans (hr.out.bel.mono (by omega))).grown HG.out (by omega) (fun q e => by have := (World.ownsRow.lt hi.out.row q e).1; omega)).setCell (Nat.le_refl _) _).setCell (Nat.le_refl _) _
          · rw [set_size, set_size]
            have hz := HSZ.out
            have := HG.out.size
            omega
        case measure => simp [intOf]; omega
    · obtain rfl : k = c := by omega
      go_wp2
      go_ret
      exact ⟨⟨_, rfl, hi.out.row.mono (Nat.le_succ _)⟩, hi.out.bel⟩
end Go.Proofs.YtkpoegdcmnjedaaDoor
