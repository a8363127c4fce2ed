import Derived.Test.YtkpoegdcmnjedaaDoorSC3
import Derived.Test.YtkpoegdcmnjedaaDoorRJ2
import Derived.Test.YtkpoegdcmnjedaaDoorMJ1
import Derived.Test.YtkpoegdcmnjedaaDoorPA2
import Derived.Test.YtkpoegdcmnjedaaDoorRF7
namespace Go.Proofs.YtkpoegdcmnjedaaDoor
open Go.RowKit
set_option linter.unusedVariables false
set_option linter.unusedSimpArgs false

theorem mul_c60 {x y : Int} (hx : x.natAbs < C60) (hy : y.natAbs ≤ 8 * C60) : (x * y).natAbs < Lim := by
  rw [Int.natAbs_mul]
  exact Nat.lt_of_le_of_lt (Nat.mul_le_mul (Nat.le_of_lt hx) hy) c60_2
theorem good_of {s : ByteArray} (h : (validB s && decide (s.size ≤ 60)) = true) : Nu s (valT s) ∧ (valT s).natAbs < C60 := by
  rw [Bool.and_eq_true, decide_eq_true_eq] at h
  obtain ⟨h1, h2⟩ := h
  obtain ⟨h3, h4⟩ := validB_iff.1 h1
  have h5 := natT_small h3 h2
  exact ⟨⟨h3, rfl, by rw [valT_abs]; exact h4, by omega⟩, by rw [valT_abs]; exact h5⟩
set_option maxRecDepth 100000 in
set_option maxHeartbeats 8000000 in
theorem bigRing_any (a b c : ByteArray) (W : World) (ha : a.size ≤ 2000000) (hb : b.size ≤ 2000000) (hc : c.size ≤ 2000000) :
    Calls Tryd.prog 8 #[.string a, .string b, .string c] W fun e W' => e = .returned (.bool true) ∧ Below W.heap.size W W' := by
  obtain ⟨V, hV⟩ : ∃ V, V = W.alloc (Obj.cells #[.string a, .string b, .string c] 9) := ⟨_, rfl⟩
  have hv0 : V.heap[W.heap.size]? = some (.cells #[.string a, .string b, .string c] 9 (0, 0)) := by rw [hV]; exact heap_alloc_new W _
  have hT : Txs W.heap.size [a, b, c] V := ⟨by rw [hV]; simp, fun i hi => by
    have : i = 0 ∨ i = 1 ∨ i = 2 := by have h : i < 3 := hi; omega
    rcases this with rfl | rfl | rfl <;> exact (cell_of_row _ _ _ _ _ _ hv0).trans rfl⟩
  have hR := right_any W.heap.size 3 [a, b, c] V hT (by show 3 ≤ 1000; decide) (fun s hs => by
    simp only [List.mem_cons, List.not_mem_nil, or_false] at hs
    rcases hs with rfl | rfl | rfl <;> assumption)
  obtain ⟨r, HRB⟩ : ∃ r, Hid (rightB [a, b, c] = r) := ⟨_, Lib.hid rfl⟩
  rw [HRB.out] at hR
  have HR : Hid (Calls Tryd.prog 57 #[.slice (some ⟨W.heap.size, 0, none⟩) 3 3] V fun e W' => e = .returned (.bool r) ∧ Below V.heap.size V W') := Lib.hid hR
  have HVB : Hid (Below W.heap.size W V) := Lib.hid (by rw [hV]; exact (Below.refl _ _).alloc (Nat.le_refl _) _)
  have HAW : Hid (∀ w, Calls Tryd.prog 12 #[] w fun e W' => e = .returned (.bool true) ∧ Below w.heap.size w W') := Lib.hid fun w => awake_any w
  clear hR hT hv0
  cases r
  · go_enter Tryd.func8, Tryd.ntmps8
    go_wp2_with fail
    rw [← hV]
    clear hV
    refine HR.out.mono ?_
    rintro e w2 ⟨rfl, hb2⟩
    have HB2 := Lib.hid (HVB.out.trans (hb2.mono HVB.out.size))
    clear hb2
    go_wp2_with (go_at_call 12; refine (HAW.out _).mono ?_; rintro e w3 ⟨rfl, hb3⟩; have HB3 := Lib.hid hb3; clear hb3)
    go_ret
    exact ⟨rfl, HB2.out.trans (HB3.out.mono HB2.out.size)⟩
  · have hall := HRB.out
    unfold rightB at hall
    rw [List.all_eq_true] at hall
    have ga := good_of (hall a (by simp))
    have gb := good_of (hall b (by simp))
    have gc := good_of (hall c (by simp))
    clear hall
    obtain ⟨x, hx⟩ : ∃ x, valT a = x := ⟨_, rfl⟩
    obtain ⟨y, hy⟩ : ∃ y, valT b = y := ⟨_, rfl⟩
    obtain ⟨z, hz⟩ : ∃ z, valT c = z := ⟨_, rfl⟩
    rw [hx] at ga
    rw [hy] at gb
    rw [hz] at gc
    obtain ⟨na, xa⟩ := ga
    obtain ⟨nb, xb⟩ := gb
    obtain ⟨nc, xc⟩ := gc
    clear hx hy hz
    have c1 := c60_1
    have lab : (x + y).natAbs < Lim := by omega
    have lbc : (y + z).natAbs < Lim := by omega
    have l3 : (x + y + z).natAbs < Lim := by omega
    have nab := Nu.ren lab
    have nbc := Nu.ren lbc
    have lxy := mul_c60 xa (show y.natAbs ≤ 8 * C60 by omega)
    have lxz := mul_c60 xa (show z.natAbs ≤ 8 * C60 by omega)
    have lxs := mul_c60 xa (show (y + z).natAbs ≤ 8 * C60 by omega)
    have nxy := Nu.ren lxy
    have nxz := Nu.ren lxz
    have A1 := fun w => add_num na nb lab w
    have A2 := fun w => add_num nb na (by rw [Int.add_comm]; exact lab) w
    have A3 := fun w => add_num nb nc lbc w
    have A4 := fun w => add_num nab nc l3 w
    have A5 := fun w => add_num na nbc (by rw [← Int.add_assoc]; exact l3) w
    have A6 := fun w => sub_num nab nb (by rw [Int.add_sub_cancel]; exact na.lim) w
    have A7 := fun w => can_num na w
    have A8 := fun w => mul_num na nb lxy w
    have A9 := fun w => mul_num nb na (by rw [Int.mul_comm]; exact lxy) w
    have A10 := fun w => mul_num na nc lxz w
    have A11 := fun w => mul_num na nbc lxs w
    have A12 := fun w => add_num nxy nxz (by rw [← Int.mul_add]; exact lxs) w
    rw [Int.add_comm y x] at A2
    rw [← Int.add_assoc] at A5
    rw [Int.add_sub_cancel] at A6
    rw [Int.mul_comm y x] at A9
    rw [← Int.mul_add] at A12
    obtain ⟨t1, e1⟩ : ∃ t, ren (x + y) = t := ⟨_, rfl⟩
    obtain ⟨t2, e2⟩ : ∃ t, ren (y + z) = t := ⟨_, rfl⟩
    obtain ⟨t3, e3⟩ : ∃ t, ren (x + y + z) = t := ⟨_, rfl⟩
    obtain ⟨t4, e4⟩ : ∃ t, ren x = t := ⟨_, rfl⟩
    obtain ⟨t5, e5⟩ : ∃ t, ren (x * y) = t := ⟨_, rfl⟩
    obtain ⟨t6, e6⟩ : ∃ t, ren (x * z) = t := ⟨_, rfl⟩
    obtain ⟨t7, e7⟩ : ∃ t, ren (x * (y + z)) = t := ⟨_, rfl⟩
    rw [e1] at A1 A2 A4 A6
    rw [e2] at A3 A5 A11
    rw [e3] at A4 A5
    rw [e4] at A6 A7
    rw [e5] at A8 A9 A12
    rw [e6] at A10 A12
    rw [e7] at A11 A12
    have A1 := Lib.hid A1; have A2 := Lib.hid A2; have A3 := Lib.hid A3; have A4 := Lib.hid A4; have A5 := Lib.hid A5; have A6 := Lib.hid A6
    have A7 := Lib.hid A7; have A8 := Lib.hid A8; have A9 := Lib.hid A9; have A10 := Lib.hid A10; have A11 := Lib.hid A11; have A12 := Lib.hid A12
    clear e1 e2 e3 e4 e5 e6 e7 lab lbc l3 lxy lxz lxs nab nbc nxy nxz na nb nc xa xb xc c1
    go_enter Tryd.func8, Tryd.ntmps8
    go_wp2_with fail
    rw [← hV]
    clear hV
    refine HR.out.mono ?_
    rintro e w2 ⟨rfl, hb2⟩
    have HB := Lib.hid (HVB.out.trans (hb2.mono HVB.out.size))
    clear hb2 HR HVB HRB
    go_wp2_with fail
    refine (A1.out _).mono ?_
    rintro e w3 ⟨rfl, hb⟩
    have HB1 := Lib.hid (HB.out.trans (hb.mono HB.out.size))
    clear hb HB
    go_wp2_with fail
    refine (A2.out _).mono ?_
    rintro e w4 ⟨rfl, hb⟩
    have HB2 := Lib.hid (HB1.out.trans (hb.mono HB1.out.size))
    clear hb HB1
    go_wp2_with fail
    refine (A3.out _).mono ?_
    rintro e w5 ⟨rfl, hb⟩
    have HB3 := Lib.hid (HB2.out.trans (hb.mono HB2.out.size))
    clear hb HB2
    go_wp2_with fail
    refine (A4.out _).mono ?_
    rintro e w6 ⟨rfl, hb⟩
    have HB4 := Lib.hid (HB3.out.trans (hb.mono HB3.out.size))
    clear hb HB3
    go_wp2_with fail
    refine (A5.out _).mono ?_
    rintro e w7 ⟨rfl, hb⟩
    have HB5 := Lib.hid (HB4.out.trans (hb.mono HB4.out.size))
    clear hb HB4
    go_wp2_with fail
    refine (A6.out _).mono ?_
    rintro e w8 ⟨rfl, hb⟩
    have HB6 := Lib.hid (HB5.out.trans (hb.mono HB5.out.size))
    clear hb HB5
    go_wp2_with fail
    refine (A7.out _).mono ?_
    rintro e w9 ⟨rfl, hb⟩
    have HB7 := Lib.hid (HB6.out.trans (hb.mono HB6.out.size))
    clear hb HB6
    go_wp2_with fail
    refine (A8.out _).mono ?_
    rintro e w10 ⟨rfl, hb⟩
    have HB8 := Lib.hid (HB7.out.trans (hb.mono HB7.out.size))
    clear hb HB7
    go_wp2_with fail
    refine (A9.out _).mono ?_
    rintro e w11 ⟨rfl, hb⟩
    have HB9 := Lib.hid (HB8.out.trans (hb.mono HB8.out.size))
    clear hb HB8
    go_wp2_with fail
    refine (A10.out _).mono ?_
    rintro e w12 ⟨rfl, hb⟩
    have HB10 := Lib.hid (HB9.out.trans (hb.mono HB9.out.size))
    clear hb HB9
    go_wp2_with fail
    refine (A11.out _).mono ?_
    rintro e w13 ⟨rfl, hb⟩
    have HB11 := Lib.hid (HB10.out.trans (hb.mono HB10.out.size))
    clear hb HB10
    go_wp2_with fail
    refine (A12.out _).mono ?_
    rintro e w14 ⟨rfl, hb⟩
    have HB12 := Lib.hid (HB11.out.trans (hb.mono HB11.out.size))
    clear hb HB11
    go_wp2_with fail
    refine (HAW.out _).mono ?_
    rintro e w20 ⟨rfl, hb⟩
    have HB20 := Lib.hid (HB12.out.trans (hb.mono HB12.out.size))
    clear hb
    go_wp2
    go_ret
    exact ⟨rfl, HB20.out⟩
end Go.Proofs.YtkpoegdcmnjedaaDoor
namespace Go.Proofs.YtkpoegdcmnjedaaDoor
open Go.RowKit
set_option linter.unusedVariables false
set_option linter.unusedSimpArgs false

/-! ### BigDivides: what each call tells of numbers -/
def fq (x y : Int) : Int := if 0 < y then x / y else (-x) / (-y)
def fr (x y : Int) : Int := if 0 < y then x % y else -((-x) % (-y))
theorem fq_divP {x y : Int} (hy : y ≠ 0) : DivP x y (fq x y) (fr x y) := by
  unfold fq fr
  by_cases h : 0 < y
  · rw [if_pos h, if_pos h]
    exact ⟨(Int.mul_ediv_add_emod x y).symm, fun _ => ⟨Int.emod_nonneg _ hy, Int.emod_lt_of_pos _ h⟩, fun h2 => by omega⟩
  · rw [if_neg h, if_neg h]
    have h1 := Int.mul_ediv_add_emod (-x) (-y)
    have h2 := Int.emod_nonneg (-x) (show -y ≠ 0 by omega)
    have h3 := Int.emod_lt_of_pos (-x) (show 0 < -y by omega)
    refine ⟨?_, fun h4 => absurd h4 h, fun _ => ⟨by omega, by omega⟩⟩
    rw [Int.neg_mul] at h1
    generalize y * (-x / -y) = z at *
    omega
theorem divP_unique {x y q r q' r' : Int} (hy : y ≠ 0) (h : DivP x y q r) (k : DivP x y q' r') : q = q' ∧ r = r' := by
  have key : ∀ (y q r q' r' : Int), 0 < y → y * q + r = y * q' + r' → 0 ≤ r → r < y → 0 ≤ r' → r' < y → q = q' := by
    intro y q r q' r' hy e h1 h2 h3 h4
    rcases Int.lt_trichotomy q q' with c | c | c
    · have := Int.mul_le_mul_of_nonneg_left (show q + 1 ≤ q' by omega) (Int.le_of_lt hy)
      rw [Int.mul_add, Int.mul_one] at this
      generalize y * q = z at *
      generalize y * q' = z' at *
      omega
    · exact c
    · have := Int.mul_le_mul_of_nonneg_left (show q' + 1 ≤ q by omega) (Int.le_of_lt hy)
      rw [Int.mul_add, Int.mul_one] at this
      generalize y * q = z at *
      generalize y * q' = z' at *
      omega
  have e := h.eq.symm.trans k.eq
  have hq : q = q' := by
    rcases Int.lt_or_gt_of_ne hy with c | c
    · have h1 := h.hi c
      have h2 := k.hi c
      refine key (-y) q (-r) q' (-r') (by omega) ?_ (by omega) (by omega) (by omega) (by omega)
      rw [Int.neg_mul, Int.neg_mul]
      generalize y * q = z at *
      generalize y * q' = z' at *
      omega
    · have h1 := h.lo c
      have h2 := k.lo c
      exact key y q r q' r' c e h1.1 h1.2 h2.1 h2.2
  refine ⟨hq, ?_⟩
  rw [hq] at e
  omega
theorem shift_num {a : ByteArray} {x : Int} (ha : Nu a x) (n : Int) (h0 : -100000 ≤ n) (h1 : n ≤ 100000) (h : (shZ x n).natAbs < Lim) (W : World) :
    Calls Tryd.prog 45 #[.string a, .int .i64 n] W fun e W' => e = .returned (.tuple #[.string (ren (shZ x n)), .int .i64 0]) ∧ Below W.heap.size W W' := by
  refine (shift_any a n W ha.siz).mono ?_
  rintro e W' ⟨r, er, rfl, hh, hb2⟩
  refine ⟨?_, hb2⟩
  have hn := ha.nat
  rcases hh with ⟨h3, _⟩ | ⟨_, h3, _⟩ | ⟨_, _, h3, _⟩ | ⟨_, _, _, hr, he⟩
  · exact absurd ha.num h3
  · omega
  · omega
  · rw [ha.val] at hr he
    rw [hr, he, (told_small h).1, (told_small h).2]
theorem div_num {a b : ByteArray} {x y : Int} (ha : Nu a x) (hb : Nu b y) (hy : y ≠ 0) (W : World) :
    Calls Tryd.prog 25 #[.string a, .string b] W fun e W' => e = .returned (.tuple #[.string (ren (fq x y)), .string (ren (fr x y)), .int .i64 0]) ∧ Below W.heap.size W W' := by
  refine (div_any a b W ha.siz hb.siz (fun h1 h2 h3 => overH_any (by have := nd_lim h1; omega) (by have := nd_lim h2; omega) (Nat.pos_of_ne_zero h3))).mono ?_
  rintro e W' ⟨q, r, er, rfl, hh, hb2⟩
  refine ⟨?_, hb2⟩
  have h1 := ha.nat
  have h2 := hb.nat
  have h5 : natT b ≠ 0 := fun e => hy (by rw [← hb.val]; exact valT_zero.2 e)
  rcases hh with ⟨h3, _⟩ | ⟨_, h3, _⟩ | ⟨_, _, h3, _⟩ | ⟨_, _, _, _, ⟨q', r', hp, hq, hr⟩, he⟩
  · exact absurd ⟨ha.num, hb.num⟩ h3
  · exact absurd h3 h5
  · omega
  · rw [ha.val, hb.val] at hp
    obtain ⟨e1, e2⟩ := divP_unique hy hp (fq_divP hy)
    rw [hq, hr, he, e1, e2]
theorem div_num0 {a b : ByteArray} {x : Int} (ha : Nu a x) (hb : Nu b 0) (W : World) :
    Calls Tryd.prog 25 #[.string a, .string b] W fun e W' => e = .returned (.tuple #[.string ⟨#[]⟩, .string ⟨#[]⟩, .int .i64 10]) ∧ Below W.heap.size W W' := by
  refine (div_any a b W ha.siz hb.siz (fun h1 h2 h3 => overH_any (by have := nd_lim h1; omega) (by have := nd_lim h2; omega) (Nat.pos_of_ne_zero h3))).mono ?_
  rintro e W' ⟨q, r, er, rfl, hh, hb2⟩
  refine ⟨?_, hb2⟩
  have h5 : natT b = 0 := valT_zero.1 hb.val
  rcases hh with ⟨h3, _⟩ | ⟨_, _, hq, hr, he⟩ | ⟨_, h3, _⟩ | ⟨_, h3, _⟩
  · exact absurd ⟨ha.num, hb.num⟩ h3
  · rw [hq, hr, he]
  · exact absurd h5 h3
  · exact absurd h5 h3
theorem refdiv_num {a b : ByteArray} {x y : Int} (ha : Nu a x) (hb : Nu b y) (hy : 0 < y) (sa : a.size ≤ 400000) (sb : b.size ≤ 400000) (W : World) :
    Calls Tryd.prog 26 #[.string a, .string b] W fun e W' => e = .returned (.tuple #[.string (ren (x / y)), .string (ren (x % y)), .int .i64 0]) ∧ Below W.heap.size W W' := by
  have hnx : nt x.natAbs ≤ 400000 := Nat.le_trans (nt_lim'.2 ha.lim) (by decide)
  have hny : nt y.natAbs ≤ 400000 := Nat.le_trans (nt_lim'.2 hb.lim) (by decide)
  have hP : DivP x y (x / y) (x % y) := by
    have := fq_divP (x := x) (y := y) (by omega)
    unfold fq fr at this
    rwa [if_pos hy, if_pos hy] at this
  refine (ref_div_any a b W sa sb (fun _ _ _ => ⟨x / y, x % y, by rw [ha.val, hb.val]; exact hP, by rw [ha.val, hb.val]; exact dvH_pos hnx hny hy⟩)).mono ?_
  rintro e W' ⟨q, r, er, rfl, hh, hb2⟩
  refine ⟨?_, hb2⟩
  have h1 := ha.nat
  have h2 := hb.nat
  have h5 : natT b ≠ 0 := fun e => by have := valT_zero.2 e; rw [hb.val] at this; omega
  rcases hh with ⟨h3, _⟩ | ⟨_, h3, _⟩ | ⟨_, _, h3, _⟩ | ⟨_, _, _, _, ⟨q', r', hp, hq, hr⟩, he⟩
  · exact absurd ⟨ha.num, hb.num⟩ h3
  · exact absurd h3 h5
  · omega
  · rw [ha.val, hb.val] at hp
    obtain ⟨e1, e2⟩ := divP_unique (by omega) hp hP
    rw [hq, hr, he, e1, e2]
theorem abs_num {a : ByteArray} {x : Int} (ha : Nu a x) (W : World) :
    Calls Tryd.prog 33 #[.string a] W fun e W' => e = .returned (.tuple #[.string (ren ((x.natAbs : Nat) : Int)), .int .i64 0]) ∧ Below W.heap.size W W' := by
  refine (abs_any a W ha.siz).mono ?_
  rintro e W' ⟨r, er, rfl, hh, hb2⟩
  refine ⟨?_, hb2⟩
  have h1 := ha.nat
  have hl : (((x.natAbs : Nat) : Int)).natAbs < Lim := by rw [Int.natAbs_natCast]; exact ha.lim
  rcases hh with ⟨h3, _⟩ | ⟨_, h3, _⟩ | ⟨_, _, hr, he⟩
  · exact absurd ha.num h3
  · omega
  · rw [ha.val] at hr he
    rw [hr, he, (told_small hl).1, (told_small hl).2]
theorem sign_num {a : ByteArray} {x : Int} (ha : Nu a x) (sa : a.size ≤ 400000) (W : World) :
    Calls Tryd.prog 40 #[.string a] W fun e W' => e = .returned (.tuple #[.int .i64 (cmpZ x 0), .int .i64 0]) ∧ Below W.heap.size W W' := by
  refine (ref_sign_any a W sa).mono ?_
  rintro e W' ⟨r, er, rfl, hh, hb2⟩
  refine ⟨?_, hb2⟩
  have h1 := ha.nat
  rcases hh with ⟨h3, _⟩ | ⟨_, h3, _⟩ | ⟨_, _, hr, he⟩
  · exact absurd ha.num h3
  · omega
  · rw [ha.val] at hr
    rw [hr, he]
theorem cmp_num {a b : ByteArray} {x y : Int} (ha : Nu a x) (hb : Nu b y) (sa : a.size ≤ 400000) (sb : b.size ≤ 400000) (W : World) :
    Calls Tryd.prog 22 #[.string a, .string b] W fun e W' => e = .returned (.tuple #[.int .i64 (cmpZ x y), .int .i64 0]) ∧ Below W.heap.size W W' := by
  refine (ref_compare_any a b W sa sb).mono ?_
  rintro e W' ⟨r, er, rfl, hh, hb2⟩
  refine ⟨?_, hb2⟩
  have h1 := ha.nat
  have h2 := hb.nat
  rcases hh with ⟨h3, _⟩ | ⟨_, h3, _⟩ | ⟨_, _, _, hr, he⟩
  · exact absurd ⟨ha.num, hb.num⟩ h3
  · omega
  · rw [ha.val, hb.val] at hr
    rw [hr, he]
theorem gcd_num {a b : ByteArray} {x y : Int} (ha : Nu a x) (hb : Nu b y) (h : Nat.gcd x.natAbs y.natAbs < Lim) (W : World) :
    Calls Tryd.prog 29 #[.string a, .string b] W fun e W' => e = .returned (.tuple #[.string (ren ((Nat.gcd x.natAbs y.natAbs : Nat) : Int)), .int .i64 0]) ∧ Below W.heap.size W W' := by
  refine (gcd_any a b W ha.siz hb.siz).mono ?_
  rintro e W' ⟨r, er, rfl, hh, hb2⟩
  refine ⟨?_, hb2⟩
  have h1 := ha.nat
  have h2 := hb.nat
  have hl : (((Nat.gcd x.natAbs y.natAbs : Nat) : Int)).natAbs < Lim := by rw [Int.natAbs_natCast]; exact h
  rcases hh with ⟨h3, _⟩ | ⟨_, h3, _⟩ | ⟨_, _, _, hr, he⟩
  · exact absurd ⟨ha.num, hb.num⟩ h3
  · omega
  · rw [ha.val, hb.val] at hr he
    rw [hr, he, (told_small hl).1, (told_small hl).2]
end Go.Proofs.YtkpoegdcmnjedaaDoor
namespace Go.Proofs.YtkpoegdcmnjedaaDoor
open Go.RowKit
set_option linter.unusedVariables false
set_option linter.unusedSimpArgs false

/-! ### BigDivides -/
theorem ren_zero : ren 0 = ⟨#[48]⟩ := by unfold ren; decide +kernel
theorem shZ_back (x n : Int) (h : 0 ≤ n) : shZ (shZ x n) (-n) = x := by
  unfold shZ
  rw [if_pos h]
  by_cases h0 : n = 0
  · subst h0; simp
  · rw [if_neg (by omega), Int.neg_neg, Int.mul_ediv_cancel]
    have := Nat.pow_pos (n := n.toNat) (show 0 < 2 by decide)
    omega
theorem c60_300 : C60 * 2 ^ 300 < Lim := by unfold C60 Lim; decide +kernel
theorem c60_T : ∀ T : Nat, T = 300 → C60 * 2 ^ T < Lim := by rintro T rfl; exact c60_300
theorem c60_up {x n : Int} (hx : x.natAbs < C60) (h0 : 0 ≤ n) (h1 : n ≤ 300) : (shZ x n).natAbs < Lim := by
  unfold shZ
  rw [if_pos h0, Int.natAbs_mul, Int.natAbs_natCast]
  obtain ⟨T, hT⟩ : ∃ T : Nat, T = 300 := ⟨_, rfl⟩
  have h2 : 2 ^ n.toNat ≤ 2 ^ T := Nat.pow_le_pow_right (by decide) (by omega)
  have h3 : C60 * 2 ^ T < Lim := c60_T T hT
  exact Nat.lt_of_le_of_lt (Nat.mul_le_mul (Nat.le_of_lt hx) h2) h3
theorem cmpZ_sign {x y q r : Int} (hy : y ≠ 0) (h : DivP x y q r) : cmpZ r 0 = 0 ∨ cmpZ r 0 = cmpZ y 0 := by
  unfold cmpZ
  rcases Int.lt_or_gt_of_ne hy with c | c
  · have := h.hi c
    rcases Int.lt_or_eq_of_le this.2 with d | d
    · right; rw [if_pos d, if_pos c]
    · left; rw [d]; rfl
  · have := h.lo c
    rcases Int.lt_or_eq_of_le this.1 with d | d
    · right; rw [if_neg (by omega), if_pos d, if_neg (by omega), if_pos c]
    · left; rw [← d]; rfl
theorem cmpZ_ne {y : Int} (hy : y ≠ 0) : cmpZ y 0 ≠ 0 := by
  unfold cmpZ; (repeat' split) <;> omega
set_option maxRecDepth 100000 in
set_option maxHeartbeats 16000000 in
theorem bigDivides_any (a b : ByteArray) (n : Int) (W : World) (ha : a.size ≤ 2000000) (hb : b.size ≤ 2000000) :
    Calls Tryd.prog 9 #[.string a, .string b, .int .i64 n] W fun e W' => e = .returned (.bool true) ∧ Below W.heap.size W W' := by
  obtain ⟨V, hV⟩ : ∃ V, V = W.alloc (Obj.cells #[.string a, .string b] 9) := ⟨_, rfl⟩
  have hv0 : V.heap[W.heap.size]? = some (.cells #[.string a, .string b] 9 (0, 0)) := by rw [hV]; exact heap_alloc_new W _
  have hT : Txs W.heap.size [a, b] V := ⟨by rw [hV]; simp, fun i hi => by
    have : i = 0 ∨ i = 1 := by have h : i < 2 := hi; omega
    rcases this with rfl | rfl <;> exact (cell_of_row _ _ _ _ _ _ hv0).trans rfl⟩
  have hR := right_any W.heap.size 2 [a, b] V hT (by show 2 ≤ 1000; decide) (fun s hs => by
    simp only [List.mem_cons, List.not_mem_nil, or_false] at hs
    rcases hs with rfl | rfl <;> assumption)
  obtain ⟨r, HRB⟩ : ∃ r, Hid (rightB [a, b] = r) := ⟨_, Lib.hid rfl⟩
  rw [HRB.out] at hR
  have HR : Hid (Calls Tryd.prog 57 #[.slice (some ⟨W.heap.size, 0, none⟩) 2 2] V fun e W' => e = .returned (.bool r) ∧ Below V.heap.size V W') := Lib.hid hR
  have HVB : Hid (Below W.heap.size W V) := Lib.hid (by rw [hV]; exact (Below.refl _ _).alloc (Nat.le_refl _) _)
  have HAW : Hid (∀ w, Calls Tryd.prog 12 #[] w fun e W' => e = .returned (.bool true) ∧ Below w.heap.size w W') := Lib.hid fun w => awake_any w
  clear hR hT hv0
  cases r
  · go_enter Tryd.func9, Tryd.ntmps9
    go_wp2_with fail
    rw [← hV]
    clear hV
    refine HR.out.mono ?_
    rintro e w2 ⟨rfl, hb2⟩
    have HB2 := Lib.hid (HVB.out.trans (hb2.mono HVB.out.size))
    clear hb2
    go_wp2_with (go_at_call 12; refine (HAW.out _).mono ?_; rintro e w3 ⟨rfl, hb3⟩; have HB3 := Lib.hid hb3; clear hb3)
    go_ret
    exact ⟨rfl, HB2.out.trans (HB3.out.mono HB2.out.size)⟩
  have hall := HRB.out
  unfold rightB at hall
  rw [List.all_eq_true] at hall
  have hsa : a.size ≤ 60 := by have h := hall a (by simp); rw [Bool.and_eq_true, decide_eq_true_eq] at h; exact h.2
  have hsb : b.size ≤ 60 := by have h := hall b (by simp); rw [Bool.and_eq_true, decide_eq_true_eq] at h; exact h.2
  have ga := good_of (hall a (by simp))
  have gb := good_of (hall b (by simp))
  clear hall
  by_cases hlo : n < 0
  · clear ga gb hsa hsb
    go_enter Tryd.func9, Tryd.ntmps9
    go_wp2_with fail
    rw [← hV]
    clear hV
    refine HR.out.mono ?_
    rintro e w2 ⟨rfl, hb2⟩
    have HB2 := Lib.hid (HVB.out.trans (hb2.mono HVB.out.size))
    clear hb2
    go_wp2_with (go_at_call 12; refine (HAW.out _).mono ?_; rintro e w3 ⟨rfl, hb3⟩; have HB3 := Lib.hid hb3; clear hb3)
    go_ret
    exact ⟨rfl, HB2.out.trans (HB3.out.mono HB2.out.size)⟩
  have d1 : decide (n < 0) = false := decide_eq_false hlo
  by_cases hhi : 300 < n
  · clear ga gb hsa hsb
    go_enter Tryd.func9, Tryd.ntmps9
    go_wp2_with fail
    rw [← hV]
    clear hV
    refine HR.out.mono ?_
    rintro e w2 ⟨rfl, hb2⟩
    have HB2 := Lib.hid (HVB.out.trans (hb2.mono HVB.out.size))
    clear hb2
    go_wp2_with (go_at_call 12; refine (HAW.out _).mono ?_; rintro e w3 ⟨rfl, hb3⟩; have HB3 := Lib.hid hb3; clear hb3)
    go_ret
    exact ⟨rfl, HB2.out.trans (HB3.out.mono HB2.out.size)⟩
  have d2 : decide (300 < n) = false := decide_eq_false hhi
  have hn2 : 0 ≤ n := by omega
  have hn3 : n ≤ 300 := by omega
  obtain ⟨x, hx⟩ : ∃ x, valT a = x := ⟨_, rfl⟩
  obtain ⟨y, hy⟩ : ∃ y, valT b = y := ⟨_, rfl⟩
  rw [hx] at ga
  rw [hy] at gb
  obtain ⟨na, xa⟩ := ga
  obtain ⟨nb, xb⟩ := gb
  clear hx hy
  have c1 := c60_1
  have lup := c60_up xa (show 0 ≤ n by omega) (by omega)
  have nup := Nu.ren lup
  have A1 := fun w => can_num na w
  have A2 := fun w => shift_num na n (by omega) (by omega) lup w
  have A3 := fun w => shift_num nup (-n) (by omega) (by omega) (by rw [shZ_back x n (by omega)]; exact na.lim) w
  rw [shZ_back x n (by omega)] at A3
  have A5 := fun w => sign_num nb (by omega) w
  obtain ⟨t1, e1⟩ : ∃ t, ren x = t := ⟨_, rfl⟩
  obtain ⟨t2, e2⟩ : ∃ t, ren (shZ x n) = t := ⟨_, rfl⟩
  rw [e1] at A1 A3
  rw [e2] at A2 A3
  by_cases hy0 : y = 0
  · subst hy0
    have A4 := fun w => div_num0 na nb w
    rw [show cmpZ 0 0 = 0 from rfl] at A5
    have A1 := Lib.hid A1; have A2 := Lib.hid A2; have A3 := Lib.hid A3; have A4 := Lib.hid A4; have A5 := Lib.hid A5
    clear na nb xa xb c1 lup nup e1 e2 hlo hhi hsa hsb
    go_enter Tryd.func9, Tryd.ntmps9
    go_wp2_with fail
    rw [← hV]
    clear hV
    refine HR.out.mono ?_
    rintro e w2 ⟨rfl, hb2⟩
    have HB := Lib.hid (HVB.out.trans (hb2.mono HVB.out.size))
    clear hb2 HR HVB HRB
    go_wp2_with fail
    refine (A1.out _).mono ?_
    rintro e v0 ⟨rfl, hb⟩
    have HB0 := Lib.hid (HB.out.trans (hb.mono HB.out.size))
    clear hb HB
    go_wp2_with fail
    refine (A2.out _).mono ?_
    rintro e v1 ⟨rfl, hb⟩
    have HB1 := Lib.hid (HB0.out.trans (hb.mono HB0.out.size))
    clear hb HB0
    go_wp2_with fail
    refine (A3.out _).mono ?_
    rintro e v2 ⟨rfl, hb⟩
    have HB2 := Lib.hid (HB1.out.trans (hb.mono HB1.out.size))
    clear hb HB1
    go_wp2_with fail
    refine (A4.out _).mono ?_
    rintro e v3 ⟨rfl, hb⟩
    have HB3 := Lib.hid (HB2.out.trans (hb.mono HB2.out.size))
    clear hb HB2
    go_wp2_with fail
    refine (A5.out _).mono ?_
    rintro e v4 ⟨rfl, hb⟩
    have HB4 := Lib.hid (HB3.out.trans (hb.mono HB3.out.size))
    clear hb HB3
    go_wp2_with fail
    refine (HAW.out _).mono ?_
    rintro e w20 ⟨rfl, hb⟩
    have HB20 := Lib.hid (HB4.out.trans (hb.mono HB4.out.size))
    clear hb
    go_wp2
    go_ret
    exact ⟨rfl, HB20.out⟩
  have A4 := fun w => div_num na nb hy0 w
  have hp := fq_divP (x := x) hy0
  have hcs := cmpZ_sign hy0 hp
  have hcy := cmpZ_ne hy0
  obtain ⟨q, hq⟩ : ∃ q, fq x y = q := ⟨_, rfl⟩
  obtain ⟨r, hr⟩ : ∃ r, fr x y = r := ⟨_, rfl⟩
  rw [hq, hr] at hp A4
  rw [hr] at hcs
  clear hq hr
  have hab := divP_abs hp hy0
  have nq : Nu (ren q) q := Nu.ren (by omega)
  have nr : Nu (ren r) r := Nu.ren (by omega)
  have hsq : (ren q).size ≤ 601 := ren_size nq.lim
  have hsr : (ren r).size ≤ 601 := ren_size nr.lim
  have lqy : (q * y).natAbs < Lim := mul_c60 (show q.natAbs < C60 by omega) (by omega)
  have nqy := Nu.ren lqy
  have eqx : q * y + r = x := by rw [Int.mul_comm]; exact hp.eq.symm
  have A6 := fun w => mul_num nq nb lqy w
  have A7 := fun w => add_num nqy nr (by rw [eqx]; exact na.lim) w
  rw [eqx, e1] at A7
  have A8 := fun w => sign_num nr (by omega) w
  have A10 := fun w => abs_num nr w
  have A11 := fun w => abs_num nb w
  have nar : Nu (ren ((r.natAbs : Nat) : Int)) ((r.natAbs : Nat) : Int) := Nu.ren (by rw [Int.natAbs_natCast]; exact nr.lim)
  have nay : Nu (ren ((y.natAbs : Nat) : Int)) ((y.natAbs : Nat) : Int) := Nu.ren (by rw [Int.natAbs_natCast]; exact nb.lim)
  have A12 := fun w => cmp_num nar nay (Nat.le_trans (ren_size nar.lim) (by decide)) (Nat.le_trans (ren_size nay.lim) (by decide)) w
  have ecp : cmpZ ((r.natAbs : Nat) : Int) ((y.natAbs : Nat) : Int) = -1 := by unfold cmpZ; rw [if_pos (by omega)]
  rw [ecp] at A12
  have hgp : 0 < Nat.gcd x.natAbs y.natAbs := Nat.gcd_pos_of_pos_right _ (by omega)
  have hgl : Nat.gcd x.natAbs y.natAbs ≤ y.natAbs := Nat.gcd_le_right _ (by omega)
  have A13 := fun w => gcd_num na nb (by omega) w
  have hgx : x % ((Nat.gcd x.natAbs y.natAbs : Nat) : Int) = 0 := Int.emod_eq_zero_of_dvd (Int.ofNat_dvd_left.2 (Nat.gcd_dvd_left _ _))
  have hgy : y % ((Nat.gcd x.natAbs y.natAbs : Nat) : Int) = 0 := Int.emod_eq_zero_of_dvd (Int.ofNat_dvd_left.2 (Nat.gcd_dvd_right _ _))
  obtain ⟨g, hg⟩ : ∃ g, Nat.gcd x.natAbs y.natAbs = g := ⟨_, rfl⟩
  rw [hg] at hgp hgl A13 hgx hgy
  have ng : Nu (ren ((g : Nat) : Int)) ((g : Nat) : Int) := Nu.ren (by rw [Int.natAbs_natCast]; omega)
  have A14 := fun w => refdiv_num na ng (by omega) (by omega) (Nat.le_trans (ren_size ng.lim) (by decide)) w
  have A15 := fun w => refdiv_num nb ng (by omega) (by omega) (Nat.le_trans (ren_size ng.lim) (by decide)) w
  rw [hgx, ren_zero] at A14
  rw [hgy, ren_zero] at A15
  obtain ⟨t3, e3⟩ : ∃ t, ren q = t := ⟨_, rfl⟩
  obtain ⟨t4, e4⟩ : ∃ t, ren r = t := ⟨_, rfl⟩
  obtain ⟨t5, e5⟩ : ∃ t, ren (q * y) = t := ⟨_, rfl⟩
  obtain ⟨t6, e6⟩ : ∃ t, ren ((r.natAbs : Nat) : Int) = t := ⟨_, rfl⟩
  obtain ⟨t7, e7⟩ : ∃ t, ren ((y.natAbs : Nat) : Int) = t := ⟨_, rfl⟩
  obtain ⟨t8, e8⟩ : ∃ t, ren ((g : Nat) : Int) = t := ⟨_, rfl⟩
  obtain ⟨t9, e9⟩ : ∃ t, ren (x / ((g : Nat) : Int)) = t := ⟨_, rfl⟩
  obtain ⟨t10, e10⟩ : ∃ t, ren (y / ((g : Nat) : Int)) = t := ⟨_, rfl⟩
  obtain ⟨cr, ecr⟩ : ∃ c, cmpZ r 0 = c := ⟨_, rfl⟩
  obtain ⟨cy, ecy⟩ : ∃ c, cmpZ y 0 = c := ⟨_, rfl⟩
  rw [e3, e4] at A4
  rw [e3, e5] at A6
  rw [e5, e4] at A7
  rw [e4, ecr] at A8
  rw [e4, e6] at A10
  rw [e7] at A11
  rw [e6, e7] at A12
  rw [e8] at A13
  rw [e8, e9] at A14
  rw [e8, e10] at A15
  rw [ecy] at A5 hcy
  rw [ecr, ecy] at hcs
  have A1 := Lib.hid A1; have A2 := Lib.hid A2; have A3 := Lib.hid A3; have A4 := Lib.hid A4; have A5 := Lib.hid A5; have A6 := Lib.hid A6; have A7 := Lib.hid A7; have A8 := Lib.hid A8
  have A10 := Lib.hid A10; have A11 := Lib.hid A11; have A12 := Lib.hid A12; have A13 := Lib.hid A13; have A14 := Lib.hid A14; have A15 := Lib.hid A15
  clear na nb xa xb c1 lup nup e1 e2 hlo hhi hsa hsb hp hab nq nr hsq hsr lqy nqy eqx nar nay ecp hgp hgl hgx hgy hg ng e3 e4 e5 e6 e7 e8 e9 e10 ecr ecy hy0
  by_cases hc0 : cr = 0
  · subst hc0
    go_enter Tryd.func9, Tryd.ntmps9
    go_wp2_with fail
    rw [← hV]
    clear hV
    refine HR.out.mono ?_
    rintro e w2 ⟨rfl, hb2⟩
    have HB := Lib.hid (HVB.out.trans (hb2.mono HVB.out.size))
    clear hb2 HR HVB HRB
    go_wp2_with fail
    refine (A1.out _).mono ?_
    rintro e v0 ⟨rfl, hb⟩
    have HB0 := Lib.hid (HB.out.trans (hb.mono HB.out.size))
    clear hb HB
    go_wp2_with fail
    refine (A2.out _).mono ?_
    rintro e v1 ⟨rfl, hb⟩
    have HB1 := Lib.hid (HB0.out.trans (hb.mono HB0.out.size))
    clear hb HB0
    go_wp2_with fail
    refine (A3.out _).mono ?_
    rintro e v2 ⟨rfl, hb⟩
    have HB2 := Lib.hid (HB1.out.trans (hb.mono HB1.out.size))
    clear hb HB1
    go_wp2_with fail
    refine (A4.out _).mono ?_
    rintro e v3 ⟨rfl, hb⟩
    have HB3 := Lib.hid (HB2.out.trans (hb.mono HB2.out.size))
    clear hb HB2
    go_wp2_with fail
    refine (A5.out _).mono ?_
    rintro e v4 ⟨rfl, hb⟩
    have HB4 := Lib.hid (HB3.out.trans (hb.mono HB3.out.size))
    clear hb HB3
    go_wp2_with fail
    refine (A6.out _).mono ?_
    rintro e v5 ⟨rfl, hb⟩
    have HB5 := Lib.hid (HB4.out.trans (hb.mono HB4.out.size))
    clear hb HB4
    go_wp2_with fail
    refine (A7.out _).mono ?_
    rintro e v6 ⟨rfl, hb⟩
    have HB6 := Lib.hid (HB5.out.trans (hb.mono HB5.out.size))
    clear hb HB5
    go_wp2_with fail
    refine (A8.out _).mono ?_
    rintro e v7 ⟨rfl, hb⟩
    have HB7 := Lib.hid (HB6.out.trans (hb.mono HB6.out.size))
    clear hb HB6
    go_wp2_with fail
    refine (A5.out _).mono ?_
    rintro e v8 ⟨rfl, hb⟩
    have HB8 := Lib.hid (HB7.out.trans (hb.mono HB7.out.size))
    clear hb HB7
    go_wp2_with fail
    refine (A10.out _).mono ?_
    rintro e v9 ⟨rfl, hb⟩
    have HB9 := Lib.hid (HB8.out.trans (hb.mono HB8.out.size))
    clear hb HB8
    go_wp2_with fail
    refine (A11.out _).mono ?_
    rintro e v10 ⟨rfl, hb⟩
    have HB10 := Lib.hid (HB9.out.trans (hb.mono HB9.out.size))
    clear hb HB9
    go_wp2_with fail
    refine (A12.out _).mono ?_
    rintro e v11 ⟨rfl, hb⟩
    have HB11 := Lib.hid (HB10.out.trans (hb.mono HB10.out.size))
    clear hb HB10
    go_wp2_with fail
    refine (A13.out _).mono ?_
    rintro e v12 ⟨rfl, hb⟩
    have HB12 := Lib.hid (HB11.out.trans (hb.mono HB11.out.size))
    clear hb HB11
    go_wp2_with fail
    refine (A14.out _).mono ?_
    rintro e v13 ⟨rfl, hb⟩
    have HB13 := Lib.hid (HB12.out.trans (hb.mono HB12.out.size))
    clear hb HB12
    go_wp2_with fail
    refine (A15.out _).mono ?_
    rintro e v14 ⟨rfl, hb⟩
    have HB14 := Lib.hid (HB13.out.trans (hb.mono HB13.out.size))
    clear hb HB13
    go_wp2_with fail
    refine (HAW.out _).mono ?_
    rintro e w20 ⟨rfl, hb⟩
    have HB20 := Lib.hid (HB14.out.trans (hb.mono HB14.out.size))
    clear hb
    go_wp2
    go_ret
    exact ⟨rfl, HB20.out⟩
  · have hce : cr = cy := hcs.resolve_left hc0
    subst hce
    go_enter Tryd.func9, Tryd.ntmps9
    go_wp2_with fail
    rw [← hV]
    clear hV
    refine HR.out.mono ?_
    rintro e w2 ⟨rfl, hb2⟩
    have HB := Lib.hid (HVB.out.trans (hb2.mono HVB.out.size))
    clear hb2 HR HVB HRB
    go_wp2_with fail
    refine (A1.out _).mono ?_
    rintro e v0 ⟨rfl, hb⟩
    have HB0 := Lib.hid (HB.out.trans (hb.mono HB.out.size))
    clear hb HB
    go_wp2_with fail
    refine (A2.out _).mono ?_
    rintro e v1 ⟨rfl, hb⟩
    have HB1 := Lib.hid (HB0.out.trans (hb.mono HB0.out.size))
    clear hb HB0
    go_wp2_with fail
    refine (A3.out _).mono ?_
    rintro e v2 ⟨rfl, hb⟩
    have HB2 := Lib.hid (HB1.out.trans (hb.mono HB1.out.size))
    clear hb HB1
    go_wp2_with fail
    refine (A4.out _).mono ?_
    rintro e v3 ⟨rfl, hb⟩
    have HB3 := Lib.hid (HB2.out.trans (hb.mono HB2.out.size))
    clear hb HB2
    go_wp2_with fail
    refine (A5.out _).mono ?_
    rintro e v4 ⟨rfl, hb⟩
    have HB4 := Lib.hid (HB3.out.trans (hb.mono HB3.out.size))
    clear hb HB3
    go_wp2_with fail
    refine (A6.out _).mono ?_
    rintro e v5 ⟨rfl, hb⟩
    have HB5 := Lib.hid (HB4.out.trans (hb.mono HB4.out.size))
    clear hb HB4
    go_wp2_with fail
    refine (A7.out _).mono ?_
    rintro e v6 ⟨rfl, hb⟩
    have HB6 := Lib.hid (HB5.out.trans (hb.mono HB5.out.size))
    clear hb HB5
    go_wp2_with fail
    refine (A8.out _).mono ?_
    rintro e v7 ⟨rfl, hb⟩
    have HB7 := Lib.hid (HB6.out.trans (hb.mono HB6.out.size))
    clear hb HB6
    go_wp2_with fail
    refine (A5.out _).mono ?_
    rintro e v8 ⟨rfl, hb⟩
    have HB8 := Lib.hid (HB7.out.trans (hb.mono HB7.out.size))
    clear hb HB7
    go_wp2_with fail
    refine (A10.out _).mono ?_
    rintro e v9 ⟨rfl, hb⟩
    have HB9 := Lib.hid (HB8.out.trans (hb.mono HB8.out.size))
    clear hb HB8
    go_wp2_with fail
    refine (A11.out _).mono ?_
    rintro e v10 ⟨rfl, hb⟩
    have HB10 := Lib.hid (HB9.out.trans (hb.mono HB9.out.size))
    clear hb HB9
    go_wp2_with fail
    refine (A12.out _).mono ?_
    rintro e v11 ⟨rfl, hb⟩
    have HB11 := Lib.hid (HB10.out.trans (hb.mono HB10.out.size))
    clear hb HB10
    go_wp2_with fail
    refine (A13.out _).mono ?_
    rintro e v12 ⟨rfl, hb⟩
    have HB12 := Lib.hid (HB11.out.trans (hb.mono HB11.out.size))
    clear hb HB11
    go_wp2_with fail
    refine (A14.out _).mono ?_
    rintro e v13 ⟨rfl, hb⟩
    have HB13 := Lib.hid (HB12.out.trans (hb.mono HB12.out.size))
    clear hb HB12
    go_wp2_with fail
    refine (A15.out _).mono ?_
    rintro e v14 ⟨rfl, hb⟩
    have HB14 := Lib.hid (HB13.out.trans (hb.mono HB13.out.size))
    clear hb HB13
    go_wp2_with fail
    refine (HAW.out _).mono ?_
    rintro e w20 ⟨rfl, hb⟩
    have HB20 := Lib.hid (HB14.out.trans (hb.mono HB14.out.size))
    clear hb
    go_wp2
    go_ret
    exact ⟨rfl, HB20.out⟩
end Go.Proofs.YtkpoegdcmnjedaaDoor
