import Derived.Test.YtkpoegdcmnjedaaDoorNB5
import Derived.Test.YtkpoegdcmnjedaaDoorSC2
namespace Go.Proofs.YtkpoegdcmnjedaaDoor
open Go.RowKit
set_option linter.unusedVariables false
set_option linter.unusedSimpArgs false

theorem two_num {F : FuncId} {f : Nat → Nat → Nat} (H : ∀ (a b : ByteArray) (W : World), a.size ≤ 1000000 → b.size ≤ 1000000 → Calls Tryd.prog F #[.string a, .string b] W (TwoR (fun x y => twZ f x y) a b W)) {a b : ByteArray} {x y : Int} (ha : Nu a x) (hb : Nu b y) (h : (twZ f x y).natAbs < Lim) (W : World) :
    Calls Tryd.prog F #[.string a, .string b] W fun e W' => e = .returned (.tuple #[.string (Go.Proofs.YtkpoegdcmnjedaaDoor.ren (twZ f x y)), .int .i64 0]) ∧ Below W.heap.size W W' := by
  refine (H a b W ha.siz hb.siz).mono ?_
  rintro e W' ⟨r, er, rfl, hh, hb2⟩
  refine ⟨?_, hb2⟩
  have h1 := ha.nat
  have h2 := hb.nat
  rcases hh with ⟨h3, _⟩ | ⟨_, h3, _⟩ | ⟨_, _, _, hr, he⟩
  · exact absurd ⟨ha.num, hb.num⟩ h3
  · omega
  · rw [ha.val, hb.val] at hr he
    rw [hr, he, (told_small h).1, (told_small h).2]
theorem one_num {F : FuncId} {f : Int → Int} (H : ∀ (a : ByteArray) (W : World), a.size ≤ 1000000 → Calls Tryd.prog F #[.string a] W (OneQ f a W)) {a : ByteArray} {x : Int} (ha : Nu a x) (h : (f x).natAbs < Lim) (W : World) :
    Calls Tryd.prog F #[.string a] W fun e W' => e = .returned (.tuple #[.string (Go.Proofs.YtkpoegdcmnjedaaDoor.ren (f x)), .int .i64 0]) ∧ Below W.heap.size W W' := by
  refine (H a W ha.siz).mono ?_
  rintro e W' ⟨r, er, rfl, hh, hb2⟩
  refine ⟨?_, hb2⟩
  have h1 := ha.nat
  rcases hh with ⟨h3, _⟩ | ⟨_, h3, _⟩ | ⟨_, _, hr, he⟩
  · exact absurd ha.num h3
  · omega
  · rw [ha.val] at hr he
    rw [hr, he, (told_small h).1, (told_small h).2]
/-- a bound for what is made of the bits. -/
def C9 : Nat := B32 ^ 9
theorem c9_1 : 4 * C9 < Lim := by unfold C9 Lim; decide +kernel
theorem c60_9 : C60 < C9 := by unfold C9 C60; decide +kernel
theorem nd_c60 {n : Nat} (h : n < C60) : nd n ≤ 8 := (digs_length_le (by decide)).2 (Nat.lt_of_lt_of_le h (by unfold C60; decide +kernel))
theorem twZ_c9 {f : Nat → Nat → Nat} (hf : ∀ a b, a < 4294967296 → b < 4294967296 → f a b < 4294967296) {x y : Int} (hx : x.natAbs < C60) (hy : y.natAbs < C60) : (twZ f x y).natAbs ≤ C9 := by
  refine Nat.le_trans (twZ_bd hf x y) ?_
  unfold C9
  refine Nat.pow_le_pow_right (by decide) ?_
  have h1 := nd_c60 hx
  have h2 := nd_c60 hy
  unfold twLen; omega
theorem nu_one : Nu ⟨#[49]⟩ 1 := by
  have := Nu.ren (x := 1) (by have := c9_1; have : 0 < C9 := Nat.pow_pos (by decide); show 1 < Lim; omega)
  rw [ren_1] at this
  exact this
set_option maxRecDepth 100000 in
set_option maxHeartbeats 8000000 in
theorem bigFits_any (a b : ByteArray) (W : World) (ha : a.size ≤ 2000000) (hb : b.size ≤ 2000000) :
    Calls Tryd.prog 10 #[.string a, .string b] W fun e W' => e = .returned (.bool true) ∧ Below W.heap.size W W' := by
  obtain ⟨V, hV⟩ : ∃ V, V = W.alloc (Obj.cells #[.string a, .string b] 9) := ⟨_, rfl⟩
  have hv0 : V.heap[W.heap.size]? = some (.cells #[.string a, .string b] 9 (0, 0)) := by rw [hV]; exact heap_alloc_new W _
  have hT : Txs W.heap.size [a, b] V := ⟨by rw [hV]; simp, fun i hi => by
    have : i = 0 ∨ i = 1 := by have h : i < 2 := hi; omega
    rcases this with rfl | rfl <;> exact (cell_of_row _ _ _ _ _ _ hv0).trans rfl⟩
  have hR := right_any W.heap.size 2 [a, b] V hT (by show 2 ≤ 1000; decide) (fun s hs => by
    simp only [List.mem_cons, List.not_mem_nil, or_false] at hs
    rcases hs with rfl | rfl <;> assumption)
  obtain ⟨r, HRB⟩ : ∃ r, Hid (rightB [a, b] = r) := ⟨_, Lib.hid rfl⟩
  rw [HRB.out] at hR
  have HR : Hid (Calls Tryd.prog 57 #[.slice (some ⟨W.heap.size, 0, none⟩) 2 2] V fun e W' => e = .returned (.bool r) ∧ Below V.heap.size V W') := Lib.hid hR
  have HVB : Hid (Below W.heap.size W V) := Lib.hid (by rw [hV]; exact (Below.refl _ _).alloc (Nat.le_refl _) _)
  have HAW : Hid (∀ w, Calls Tryd.prog 12 #[] w fun e W' => e = .returned (.bool true) ∧ Below w.heap.size w W') := Lib.hid fun w => awake_any w
  clear hR hT hv0
  cases r
  · go_enter Tryd.func10, Tryd.ntmps10
    go_wp2_with fail
    rw [← hV]
    clear hV
    refine HR.out.mono ?_
    rintro e w2 ⟨rfl, hb2⟩
    have HB2 := Lib.hid (HVB.out.trans (hb2.mono HVB.out.size))
    clear hb2
    go_wp2_with (go_at_call 12; refine (HAW.out _).mono ?_; rintro e w3 ⟨rfl, hb3⟩; have HB3 := Lib.hid hb3; clear hb3)
    go_ret
    exact ⟨rfl, HB2.out.trans (HB3.out.mono HB2.out.size)⟩
  · have hall := HRB.out
    unfold rightB at hall
    rw [List.all_eq_true] at hall
    have ga := good_of (hall a (by simp))
    have gb := good_of (hall b (by simp))
    clear hall
    obtain ⟨x, hx⟩ : ∃ x, valT a = x := ⟨_, rfl⟩
    obtain ⟨y, hy⟩ : ∃ y, valT b = y := ⟨_, rfl⟩
    rw [hx] at ga
    rw [hy] at gb
    obtain ⟨na, xa⟩ := ga
    obtain ⟨nb, xb⟩ := gb
    clear hx hy
    have b1 := c9_1
    have b2 := c60_9
    have lA := twZ_c9 fAnd_lt xa xb
    have lO := twZ_c9 fOr_lt xa xb
    have lX := twZ_c9 fXor_lt xa xb
    have eq1 := twZ_and_or x y
    have eq2 := twZ_xor_and x y
    have A1 := fun w => two_num and_any na nb (show (twZ fAnd x y).natAbs < Lim by omega) w
    have A2 := fun w => two_num or_any na nb (show (twZ fOr x y).natAbs < Lim by omega) w
    have A3 := fun w => two_num xor_any na nb (show (twZ fXor x y).natAbs < Lim by omega) w
    have A4 := fun w => add_num na nb (show (x + y).natAbs < Lim by omega) w
    generalize twZ fAnd x y = z1 at *
    generalize twZ fOr x y = z2 at *
    generalize twZ fXor x y = z3 at *
    have n1 := Nu.ren (show z1.natAbs < Lim by omega)
    have n2 := Nu.ren (show z2.natAbs < Lim by omega)
    have n3 := Nu.ren (show z3.natAbs < Lim by omega)
    have A5 := fun w => add_num n2 n1 (show (z2 + z1).natAbs < Lim by omega) w
    have A6 := fun w => add_num n1 n1 (show (z1 + z1).natAbs < Lim by omega) w
    have n4 := Nu.ren (show (z1 + z1).natAbs < Lim by omega)
    have A7 := fun w => add_num n3 n4 (show (z3 + (z1 + z1)).natAbs < Lim by omega) w
    have A8 := fun w => one_num not_any na (show (-x + -1).natAbs < Lim by omega) w
    have A9 := fun w => one_num neg_any na (show (-x).natAbs < Lim by omega) w
    have n5 := Nu.ren (show (-x).natAbs < Lim by omega)
    have A10 := fun w => sub_num n5 nu_one (show (-x - 1).natAbs < Lim by omega) w
    rw [eq1] at A5
    rw [eq2] at A7
    rw [show (-x - 1 : Int) = -x + -1 by omega] at A10
    obtain ⟨t1, e1⟩ : ∃ t, ren z1 = t := ⟨_, rfl⟩
    obtain ⟨t2, e2⟩ : ∃ t, ren z2 = t := ⟨_, rfl⟩
    obtain ⟨t3, e3⟩ : ∃ t, ren z3 = t := ⟨_, rfl⟩
    obtain ⟨t4, e4⟩ : ∃ t, ren (x + y) = t := ⟨_, rfl⟩
    obtain ⟨t5, e5⟩ : ∃ t, ren (z1 + z1) = t := ⟨_, rfl⟩
    obtain ⟨t6, e6⟩ : ∃ t, ren (-x + -1) = t := ⟨_, rfl⟩
    obtain ⟨t7, e7⟩ : ∃ t, ren (-x) = t := ⟨_, rfl⟩
    rw [e1] at A1 A5 A6
    rw [e2] at A2 A5
    rw [e3] at A3 A7
    rw [e4] at A4 A5 A7
    rw [e5] at A6 A7
    rw [e6] at A8 A10
    rw [e7] at A9 A10
    have A1 := Lib.hid A1; have A2 := Lib.hid A2; have A3 := Lib.hid A3; have A4 := Lib.hid A4; have A5 := Lib.hid A5
    have A6 := Lib.hid A6; have A7 := Lib.hid A7; have A8 := Lib.hid A8; have A9 := Lib.hid A9; have A10 := Lib.hid A10
    clear e1 e2 e3 e4 e5 e6 e7 eq1 eq2 lA lO lX b1 b2 n1 n2 n3 n4 n5 na nb xa xb
    go_enter Tryd.func10, Tryd.ntmps10
    go_wp2_with fail
    rw [← hV]
    clear hV
    refine HR.out.mono ?_
    rintro e w0 ⟨rfl, hb2⟩
    have HB0 := Lib.hid (HVB.out.trans (hb2.mono HVB.out.size))
    clear hb2 HR HVB HRB
    go_wp2_with fail
    refine (A1.out _).mono ?_
    rintro e w1 ⟨rfl, hb⟩
    have HB1 := Lib.hid (HB0.out.trans (hb.mono HB0.out.size))
    clear hb HB0
    go_wp2_with fail
    refine (A2.out _).mono ?_
    rintro e w2 ⟨rfl, hb⟩
    have HB2 := Lib.hid (HB1.out.trans (hb.mono HB1.out.size))
    clear hb HB1
    go_wp2_with fail
    refine (A3.out _).mono ?_
    rintro e w3 ⟨rfl, hb⟩
    have HB3 := Lib.hid (HB2.out.trans (hb.mono HB2.out.size))
    clear hb HB2
    go_wp2_with fail
    refine (A4.out _).mono ?_
    rintro e w4 ⟨rfl, hb⟩
    have HB4 := Lib.hid (HB3.out.trans (hb.mono HB3.out.size))
    clear hb HB3
    go_wp2_with fail
    refine (A5.out _).mono ?_
    rintro e w5 ⟨rfl, hb⟩
    have HB5 := Lib.hid (HB4.out.trans (hb.mono HB4.out.size))
    clear hb HB4
    go_wp2_with fail
    refine (A6.out _).mono ?_
    rintro e w6 ⟨rfl, hb⟩
    have HB6 := Lib.hid (HB5.out.trans (hb.mono HB5.out.size))
    clear hb HB5
    go_wp2_with fail
    refine (A7.out _).mono ?_
    rintro e w7 ⟨rfl, hb⟩
    have HB7 := Lib.hid (HB6.out.trans (hb.mono HB6.out.size))
    clear hb HB6
    go_wp2_with fail
    refine (A8.out _).mono ?_
    rintro e w8 ⟨rfl, hb⟩
    have HB8 := Lib.hid (HB7.out.trans (hb.mono HB7.out.size))
    clear hb HB7
    go_wp2_with fail
    refine (A9.out _).mono ?_
    rintro e w9 ⟨rfl, hb⟩
    have HB9 := Lib.hid (HB8.out.trans (hb.mono HB8.out.size))
    clear hb HB8
    go_wp2_with fail
    refine (A10.out _).mono ?_
    rintro e w10 ⟨rfl, hb⟩
    have HB10 := Lib.hid (HB9.out.trans (hb.mono HB9.out.size))
    clear hb HB9
    go_wp2_with fail
    refine (HAW.out _).mono ?_
    rintro e w20 ⟨rfl, hb⟩
    have HB20 := Lib.hid (HB10.out.trans (hb.mono HB10.out.size))
    clear hb
    go_wp2
    go_ret
    exact ⟨rfl, HB20.out⟩
end Go.Proofs.YtkpoegdcmnjedaaDoor
