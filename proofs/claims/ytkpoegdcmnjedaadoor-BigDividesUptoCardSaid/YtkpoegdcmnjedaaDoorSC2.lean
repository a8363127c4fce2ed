import Derived.Test.YtkpoegdcmnjedaaDoorSC3
namespace Go.Proofs.YtkpoegdcmnjedaaDoor
open Go.RowKit
set_option linter.unusedVariables false
set_option linter.unusedSimpArgs false

theorem mul_c60 {x y : Int} (hx : x.natAbs < C60) (hy : y.natAbs ≤ 8 * C60) : (x * y).natAbs < Lim := by
  rw [Int.natAbs_mul]
  exact Nat.lt_of_le_of_lt (Nat.mul_le_mul (Nat.le_of_lt hx) hy) c60_2
theorem good_of {s : ByteArray} (h : (validB s && decide (s.size ≤ 60)) = true) : Nu s (valT s) ∧ (valT s).natAbs < C60 := by
  rw [Bool.and_eq_true, decide_eq_true_eq] at h
  obtain ⟨h1, h2⟩ := h
  obtain ⟨h3, h4⟩ := validB_iff.1 h1
  have h5 := natT_small h3 h2
  exact ⟨⟨h3, rfl, by rw [valT_abs]; exact h4, by omega⟩, by rw [valT_abs]; exact h5⟩
set_option maxRecDepth 100000 in
set_option maxHeartbeats 8000000 in
theorem bigRing_any (a b c : ByteArray) (W : World) (ha : a.size ≤ 2000000) (hb : b.size ≤ 2000000) (hc : c.size ≤ 2000000) :
    Calls Tryd.prog 8 #[.string a, .string b, .string c] W fun e W' => e = .returned (.bool true) ∧ Below W.heap.size W W' := by
  obtain ⟨V, hV⟩ : ∃ V, V = W.alloc (Obj.cells #[.string a, .string b, .string c] 9) := ⟨_, rfl⟩
  have hv0 : V.heap[W.heap.size]? = some (.cells #[.string a, .string b, .string c] 9 (0, 0)) := by rw [hV]; exact heap_alloc_new W _
  have hT : Txs W.heap.size [a, b, c] V := ⟨by rw [hV]; simp, fun i hi => by
    have : i = 0 ∨ i = 1 ∨ i = 2 := by have h : i < 3 := hi; omega
    rcases this with rfl | rfl | rfl <;> exact (cell_of_row _ _ _ _ _ _ hv0).trans rfl⟩
  have hR := right_any W.heap.size 3 [a, b, c] V hT (by show 3 ≤ 1000; decide) (fun s hs => by
    simp only [List.mem_cons, List.not_mem_nil, or_false] at hs
    rcases hs with rfl | rfl | rfl <;> assumption)
  obtain ⟨r, HRB⟩ : ∃ r, Hid (rightB [a, b, c] = r) := ⟨_, Lib.hid rfl⟩
  rw [HRB.out] at hR
  have HR : Hid (Calls Tryd.prog 57 #[.slice (some ⟨W.heap.size, 0, none⟩) 3 3] V fun e W' => e = .returned (.bool r) ∧ Below V.heap.size V W') := Lib.hid hR
  have HVB : Hid (Below W.heap.size W V) := Lib.hid (by rw [hV]; exact (Below.refl _ _).alloc (Nat.le_refl _) _)
  have HAW : Hid (∀ w, Calls Tryd.prog 12 #[] w fun e W' => e = .returned (.bool true) ∧ Below w.heap.size w W') := Lib.hid fun w => awake_any w
  clear hR hT hv0
  cases r
  · go_enter Tryd.func8, Tryd.ntmps8
    go_wp2_with fail
    rw [← hV]
    clear hV
    refine HR.out.mono ?_
    rintro e w2 ⟨rfl, hb2⟩
    have HB2 := Lib.hid (HVB.out.trans (hb2.mono HVB.out.size))
    clear hb2
    go_wp2_with (go_at_call 12; refine (HAW.out _).mono ?_; rintro e w3 ⟨rfl, hb3⟩; have HB3 := Lib.hid hb3; clear hb3)
    go_ret
    exact ⟨rfl, HB2.out.trans (HB3.out.mono HB2.out.size)⟩
  · have hall := HRB.out
    unfold rightB at hall
    rw [List.all_eq_true] at hall
    have ga := good_of (hall a (by simp))
    have gb := good_of (hall b (by simp))
    have gc := good_of (hall c (by simp))
    clear hall
    obtain ⟨x, hx⟩ : ∃ x, valT a = x := ⟨_, rfl⟩
    obtain ⟨y, hy⟩ : ∃ y, valT b = y := ⟨_, rfl⟩
    obtain ⟨z, hz⟩ : ∃ z, valT c = z := ⟨_, rfl⟩
    rw [hx] at ga
    rw [hy] at gb
    rw [hz] at gc
    obtain ⟨na, xa⟩ := ga
    obtain ⟨nb, xb⟩ := gb
    obtain ⟨nc, xc⟩ := gc
    clear hx hy hz
    have c1 := c60_1
    have lab : (x + y).natAbs < Lim := by omega
    have lbc : (y + z).natAbs < Lim := by omega
    have l3 : (x + y + z).natAbs < Lim := by omega
    have nab := Nu.ren lab
    have nbc := Nu.ren lbc
    have lxy := mul_c60 xa (show y.natAbs ≤ 8 * C60 by omega)
    have lxz := mul_c60 xa (show z.natAbs ≤ 8 * C60 by omega)
    have lxs := mul_c60 xa (show (y + z).natAbs ≤ 8 * C60 by omega)
    have nxy := Nu.ren lxy
    have nxz := Nu.ren lxz
    have A1 := fun w => add_num na nb lab w
    have A2 := fun w => add_num nb na (by rw [Int.add_comm]; exact lab) w
    have A3 := fun w => add_num nb nc lbc w
    have A4 := fun w => add_num nab nc l3 w
    have A5 := fun w => add_num na nbc (by rw [← Int.add_assoc]; exact l3) w
    have A6 := fun w => sub_num nab nb (by rw [Int.add_sub_cancel]; exact na.lim) w
    have A7 := fun w => can_num na w
    have A8 := fun w => mul_num na nb lxy w
    have A9 := fun w => mul_num nb na (by rw [Int.mul_comm]; exact lxy) w
    have A10 := fun w => mul_num na nc lxz w
    have A11 := fun w => mul_num na nbc lxs w
    have A12 := fun w => add_num nxy nxz (by rw [← Int.mul_add]; exact lxs) w
    rw [Int.add_comm y x] at A2
    rw [← Int.add_assoc] at A5
    rw [Int.add_sub_cancel] at A6
    rw [Int.mul_comm y x] at A9
    rw [← Int.mul_add] at A12
    obtain ⟨t1, e1⟩ : ∃ t, ren (x + y) = t := ⟨_, rfl⟩
    obtain ⟨t2, e2⟩ : ∃ t, ren (y + z) = t := ⟨_, rfl⟩
    obtain ⟨t3, e3⟩ : ∃ t, ren (x + y + z) = t := ⟨_, rfl⟩
    obtain ⟨t4, e4⟩ : ∃ t, ren x = t := ⟨_, rfl⟩
    obtain ⟨t5, e5⟩ : ∃ t, ren (x * y) = t := ⟨_, rfl⟩
    obtain ⟨t6, e6⟩ : ∃ t, ren (x * z) = t := ⟨_, rfl⟩
    obtain ⟨t7, e7⟩ : ∃ t, ren (x * (y + z)) = t := ⟨_, rfl⟩
    rw [e1] at A1 A2 A4 A6
    rw [e2] at A3 A5 A11
    rw [e3] at A4 A5
    rw [e4] at A6 A7
    rw [e5] at A8 A9 A12
    rw [e6] at A10 A12
    rw [e7] at A11 A12
    have A1 := Lib.hid A1; have A2 := Lib.hid A2; have A3 := Lib.hid A3; have A4 := Lib.hid A4; have A5 := Lib.hid A5; have A6 := Lib.hid A6
    have A7 := Lib.hid A7; have A8 := Lib.hid A8; have A9 := Lib.hid A9; have A10 := Lib.hid A10; have A11 := Lib.hid A11; have A12 := Lib.hid A12
    clear e1 e2 e3 e4 e5 e6 e7 lab lbc l3 lxy lxz lxs nab nbc nxy nxz na nb nc xa xb xc c1
    go_enter Tryd.func8, Tryd.ntmps8
    go_wp2_with fail
    rw [← hV]
    clear hV
    refine HR.out.mono ?_
    rintro e w2 ⟨rfl, hb2⟩
    have HB := Lib.hid (HVB.out.trans (hb2.mono HVB.out.size))
    clear hb2 HR HVB HRB
    go_wp2_with fail
    refine (A1.out _).mono ?_
    rintro e w3 ⟨rfl, hb⟩
    have HB1 := Lib.hid (HB.out.trans (hb.mono HB.out.size))
    clear hb HB
    go_wp2_with fail
    refine (A2.out _).mono ?_
    rintro e w4 ⟨rfl, hb⟩
    have HB2 := Lib.hid (HB1.out.trans (hb.mono HB1.out.size))
    clear hb HB1
    go_wp2_with fail
    refine (A3.out _).mono ?_
    rintro e w5 ⟨rfl, hb⟩
    have HB3 := Lib.hid (HB2.out.trans (hb.mono HB2.out.size))
    clear hb HB2
    go_wp2_with fail
    refine (A4.out _).mono ?_
    rintro e w6 ⟨rfl, hb⟩
    have HB4 := Lib.hid (HB3.out.trans (hb.mono HB3.out.size))
    clear hb HB3
    go_wp2_with fail
    refine (A5.out _).mono ?_
    rintro e w7 ⟨rfl, hb⟩
    have HB5 := Lib.hid (HB4.out.trans (hb.mono HB4.out.size))
    clear hb HB4
    go_wp2_with fail
    refine (A6.out _).mono ?_
    rintro e w8 ⟨rfl, hb⟩
    have HB6 := Lib.hid (HB5.out.trans (hb.mono HB5.out.size))
    clear hb HB5
    go_wp2_with fail
    refine (A7.out _).mono ?_
    rintro e w9 ⟨rfl, hb⟩
    have HB7 := Lib.hid (HB6.out.trans (hb.mono HB6.out.size))
    clear hb HB6
    go_wp2_with fail
    refine (A8.out _).mono ?_
    rintro e w10 ⟨rfl, hb⟩
    have HB8 := Lib.hid (HB7.out.trans (hb.mono HB7.out.size))
    clear hb HB7
    go_wp2_with fail
    refine (A9.out _).mono ?_
    rintro e w11 ⟨rfl, hb⟩
    have HB9 := Lib.hid (HB8.out.trans (hb.mono HB8.out.size))
    clear hb HB8
    go_wp2_with fail
    refine (A10.out _).mono ?_
    rintro e w12 ⟨rfl, hb⟩
    have HB10 := Lib.hid (HB9.out.trans (hb.mono HB9.out.size))
    clear hb HB9
    go_wp2_with fail
    refine (A11.out _).mono ?_
    rintro e w13 ⟨rfl, hb⟩
    have HB11 := Lib.hid (HB10.out.trans (hb.mono HB10.out.size))
    clear hb HB10
    go_wp2_with fail
    refine (A12.out _).mono ?_
    rintro e w14 ⟨rfl, hb⟩
    have HB12 := Lib.hid (HB11.out.trans (hb.mono HB11.out.size))
    clear hb HB11
    go_wp2_with fail
    refine (HAW.out _).mono ?_
    rintro e w20 ⟨rfl, hb⟩
    have HB20 := Lib.hid (HB12.out.trans (hb.mono HB12.out.size))
    clear hb
    go_wp2
    go_ret
    exact ⟨rfl, HB20.out⟩
end Go.Proofs.YtkpoegdcmnjedaaDoor
