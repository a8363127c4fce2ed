import Derived.Test.YtocdabmfcbmpaaaDoorCD4
namespace Go.Proofs.YtocdabmfcbmpaaaDoor
open Go.RowKit
set_option linter.unusedVariables false
set_option linter.unusedSimpArgs false

abbrev D6 (a0 a1 a2 a3 a4 a5 : Int) : Value := .agg #[I a0, I a1, I a2, I a3, I a4, I a5]
theorem year_of {t : Int} (h0 : -62135596800 ≤ t) (h1 : t ≤ 253402300799) : vdP (dYI (t / 86400)) (dMI (t / 86400)) (dDI (t / 86400)) (t % 86400 / 3600) (t % 86400 / 60 % 60) (t % 86400 % 60) := by
  have := parts_bd h0 h1
  exact ⟨this.1, dt_date _, this.2.2.2.1, this.2.2.2.2.1, this.2.2.2.2.2⟩
theorem tm_of (t : Int) : tmI (dYI (t / 86400)) (dMI (t / 86400)) (dDI (t / 86400)) (t % 86400 / 3600) (t % 86400 / 60 % 60) (t % 86400 % 60) = t := by
  unfold tmI
  rw [dn_date]
  omega
theorem tm_in {y m d h mi s : Int} (hv : vdP y m d h mi s) : inB (tmI y m d h mi s) (-62135596800) 253402300799 = true := by
  have hn := nu_bd hv.1 hv.2.1
  have := dn_nu (d := d) (y := y) hv.2.1.1 hv.2.1.2.1
  obtain ⟨_, _, h3, h4, h5⟩ := hv
  refine inB_yes ?_ ?_ <;> unfold tmI <;> omega
/-- a time's date, by both, and back. -/
theorem both_Date (t : Int) : ∃ a0 a1 a2 a3 a4 a5 er : Int,
    (∀ w, Calls Tryd.prog 8 #[I t] w fun e w' => e = .returned (.tuple #[D6 a0 a1 a2 a3 a4 a5, E er]) ∧ Below w.heap.size w w') ∧
    (∀ w, Calls Tryd.prog 9 #[I t] w fun e w' => e = .returned (.tuple #[D6 a0 a1 a2 a3 a4 a5, E er]) ∧ Below w.heap.size w w') ∧
    ((er = 0 ∧ (∀ w, Calls Tryd.prog 10 #[D6 a0 a1 a2 a3 a4 a5] w fun e w' => e = .returned (.tuple #[I t, E 0]) ∧ Below w.heap.size w w')) ∨ er = 7) := by
  cases h : inB t (-62135596800) 253402300799
  · exact ⟨0, 0, 0, 0, 0, 0, 7, fun w => Date_no h w, fun w => rDate_no h w, Or.inr rfl⟩
  · obtain ⟨h0, h1⟩ := inB_iff.1 h
    refine ⟨_, _, _, _, _, _, 0, fun w => Date_ok h w, fun w => rDate_ok h w, Or.inl ⟨rfl, fun w => ?_⟩⟩
    have := Time_ok (vd_yes (year_of h0 h1)) w
    rwa [tm_of] at this
theorem both_Time (y m d h mi s : Int) : ∃ t er : Int,
    (∀ w, Calls Tryd.prog 10 #[D6 y m d h mi s] w fun e w' => e = .returned (.tuple #[I t, E er]) ∧ Below w.heap.size w w') ∧
    (∀ w, Calls Tryd.prog 11 #[D6 y m d h mi s] w fun e w' => e = .returned (.tuple #[I t, E er]) ∧ Below w.heap.size w w') ∧
    ((er = 0 ∧ (∀ w, Calls Tryd.prog 8 #[I t] w fun e w' => e = .returned (.tuple #[D6 y m d h mi s, E 0]) ∧ Below w.heap.size w w')) ∨ er = 1) := by
  cases hv : vdB y m d h mi s
  · exact ⟨0, 1, fun w => Time_no hv w, fun w => rTime_no hv w, Or.inr rfl⟩
  · refine ⟨_, 0, fun w => Time_ok hv w, fun w => rTime_ok hv w, Or.inl ⟨rfl, fun w => ?_⟩⟩
    have := Date_ok (tm_in (vd_of hv)) w
    rwa [back_of (vd_of hv)] at this
theorem both_Leap (y : Int) : ∃ (b : Bool) (er : Int), (∀ w, Calls Tryd.prog 12 #[I y] w fun e w' => e = .returned (.tuple #[.bool b, E er]) ∧ w = w') ∧ (∀ w, Calls Tryd.prog 13 #[I y] w fun e w' => e = .returned (.tuple #[.bool b, E er]) ∧ w = w') := by
  cases h : inB y 1 9999
  · exact ⟨_, _, fun w => Leap_no h w, fun w => rLeap_no h w⟩
  · exact ⟨_, _, fun w => Leap_ok h w, fun w => rLeap_ok h w⟩
theorem both_Days (y m : Int) : ∃ (b : Int) (er : Int), (∀ w, Calls Tryd.prog 14 #[I y, I m] w fun e w' => e = .returned (.tuple #[I b, E er]) ∧ w = w') ∧ (∀ w, Calls Tryd.prog 15 #[I y, I m] w fun e w' => e = .returned (.tuple #[I b, E er]) ∧ w = w') := by
  cases h : inB y 1 9999
  · exact ⟨_, _, fun w => Days_no (Or.inl h) w, fun w => rDays_no (Or.inl h) w⟩
  · cases k : inB m 1 12
    · exact ⟨_, _, fun w => Days_no (Or.inr ⟨h, k⟩) w, fun w => rDays_no (Or.inr ⟨h, k⟩) w⟩
    · exact ⟨_, _, fun w => Days_ok h k w, fun w => rDays_ok h k w⟩
theorem neq_self (a0 a1 a2 a3 a4 a5 : Int) (W : World) : (binOp .neq 23 (D6 a0 a1 a2 a3 a4 a5) (D6 a0 a1 a2 a3 a4 a5)).run Tryd.prog W = .ok (.bool false) W := by
  rw [neq_date]; simp
theorem all18 {g1 g2 g3 : Nat} {y m d h mi s a0 a1 a2 a3 a4 a5 : Int} {W : World} (h1 : Box6 g1 (I y) (I m) (I d) (I h) (I mi) (I s) W) (h2 : Box6 g2 (I a0) (I a1) (I a2) (I a3) (I a4) (I a5) W) (h3 : Box6 g3 (I a0) (I a1) (I a2) (I a3) (I a4) (I a5) W) :
    W.cell? ⟨g1, 0, none⟩ = some (I y) ∧ W.cell? ⟨g1, 1, none⟩ = some (I m) ∧ W.cell? ⟨g1, 2, none⟩ = some (I d) ∧ W.cell? ⟨g1, 3, none⟩ = some (I h) ∧ W.cell? ⟨g1, 4, none⟩ = some (I mi) ∧ W.cell? ⟨g1, 5, none⟩ = some (I s) ∧ W.cell? ⟨g2, 0, none⟩ = some (I a0) ∧ W.cell? ⟨g2, 1, none⟩ = some (I a1) ∧ W.cell? ⟨g2, 2, none⟩ = some (I a2) ∧ W.cell? ⟨g2, 3, none⟩ = some (I a3) ∧ W.cell? ⟨g2, 4, none⟩ = some (I a4) ∧ W.cell? ⟨g2, 5, none⟩ = some (I a5) ∧ W.cell? ⟨g3, 0, none⟩ = some (I a0) ∧ W.cell? ⟨g3, 1, none⟩ = some (I a1) ∧ W.cell? ⟨g3, 2, none⟩ = some (I a2) ∧ W.cell? ⟨g3, 3, none⟩ = some (I a3) ∧ W.cell? ⟨g3, 4, none⟩ = some (I a4) ∧ W.cell? ⟨g3, 5, none⟩ = some (I a5) :=
  ⟨h1.1, h1.2.1, h1.2.2.1, h1.2.2.2.1, h1.2.2.2.2.1, h1.2.2.2.2.2, h2.1, h2.2.1, h2.2.2.1, h2.2.2.2.1, h2.2.2.2.2.1, h2.2.2.2.2.2, h3.1, h3.2.1, h3.2.2.1, h3.2.2.2.1, h3.2.2.2.2.1, h3.2.2.2.2.2⟩
set_option maxRecDepth 100000 in
set_option maxHeartbeats 4000000 in
theorem clockDates_any (t y m d h mi s year month : Int) (w : World) (hT : Tab w) : Calls Tryd.prog 3 #[I t, D6 y m d h mi s, I year, I month] w fun e w' => e = .returned (.bool true) ∧ Below w.heap.size w w' := by
  obtain ⟨a0, a1, a2, a3, a4, a5, er, hD, hR, hX⟩ := both_Date t
  obtain ⟨tt, er2, hT1, hT2, hY⟩ := both_Time y m d h mi s
  obtain ⟨lb, er3, hL1, hL2⟩ := both_Leap year
  obtain ⟨dn, er4, hN1, hN2⟩ := both_Days year month
  have H8 := Lib.hid hD
  have H9 := Lib.hid hR
  have H10 := Lib.hid hT1
  have H11 := Lib.hid hT2
  have H12 := Lib.hid hL1
  have H13 := Lib.hid hL2
  have H14 := Lib.hid hN1
  have H15 := Lib.hid hN2
  have HT := Lib.hid hT
  obtain ⟨vbb, HVd⟩ : ∃ b, Hid (vdB y m d h mi s = b) := ⟨_, Lib.hid rfl⟩
  have H16 := Lib.hid (fun w => vd_h HVd.out w)
  have H17 := Lib.hid (fun w => rvd_h HVd.out w)
  have HX := Lib.hid hX
  have HY := Lib.hid hY
  obtain ⟨V, hV, v0, vb, vs⟩ := one_new w (.cells #[I y, I m, I d, I h, I mi, I s] 23)
  have F5 := Lib.hid (Box6.of v0)
  have HVB := Lib.hid vb
  have HV := Lib.hid hV
  have n1 := neq_self a0 a1 a2 a3 a4 a5
  clear hV v0 vb hD hR hT1 hT2 hL1 hL2 hN1 hN2 hT hX hY
  go_enter Tryd.func3, Tryd.ntmps3
  go_wp2_with (first | (go_at_call 8; rw [← HV.out]; (with_reducible refine (H8.out _).mono ?_); rintro e W1 ⟨rfl, hb⟩; replace F5 := Lib.hid (F5.out.after hb); replace HVB := Lib.hid (HVB.out.trans (hb.mono (by omega))); have z1 : w.heap.size < W1.heap.size := (by have := hb.size; omega); clear hb) | (go_at_call 9; (with_reducible refine (H9.out _).mono ?_); rintro e W2 ⟨rfl, hb⟩; replace F5 := Lib.hid ((F5.out.after ((Below.refl _ _).alloc (Nat.le_refl _) (.cells #[I a0, I a1, I a2, I a3, I a4, I a5] 23))).after hb); have F9 := Lib.hid ((Box6.of (heap_alloc_new W1 (.cells #[I a0, I a1, I a2, I a3, I a4, I a5] 23))).after hb); have z2 : W1.heap.size < W2.heap.size := (by have := hb.size; simp at this; omega); replace HVB := Lib.hid (HVB.out.trans ((below_new hb).mono (by omega))); obtain ⟨c0, c1, c2, c3, c4, c5⟩ := F5.out; have nz : w.heap.size < W2.heap.size := (by omega); clear hb) | (go_at_call 10; (with_reducible refine (H10.out _).mono ?_); rintro e W3 ⟨rfl, hb⟩; clear c0 c1 c2 c3 c4 c5 nz; replace F5 := Lib.hid ((F5.out.after ((Below.refl _ _).alloc (Nat.le_refl _) (.cells #[I a0, I a1, I a2, I a3, I a4, I a5] 23))).after hb); replace F9 := Lib.hid ((F9.out.after ((Below.refl _ _).alloc (Nat.le_refl _) (.cells #[I a0, I a1, I a2, I a3, I a4, I a5] 23))).after hb); have F11 := Lib.hid ((Box6.of (heap_alloc_new W2 (.cells #[I a0, I a1, I a2, I a3, I a4, I a5] 23))).after hb); have z3 : W2.heap.size < W3.heap.size := (by have := hb.size; simp at this; omega); replace HVB := Lib.hid (HVB.out.trans ((below_new hb).mono (by omega))); obtain ⟨c0, c1, c2, c3, c4, c5⟩ := F5.out; clear hb) | (go_at_call 11; (with_reducible refine (H11.out _).mono ?_); rintro e W4 ⟨rfl, hb⟩; clear c0 c1 c2 c3 c4 c5; replace F5 := Lib.hid (F5.out.after hb); replace F9 := Lib.hid (F9.out.after hb); replace F11 := Lib.hid (F11.out.after hb); have z4 : W3.heap.size ≤ W4.heap.size := hb.size; replace HVB := Lib.hid (HVB.out.trans (hb.mono (by omega))); clear hb) | (go_at_call 12; (with_reducible refine (H12.out _).mono ?_); rintro e w' ⟨rfl, rfl⟩) | (go_at_call 13; (with_reducible refine (H13.out _).mono ?_); rintro e w' ⟨rfl, rfl⟩) | (go_at_call 14; (with_reducible refine (H14.out _).mono ?_); rintro e w' ⟨rfl, rfl⟩) | (go_at_call 15; (with_reducible refine (H15.out _).mono ?_); rintro e w' ⟨rfl, rfl⟩))
  go_region_held3 (fun w' => (w'.cell? ⟨w.heap.size, 0, none⟩ = some (I y) ∧ w'.cell? ⟨w.heap.size, 1, none⟩ = some (I m) ∧ w'.cell? ⟨w.heap.size, 2, none⟩ = some (I d) ∧ w'.cell? ⟨w.heap.size, 3, none⟩ = some (I h) ∧ w'.cell? ⟨w.heap.size, 4, none⟩ = some (I mi) ∧ w'.cell? ⟨w.heap.size, 5, none⟩ = some (I s) ∧ w'.cell? ⟨W1.heap.size, 0, none⟩ = some (I a0) ∧ w'.cell? ⟨W1.heap.size, 1, none⟩ = some (I a1) ∧ w'.cell? ⟨W1.heap.size, 2, none⟩ = some (I a2) ∧ w'.cell? ⟨W1.heap.size, 3, none⟩ = some (I a3) ∧ w'.cell? ⟨W1.heap.size, 4, none⟩ = some (I a4) ∧ w'.cell? ⟨W1.heap.size, 5, none⟩ = some (I a5) ∧ w'.cell? ⟨W2.heap.size, 0, none⟩ = some (I a0) ∧ w'.cell? ⟨W2.heap.size, 1, none⟩ = some (I a1) ∧ w'.cell? ⟨W2.heap.size, 2, none⟩ = some (I a2) ∧ w'.cell? ⟨W2.heap.size, 3, none⟩ = some (I a3) ∧ w'.cell? ⟨W2.heap.size, 4, none⟩ = some (I a4) ∧ w'.cell? ⟨W2.heap.size, 5, none⟩ = some (I a5))) (first | exact all18 F5.out F9.out F11.out | exact all18 (F5.out.after (undrew hb6)) (F9.out.after (undrew hb6)) (F11.out.after (undrew hb6)) | exact all18 ((F5.out.after (undrew hb6)).after hb7) ((F9.out.after (undrew hb6)).after hb7) ((F11.out.after (undrew hb6)).after hb7)) ((first | (go_at_call 16; (with_reducible refine (H16.out _).mono ?_); rintro e W6 ⟨rfl, hb6⟩) | (go_at_call 17; (with_reducible refine (H17.out _).mono ?_); rintro e W7 ⟨rfl, hb7⟩)))
  have n2 := neq_self y m d h mi s
  have HF5 := Lib.hid ((F5.out.after (undrew hb6)).after hb7)
  have G5 := HF5
  replace HVB := Lib.hid ((HVB.out.trans ((undrew hb6).mono HVB.out.size)).trans (hb7.mono (Nat.le_trans HVB.out.size (undrew hb6).size)))
  clear HF5
  rcases HX.out with ⟨rfl, hx0⟩ | rfl <;> rcases HY.out with ⟨rfl, hy0⟩ | rfl
  · have HX0 := Lib.hid hx0
    have HY0 := Lib.hid hy0
    clear HX HY hx0 hy0
    go_wp2_with (first | (go_at_call 10; (with_reducible refine (HX0.out _).mono ?_); rintro e W8 ⟨rfl, hb8⟩; replace G5 := Lib.hid (G5.out.after hb8); replace HVB := Lib.hid (HVB.out.trans (hb8.mono HVB.out.size)); clear hb8) | (go_at_call 8; (with_reducible refine (HY0.out _).mono ?_); rintro e W9 ⟨rfl, hb9⟩; replace G5 := Lib.hid (G5.out.after hb9); replace HVB := Lib.hid (HVB.out.trans (hb9.mono HVB.out.size)); obtain ⟨c0, c1, c2, c3, c4, c5⟩ := G5.out; have nz : w.heap.size < W9.heap.size := World.block_lt_of_cell? W9 ⟨w.heap.size, 0, none⟩ c0; clear hb9) | (go_at_call 18; (with_reducible refine (awake_any _ (HT.out.after (by first | exact HVB.out | exact HVB.out.alloc HVB.out.size _))).mono ?_); rintro e Wz ⟨rfl, hbz⟩))
    go_ret
    exact ⟨rfl, (HVB.out.alloc HVB.out.size _).trans (hbz.mono (by have := HVB.out.size; simp; omega))⟩
  · have HX0 := Lib.hid hx0
    clear HX HY hx0
    go_wp2_with (first | (go_at_call 10; (with_reducible refine (HX0.out _).mono ?_); rintro e W8 ⟨rfl, hb8⟩; replace G5 := Lib.hid (G5.out.after hb8); replace HVB := Lib.hid (HVB.out.trans (hb8.mono HVB.out.size)); clear hb8) | (go_at_call 18; (with_reducible refine (awake_any _ (HT.out.after (by first | exact HVB.out | exact HVB.out.alloc HVB.out.size _))).mono ?_); rintro e Wz ⟨rfl, hbz⟩))
    go_ret
    exact ⟨rfl, HVB.out.trans (hbz.mono HVB.out.size)⟩
  · have HY0 := Lib.hid hy0
    clear HX HY hy0
    go_wp2_with (first | (go_at_call 8; (with_reducible refine (HY0.out _).mono ?_); rintro e W9 ⟨rfl, hb9⟩; replace G5 := Lib.hid (G5.out.after hb9); replace HVB := Lib.hid (HVB.out.trans (hb9.mono HVB.out.size)); obtain ⟨c0, c1, c2, c3, c4, c5⟩ := G5.out; have nz : w.heap.size < W9.heap.size := World.block_lt_of_cell? W9 ⟨w.heap.size, 0, none⟩ c0; clear hb9) | (go_at_call 18; (with_reducible refine (awake_any _ (HT.out.after (by first | exact HVB.out | exact HVB.out.alloc HVB.out.size _))).mono ?_); rintro e Wz ⟨rfl, hbz⟩))
    go_ret
    exact ⟨rfl, (HVB.out.alloc HVB.out.size _).trans (hbz.mono (by have := HVB.out.size; simp; omega))⟩
  · clear HX HY
    go_wp2_with (first | (go_at_call 18; (with_reducible refine (awake_any _ (HT.out.after (by first | exact HVB.out | exact HVB.out.alloc HVB.out.size _))).mono ?_); rintro e Wz ⟨rfl, hbz⟩))
    go_ret
    exact ⟨rfl, HVB.out.trans (hbz.mono HVB.out.size)⟩
end Go.Proofs.YtocdabmfcbmpaaaDoor
