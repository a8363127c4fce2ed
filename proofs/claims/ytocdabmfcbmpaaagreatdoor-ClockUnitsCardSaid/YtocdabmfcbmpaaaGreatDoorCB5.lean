import Derived.Test.YtocdabmfcbmpaaaGreatDoorCB4
namespace Go.Proofs.YtocdabmfcbmpaaaGreatDoor
open Go.RowKit
set_option linter.unusedVariables false
set_option linter.unusedSimpArgs false

/-- a date that is valid. -/
def vdP (y m d h mi s : Int) : Prop := (1 ≤ y ∧ y ≤ 9999) ∧ Dt y m d ∧ (0 ≤ h ∧ h ≤ 23) ∧ (0 ≤ mi ∧ mi ≤ 59) ∧ (0 ≤ s ∧ s ≤ 59)
instance (y m d h mi s : Int) : Decidable (vdP y m d h mi s) := by unfold vdP Dt; infer_instance
def vdB (y m d h mi s : Int) : Bool := decide (vdP y m d h mi s)
theorem tm_div {y m d h mi s : Int} (h0 : 0 ≤ h ∧ h ≤ 23) (i0 : 0 ≤ mi ∧ mi ≤ 59) (s0 : 0 ≤ s ∧ s ≤ 59) : tmI y m d h mi s / 86400 = dnI y m d ∧ tmI y m d h mi s % 86400 = h * 3600 + mi * 60 + s := by
  unfold tmI; omega
theorem clock_of {h mi s : Int} (h0 : 0 ≤ h ∧ h ≤ 23) (i0 : 0 ≤ mi ∧ mi ≤ 59) (s0 : 0 ≤ s ∧ s ≤ 59) : (h * 3600 + mi * 60 + s) / 3600 = h ∧ (h * 3600 + mi * 60 + s) / 60 % 60 = mi ∧ (h * 3600 + mi * 60 + s) % 60 = s := by omega
/-- what a date's time has for its date: the date itself, if it is valid. -/
theorem back_of {y m d h mi s : Int} (hv : vdP y m d h mi s) : dateV (tmI y m d h mi s) = .agg #[I y, I m, I d, I h, I mi, I s] := by
  obtain ⟨h1, h2, h3, h4, h5⟩ := hv
  obtain ⟨e1, e2⟩ := tm_div (y := y) (m := m) (d := d) h3 h4 h5
  obtain ⟨e3, e4, e5⟩ := clock_of h3 h4 h5
  obtain ⟨e6, e7, e8⟩ := date_nu h2
  unfold dateV
  rw [e1, e2, e3, e4, e5, e6, e7, e8]
theorem back_iff {y m d h mi s : Int} (hy : 1 ≤ y ∧ y ≤ 9999) : (dYI (tmI y m d h mi s / 86400) = y ∧ dMI (tmI y m d h mi s / 86400) = m ∧ dDI (tmI y m d h mi s / 86400) = d ∧ tmI y m d h mi s % 86400 / 3600 = h ∧ tmI y m d h mi s % 86400 / 60 % 60 = mi ∧ tmI y m d h mi s % 86400 % 60 = s) ↔ vdP y m d h mi s := by
  constructor
  · rintro ⟨h1, h2, h3, h4, h5, h6⟩
    have := dt_date (tmI y m d h mi s / 86400)
    rw [h1, h2, h3] at this
    exact ⟨hy, this, by omega, by omega, by omega⟩
  · intro hv
    have := back_of hv
    simp only [dateV, Value.agg.injEq, Array.mk.injEq, List.cons.injEq, Value.int.injEq, true_and, and_true] at this
    exact this
theorem vd_small {y m d h mi s : Int} (hv : vdP y m d h mi s) : (0 ≤ m ∧ m ≤ 99) ∧ (0 ≤ d ∧ d ≤ 99) ∧ (0 ≤ h ∧ h ≤ 99) ∧ (0 ≤ mi ∧ mi ≤ 99) ∧ (0 ≤ s ∧ s ≤ 99) := by
  obtain ⟨h1, ⟨a, b, c, d⟩, h3, h4, h5⟩ := hv
  have := ml_bd y m
  omega
theorem year_h {y : Int} {b : Bool} (h : inB y 1 9999 = b) (w : World) : Calls Tryz.prog 57 #[I y] w fun e w' => e = .returned (.bool b) ∧ w = w' := by rw [← h]; exact isYear_any y w
theorem small_h {y : Int} {b : Bool} (h : inB y 0 99 = b) (w : World) : Calls Tryz.prog 138 #[I y] w fun e w' => e = .returned (.bool b) ∧ w = w' := by rw [← h]; exact small_any y w
theorem ret_b {a b : Bool} (h : a = b) : Ending.returned (.bool a) = .returned (.bool b) := by rw [h]
theorem vd_no {y m d h mi s : Int} (hv : ¬ vdP y m d h mi s) : vdB y m d h mi s = false := decide_eq_false hv
theorem vd_yes {y m d h mi s : Int} (hv : vdP y m d h mi s) : vdB y m d h mi s = true := decide_eq_true hv
set_option maxRecDepth 100000 in
set_option maxHeartbeats 1000000 in
theorem valid_no0 {y m d h mi s : Int} (w : World) (h0 : inB y 1 9999 = false) : Calls Tryz.prog 100 #[.agg #[I y, I m, I d, I h, I mi, I s]] w fun e w' => e = .returned (.bool false) ∧ Below w.heap.size w w' := by
  have H0 := Lib.hid (fun w => year_h h0 w)
  clear h0
  go_enter Tryz.func100, Tryz.ntmps100
  go_wp2
  go_quiet ((first | (go_at_call 57; with_reducible exact quiet_left (H0.out _))))
  go_wp2
  go_ret
  exact ⟨rfl, below_drewN ((Below.refl _ _).alloc (Nat.le_refl _) _) _⟩
set_option maxRecDepth 100000 in
set_option maxHeartbeats 1000000 in
theorem valid_no1 {y m d h mi s : Int} (w : World) (h0 : inB y 1 9999 = true) (h1 : inB m 0 99 = false) : Calls Tryz.prog 100 #[.agg #[I y, I m, I d, I h, I mi, I s]] w fun e w' => e = .returned (.bool false) ∧ Below w.heap.size w w' := by
  have H0 := Lib.hid (fun w => year_h h0 w)
  have H1 := Lib.hid (fun w => small_h h1 w)
  clear h0 h1
  go_enter Tryz.func100, Tryz.ntmps100
  go_wp2
  go_quiet ((first | (go_at_call 57; with_reducible exact quiet_left (H0.out _)) | (go_at_call 138; with_reducible exact quiet_left (H1.out _))))
  go_wp2
  go_ret
  exact ⟨rfl, below_drewN ((Below.refl _ _).alloc (Nat.le_refl _) _) _⟩
set_option maxRecDepth 100000 in
set_option maxHeartbeats 1000000 in
theorem valid_no2 {y m d h mi s : Int} (w : World) (h0 : inB y 1 9999 = true) (h1 : inB m 0 99 = true) (h2 : inB d 0 99 = false) : Calls Tryz.prog 100 #[.agg #[I y, I m, I d, I h, I mi, I s]] w fun e w' => e = .returned (.bool false) ∧ Below w.heap.size w w' := by
  have H0 := Lib.hid (fun w => year_h h0 w)
  have H1 := Lib.hid (fun w => small_h h1 w)
  have H2 := Lib.hid (fun w => small_h h2 w)
  clear h0 h1 h2
  go_enter Tryz.func100, Tryz.ntmps100
  go_wp2
  go_quiet ((first | (go_at_call 57; with_reducible exact quiet_left (H0.out _)) | (go_at_call 138; with_reducible exact quiet_left (H1.out _)) | (go_at_call 138; with_reducible exact quiet_left (H2.out _))))
  go_wp2
  go_ret
  exact ⟨rfl, below_drewN ((Below.refl _ _).alloc (Nat.le_refl _) _) _⟩
set_option maxRecDepth 100000 in
set_option maxHeartbeats 1000000 in
theorem valid_no3 {y m d h mi s : Int} (w : World) (h0 : inB y 1 9999 = true) (h1 : inB m 0 99 = true) (h2 : inB d 0 99 = true) (h3 : inB h 0 99 = false) : Calls Tryz.prog 100 #[.agg #[I y, I m, I d, I h, I mi, I s]] w fun e w' => e = .returned (.bool false) ∧ Below w.heap.size w w' := by
  have H0 := Lib.hid (fun w => year_h h0 w)
  have H1 := Lib.hid (fun w => small_h h1 w)
  have H2 := Lib.hid (fun w => small_h h2 w)
  have H3 := Lib.hid (fun w => small_h h3 w)
  clear h0 h1 h2 h3
  go_enter Tryz.func100, Tryz.ntmps100
  go_wp2
  go_quiet ((first | (go_at_call 57; with_reducible exact quiet_left (H0.out _)) | (go_at_call 138; with_reducible exact quiet_left (H1.out _)) | (go_at_call 138; with_reducible exact quiet_left (H2.out _)) | (go_at_call 138; with_reducible exact quiet_left (H3.out _))))
  go_wp2
  go_ret
  exact ⟨rfl, below_drewN ((Below.refl _ _).alloc (Nat.le_refl _) _) _⟩
set_option maxRecDepth 100000 in
set_option maxHeartbeats 1000000 in
theorem valid_no4 {y m d h mi s : Int} (w : World) (h0 : inB y 1 9999 = true) (h1 : inB m 0 99 = true) (h2 : inB d 0 99 = true) (h3 : inB h 0 99 = true) (h4 : inB mi 0 99 = false) : Calls Tryz.prog 100 #[.agg #[I y, I m, I d, I h, I mi, I s]] w fun e w' => e = .returned (.bool false) ∧ Below w.heap.size w w' := by
  have H0 := Lib.hid (fun w => year_h h0 w)
  have H1 := Lib.hid (fun w => small_h h1 w)
  have H2 := Lib.hid (fun w => small_h h2 w)
  have H3 := Lib.hid (fun w => small_h h3 w)
  have H4 := Lib.hid (fun w => small_h h4 w)
  clear h0 h1 h2 h3 h4
  go_enter Tryz.func100, Tryz.ntmps100
  go_wp2
  go_quiet ((first | (go_at_call 57; with_reducible exact quiet_left (H0.out _)) | (go_at_call 138; with_reducible exact quiet_left (H1.out _)) | (go_at_call 138; with_reducible exact quiet_left (H2.out _)) | (go_at_call 138; with_reducible exact quiet_left (H3.out _)) | (go_at_call 138; with_reducible exact quiet_left (H4.out _))))
  go_wp2
  go_ret
  exact ⟨rfl, below_drewN ((Below.refl _ _).alloc (Nat.le_refl _) _) _⟩
set_option maxRecDepth 100000 in
set_option maxHeartbeats 1000000 in
theorem valid_no5 {y m d h mi s : Int} (w : World) (h0 : inB y 1 9999 = true) (h1 : inB m 0 99 = true) (h2 : inB d 0 99 = true) (h3 : inB h 0 99 = true) (h4 : inB mi 0 99 = true) (h5 : inB s 0 99 = false) : Calls Tryz.prog 100 #[.agg #[I y, I m, I d, I h, I mi, I s]] w fun e w' => e = .returned (.bool false) ∧ Below w.heap.size w w' := by
  have H0 := Lib.hid (fun w => year_h h0 w)
  have H1 := Lib.hid (fun w => small_h h1 w)
  have H2 := Lib.hid (fun w => small_h h2 w)
  have H3 := Lib.hid (fun w => small_h h3 w)
  have H4 := Lib.hid (fun w => small_h h4 w)
  have H5 := Lib.hid (fun w => small_h h5 w)
  clear h0 h1 h2 h3 h4 h5
  go_enter Tryz.func100, Tryz.ntmps100
  go_wp2
  go_quiet ((first | (go_at_call 57; with_reducible exact quiet_left (H0.out _)) | (go_at_call 138; with_reducible exact quiet_left (H1.out _)) | (go_at_call 138; with_reducible exact quiet_left (H2.out _)) | (go_at_call 138; with_reducible exact quiet_left (H3.out _)) | (go_at_call 138; with_reducible exact quiet_left (H4.out _)) | (go_at_call 138; with_reducible exact quiet_left (H5.out _))))
  go_wp2
  go_ret
  exact ⟨rfl, below_drewN ((Below.refl _ _).alloc (Nat.le_refl _) _) _⟩
end Go.Proofs.YtocdabmfcbmpaaaGreatDoor
