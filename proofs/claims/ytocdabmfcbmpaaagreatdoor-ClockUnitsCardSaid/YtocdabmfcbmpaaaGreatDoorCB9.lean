import Derived.Test.YtocdabmfcbmpaaaGreatDoorCB8
namespace Go.Proofs.YtocdabmfcbmpaaaGreatDoor
open Go.RowKit
set_option linter.unusedVariables false
set_option linter.unusedSimpArgs false

theorem vd_h {y m d h mi s : Int} {b : Bool} (hv : vdB y m d h mi s = b) (w : World) : Calls Tryz.prog 100 #[.agg #[I y, I m, I d, I h, I mi, I s]] w fun e w' => e = .returned (.bool b) ∧ Below w.heap.size w w' := by rw [← hv]; exact valid_any y m d h mi s w
theorem rvd_h {y m d h mi s : Int} {b : Bool} (hv : vdB y m d h mi s = b) (w : World) : Calls Tryz.prog 63 #[.agg #[I y, I m, I d, I h, I mi, I s]] w fun e w' => e = .returned (.bool b) ∧ Below w.heap.size w w' := by rw [← hv]; exact ref_valid_any y m d h mi s w
theorem vd_of {y m d h mi s : Int} (hv : vdB y m d h mi s = true) : vdP y m d h mi s := of_decide_eq_true hv
theorem rTime_no {y m d h mi s : Int} (hv : vdB y m d h mi s = false) (w : World) : Calls Tryz.prog 32 #[.agg #[I y, I m, I d, I h, I mi, I s]] w fun e w' => e = .returned (.tuple #[I 0, E 1]) ∧ Below w.heap.size w w' := by
  have H := Lib.hid (fun w => rvd_h hv w)
  clear hv
  go_enter Tryz.func32, Tryz.ntmps32
  go_wp2_with ((go_at_call 63; (with_reducible refine (H.out _).mono ?_); rintro e V1 ⟨rfl, hb1⟩; have HB1 := Lib.hid hb1; clear hb1))
  go_ret2
  exact ⟨rfl, below_new HB1.out⟩
theorem nu_bd {y m d : Int} (hy : 1 ≤ y ∧ y ≤ 9999) (h : Dt y m d) : 0 ≤ nuI y m d ∧ nuI y m d ≤ 3652058 := by
  have h1 := h.lo
  have h2 := h.hi
  have h3 := ys_mono 1 y hy.1
  have h4 := ys_mono (y + 1) 10000 (by omega)
  rw [ys_one] at h3
  rw [show ysI 10000 = 3652059 by decide] at h4
  omega
set_option maxHeartbeats 1000000 in
theorem rTime_ok {y m d h mi s : Int} (hv : vdB y m d h mi s = true) (w : World) : Calls Tryz.prog 32 #[.agg #[I y, I m, I d, I h, I mi, I s]] w fun e w' => e = .returned (.tuple #[I (tmI y m d h mi s), E 0]) ∧ Below w.heap.size w w' := by
  have hP := vd_of hv
  have hs := vd_small hP
  have hy := hP.1
  have HN := Lib.hid (fun w => number_any y m d w (by omega) (by omega) hP.2.1.1 (by have := hP.2.1.2.1; omega) (by omega) (by omega))
  have hn := nu_bd hy hP.2.1
  have HE : Hid (tmI y m d h mi s = -62135596800 + nuI y m d * 86400 + h * 3600 + mi * 60 + s) := Lib.hid (by unfold tmI; rw [dn_nu hP.2.1.1 hP.2.1.2.1]; omega)
  have H := Lib.hid (fun w => rvd_h hv w)
  clear hP hv
  generalize nuI y m d = n at *
  obtain ⟨V, hV, v0, vb, vs⟩ := one_new w (.cells #[I y, I m, I d, I h, I mi, I s] 41)
  have F0 := Lib.hid (Box6.of v0)
  have HVB := Lib.hid vb
  have HV := Lib.hid hV
  clear hV v0 vb
  go_enter Tryz.func32, Tryz.ntmps32
  go_wp2_with ((go_at_call 63; (with_reducible refine (H.out _).mono ?_); rintro e V1 ⟨rfl, hb1⟩; rw [← HV.out] at hb1; obtain ⟨c0, c1, c2, c3, c4, c5⟩ := F0.out.after hb1; have HB1 := Lib.hid hb1; clear hb1))
  have w1 : IntKind.i64.wrap (n * 86400) = n * 86400 := IntWalk.i64_in _ (by omega)
  have w2 : IntKind.i64.wrap (-62135596800 + n * 86400) = -62135596800 + n * 86400 := IntWalk.i64_in _ (by omega)
  have w3 : IntKind.i64.wrap (h * 3600) = h * 3600 := IntWalk.i64_in _ (by omega)
  have w4 : IntKind.i64.wrap (-62135596800 + n * 86400 + h * 3600) = -62135596800 + n * 86400 + h * 3600 := IntWalk.i64_in _ (by omega)
  have w5 : IntKind.i64.wrap (mi * 60) = mi * 60 := IntWalk.i64_in _ (by omega)
  have w6 : IntKind.i64.wrap (-62135596800 + n * 86400 + h * 3600 + mi * 60) = -62135596800 + n * 86400 + h * 3600 + mi * 60 := IntWalk.i64_in _ (by omega)
  have w7 : IntKind.i64.wrap (-62135596800 + n * 86400 + h * 3600 + mi * 60 + s) = -62135596800 + n * 86400 + h * 3600 + mi * 60 + s := IntWalk.i64_in _ (by omega)
  go_quiet ((go_at_call 35; with_reducible exact quiet_left (HN.out _)))
  clear w1 w2 w3 w4 w5 w6 w7
  go_wp2
  go_ret2
  exact ⟨by rw [HE.out]; rfl, below_drewN (HVB.out.trans (HB1.out.mono (by omega))) _⟩
theorem year_in {y : Int} {b : Bool} (h : inB y 1 9999 = b) (w : World) : Calls Tryz.prog 29 #[I y, I 1, I 9999] w fun e w' => e = .returned (.bool b) ∧ w = w' := in_h h w
end Go.Proofs.YtocdabmfcbmpaaaGreatDoor
