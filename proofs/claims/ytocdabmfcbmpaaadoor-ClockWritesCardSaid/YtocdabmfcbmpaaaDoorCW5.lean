import Derived.Test.YtocdabmfcbmpaaaDoorCW4
namespace Go.Proofs.YtocdabmfcbmpaaaDoor
open Go.RowKit
set_option linter.unusedVariables false
set_option linter.unusedSimpArgs false
set_option maxRecDepth 100000
set_option maxHeartbeats 1000000
/-! ### the reference: the letters -/
theorem digits_any' (n : Int) (wi : Int) (wd : Nat) (hw : wi = wd) (hwd : wd ≤ 10) (h0 : -9223372036854775808 ≤ n) (h1 : n ≤ 9223372036854775807) (w : World) (ht : Tab w) : Calls Tryd.prog 89 #[I n, I wi] w fun e w' => e = .returned (.string (padS n wd)) ∧ Below w.heap.size w w' := by rw [hw]; exact digits_any n wd hwd h0 h1 w ht
theorem below_al {w W1 W2 : World} {o : Obj} (h1 : Below w.heap.size w W1) (h2 : Below (W1.alloc o).heap.size (W1.alloc o) W2) : Below w.heap.size w W2 :=
  h1.trans ((((Below.refl _ _).alloc (Nat.le_refl _) _).trans (h2.mono (by simp))).mono h1.size)
theorem ref_weekday_any' (t : Int) (w : World) (t0 : -62135596800 ≤ t) (t1 : t ≤ 253402300799) : Calls Tryd.prog 48 #[I t] w fun e w' => e = .returned (I (weekdayI t)) ∧ Below w.heap.size w w' := by
  have := ref_weekday_any t w t0 (by omega)
  rw [ref_weekday_eq] at this
  exact this.mono fun e w' ⟨he, hw⟩ => ⟨he, hw ▸ Below.refl _ _⟩
theorem lt_89 (t : Int) (w : World) (t0 : -62135596800 ≤ t) (t1 : t ≤ 253402300799) (hT : Tab w) : Calls Tryd.prog 62 #[I t, .int .u8 89] w fun e w' => e = .returned (.tuple #[.string (padS (g69 t) 4), .bool true]) ∧ Below w.heap.size w w' := by
  have hp := parts_bd t0 t1
  have HD := Lib.hid (fun w => ref_date_any t w (by omega) (by omega))
  have HT := Lib.hid hT
  rw [show dateV t = D6 (dYI (t / 86400)) (dMI (t / 86400)) (dDI (t / 86400)) (t % 86400 / 3600) (t % 86400 / 60 % 60) (t % 86400 % 60) from rfl] at HD
  simp only [g69, partG]
  generalize dYI (t / 86400) = Y at *
  generalize dMI (t / 86400) = M at *
  generalize dDI (t / 86400) = D at *
  generalize t % 86400 / 3600 = x3 at *
  generalize t % 86400 / 60 % 60 = x4 at *
  generalize t % 86400 % 60 = x5 at *
  have HDG := Lib.hid (fun w hw => digits_any' Y 4 4 rfl (by decide) (by omega) (by omega) w hw)
  clear hT
  unfold D6 at HD
  go_enter Tryd.func62, Tryd.ntmps62
  go_wp2_with (first | (go_at_call 36; (with_reducible refine (HD.out _).mono ?_); rintro e W1 ⟨rfl, hb1⟩; have HB1 := Lib.hid hb1; have HT1 := Lib.hid (HT.out.after hb1); clear hb1) | (go_at_call 89; (with_reducible refine (HDG.out _ (HT1.out.after ((Below.refl _ _).alloc (Nat.le_refl _) _))).mono ?_); rintro e W2 ⟨rfl, hb2⟩))
  go_ret2
  exact ⟨rfl, below_al HB1.out hb2⟩
theorem lt_121 (t : Int) (w : World) (t0 : -62135596800 ≤ t) (t1 : t ≤ 253402300799) (hT : Tab w) : Calls Tryd.prog 62 #[I t, .int .u8 121] w fun e w' => e = .returned (.tuple #[.string (padS (g70 t) 2), .bool true]) ∧ Below w.heap.size w w' := by
  have hp := parts_bd t0 t1
  have HD := Lib.hid (fun w => ref_date_any t w (by omega) (by omega))
  have HT := Lib.hid hT
  rw [show dateV t = D6 (dYI (t / 86400)) (dMI (t / 86400)) (dDI (t / 86400)) (t % 86400 / 3600) (t % 86400 / 60 % 60) (t % 86400 % 60) from rfl] at HD
  simp only [g70, partG]
  generalize dYI (t / 86400) = Y at *
  generalize dMI (t / 86400) = M at *
  generalize dDI (t / 86400) = D at *
  generalize t % 86400 / 3600 = x3 at *
  generalize t % 86400 / 60 % 60 = x4 at *
  generalize t % 86400 % 60 = x5 at *
  have HDG := Lib.hid (fun w hw => digits_any' (Y % 100) 2 2 rfl (by decide) (by omega) (by omega) w hw)
  clear hT
  unfold D6 at HD
  go_enter Tryd.func62, Tryd.ntmps62
  go_wp2_with (first | (go_at_call 36; (with_reducible refine (HD.out _).mono ?_); rintro e W1 ⟨rfl, hb1⟩; have HB1 := Lib.hid hb1; have HT1 := Lib.hid (HT.out.after hb1); clear hb1) | (go_at_call 89; (with_reducible refine (HDG.out _ (HT1.out.after ((Below.refl _ _).alloc (Nat.le_refl _) _))).mono ?_); rintro e W2 ⟨rfl, hb2⟩))
  go_ret2
  exact ⟨rfl, below_al HB1.out hb2⟩
theorem lt_109 (t : Int) (w : World) (t0 : -62135596800 ≤ t) (t1 : t ≤ 253402300799) (hT : Tab w) : Calls Tryd.prog 62 #[I t, .int .u8 109] w fun e w' => e = .returned (.tuple #[.string (padS (g67 t) 2), .bool true]) ∧ Below w.heap.size w w' := by
  have hp := parts_bd t0 t1
  have HD := Lib.hid (fun w => ref_date_any t w (by omega) (by omega))
  have HT := Lib.hid hT
  rw [show dateV t = D6 (dYI (t / 86400)) (dMI (t / 86400)) (dDI (t / 86400)) (t % 86400 / 3600) (t % 86400 / 60 % 60) (t % 86400 % 60) from rfl] at HD
  simp only [g67, partG]
  generalize dYI (t / 86400) = Y at *
  generalize dMI (t / 86400) = M at *
  generalize dDI (t / 86400) = D at *
  generalize t % 86400 / 3600 = x3 at *
  generalize t % 86400 / 60 % 60 = x4 at *
  generalize t % 86400 % 60 = x5 at *
  have HDG := Lib.hid (fun w hw => digits_any' M 2 2 rfl (by decide) (by omega) (by omega) w hw)
  clear hT
  unfold D6 at HD
  go_enter Tryd.func62, Tryd.ntmps62
  go_wp2_with (first | (go_at_call 36; (with_reducible refine (HD.out _).mono ?_); rintro e W1 ⟨rfl, hb1⟩; have HB1 := Lib.hid hb1; have HT1 := Lib.hid (HT.out.after hb1); clear hb1) | (go_at_call 89; (with_reducible refine (HDG.out _ (HT1.out.after ((Below.refl _ _).alloc (Nat.le_refl _) _))).mono ?_); rintro e W2 ⟨rfl, hb2⟩))
  go_ret2
  exact ⟨rfl, below_al HB1.out hb2⟩
theorem lt_100 (t : Int) (w : World) (t0 : -62135596800 ≤ t) (t1 : t ≤ 253402300799) (hT : Tab w) : Calls Tryd.prog 62 #[I t, .int .u8 100] w fun e w' => e = .returned (.tuple #[.string (padS (g71 t) 2), .bool true]) ∧ Below w.heap.size w w' := by
  have hp := parts_bd t0 t1
  have HD := Lib.hid (fun w => ref_date_any t w (by omega) (by omega))
  have HT := Lib.hid hT
  rw [show dateV t = D6 (dYI (t / 86400)) (dMI (t / 86400)) (dDI (t / 86400)) (t % 86400 / 3600) (t % 86400 / 60 % 60) (t % 86400 % 60) from rfl] at HD
  simp only [g71, partG]
  generalize dYI (t / 86400) = Y at *
  generalize dMI (t / 86400) = M at *
  generalize dDI (t / 86400) = D at *
  generalize t % 86400 / 3600 = x3 at *
  generalize t % 86400 / 60 % 60 = x4 at *
  generalize t % 86400 % 60 = x5 at *
  have HDG := Lib.hid (fun w hw => digits_any' D 2 2 rfl (by decide) (by omega) (by omega) w hw)
  clear hT
  unfold D6 at HD
  go_enter Tryd.func62, Tryd.ntmps62
  go_wp2_with (first | (go_at_call 36; (with_reducible refine (HD.out _).mono ?_); rintro e W1 ⟨rfl, hb1⟩; have HB1 := Lib.hid hb1; have HT1 := Lib.hid (HT.out.after hb1); clear hb1) | (go_at_call 89; (with_reducible refine (HDG.out _ (HT1.out.after ((Below.refl _ _).alloc (Nat.le_refl _) _))).mono ?_); rintro e W2 ⟨rfl, hb2⟩))
  go_ret2
  exact ⟨rfl, below_al HB1.out hb2⟩
theorem lt_72 (t : Int) (w : World) (t0 : -62135596800 ≤ t) (t1 : t ≤ 253402300799) (hT : Tab w) : Calls Tryd.prog 62 #[I t, .int .u8 72] w fun e w' => e = .returned (.tuple #[.string (padS (g72 t) 2), .bool true]) ∧ Below w.heap.size w w' := by
  have hp := parts_bd t0 t1
  have HD := Lib.hid (fun w => ref_date_any t w (by omega) (by omega))
  have HT := Lib.hid hT
  rw [show dateV t = D6 (dYI (t / 86400)) (dMI (t / 86400)) (dDI (t / 86400)) (t % 86400 / 3600) (t % 86400 / 60 % 60) (t % 86400 % 60) from rfl] at HD
  simp only [g72, partG]
  generalize dYI (t / 86400) = Y at *
  generalize dMI (t / 86400) = M at *
  generalize dDI (t / 86400) = D at *
  generalize t % 86400 / 3600 = x3 at *
  generalize t % 86400 / 60 % 60 = x4 at *
  generalize t % 86400 % 60 = x5 at *
  have HDG := Lib.hid (fun w hw => digits_any' x3 2 2 rfl (by decide) (by omega) (by omega) w hw)
  clear hT
  unfold D6 at HD
  go_enter Tryd.func62, Tryd.ntmps62
  go_wp2_with (first | (go_at_call 36; (with_reducible refine (HD.out _).mono ?_); rintro e W1 ⟨rfl, hb1⟩; have HB1 := Lib.hid hb1; have HT1 := Lib.hid (HT.out.after hb1); clear hb1) | (go_at_call 89; (with_reducible refine (HDG.out _ (HT1.out.after ((Below.refl _ _).alloc (Nat.le_refl _) _))).mono ?_); rintro e W2 ⟨rfl, hb2⟩))
  go_ret2
  exact ⟨rfl, below_al HB1.out hb2⟩
theorem lt_77 (t : Int) (w : World) (t0 : -62135596800 ≤ t) (t1 : t ≤ 253402300799) (hT : Tab w) : Calls Tryd.prog 62 #[I t, .int .u8 77] w fun e w' => e = .returned (.tuple #[.string (padS (g73 t) 2), .bool true]) ∧ Below w.heap.size w w' := by
  have hp := parts_bd t0 t1
  have HD := Lib.hid (fun w => ref_date_any t w (by omega) (by omega))
  have HT := Lib.hid hT
  rw [show dateV t = D6 (dYI (t / 86400)) (dMI (t / 86400)) (dDI (t / 86400)) (t % 86400 / 3600) (t % 86400 / 60 % 60) (t % 86400 % 60) from rfl] at HD
  simp only [g73, partG]
  generalize dYI (t / 86400) = Y at *
  generalize dMI (t / 86400) = M at *
  generalize dDI (t / 86400) = D at *
  generalize t % 86400 / 3600 = x3 at *
  generalize t % 86400 / 60 % 60 = x4 at *
  generalize t % 86400 % 60 = x5 at *
  have HDG := Lib.hid (fun w hw => digits_any' x4 2 2 rfl (by decide) (by omega) (by omega) w hw)
  clear hT
  unfold D6 at HD
  go_enter Tryd.func62, Tryd.ntmps62
  go_wp2_with (first | (go_at_call 36; (with_reducible refine (HD.out _).mono ?_); rintro e W1 ⟨rfl, hb1⟩; have HB1 := Lib.hid hb1; have HT1 := Lib.hid (HT.out.after hb1); clear hb1) | (go_at_call 89; (with_reducible refine (HDG.out _ (HT1.out.after ((Below.refl _ _).alloc (Nat.le_refl _) _))).mono ?_); rintro e W2 ⟨rfl, hb2⟩))
  go_ret2
  exact ⟨rfl, below_al HB1.out hb2⟩
theorem lt_83 (t : Int) (w : World) (t0 : -62135596800 ≤ t) (t1 : t ≤ 253402300799) (hT : Tab w) : Calls Tryd.prog 62 #[I t, .int .u8 83] w fun e w' => e = .returned (.tuple #[.string (padS (g74 t) 2), .bool true]) ∧ Below w.heap.size w w' := by
  have hp := parts_bd t0 t1
  have HD := Lib.hid (fun w => ref_date_any t w (by omega) (by omega))
  have HT := Lib.hid hT
  rw [show dateV t = D6 (dYI (t / 86400)) (dMI (t / 86400)) (dDI (t / 86400)) (t % 86400 / 3600) (t % 86400 / 60 % 60) (t % 86400 % 60) from rfl] at HD
  simp only [g74, partG]
  generalize dYI (t / 86400) = Y at *
  generalize dMI (t / 86400) = M at *
  generalize dDI (t / 86400) = D at *
  generalize t % 86400 / 3600 = x3 at *
  generalize t % 86400 / 60 % 60 = x4 at *
  generalize t % 86400 % 60 = x5 at *
  have HDG := Lib.hid (fun w hw => digits_any' x5 2 2 rfl (by decide) (by omega) (by omega) w hw)
  clear hT
  unfold D6 at HD
  go_enter Tryd.func62, Tryd.ntmps62
  go_wp2_with (first | (go_at_call 36; (with_reducible refine (HD.out _).mono ?_); rintro e W1 ⟨rfl, hb1⟩; have HB1 := Lib.hid hb1; have HT1 := Lib.hid (HT.out.after hb1); clear hb1) | (go_at_call 89; (with_reducible refine (HDG.out _ (HT1.out.after ((Below.refl _ _).alloc (Nat.le_refl _) _))).mono ?_); rintro e W2 ⟨rfl, hb2⟩))
  go_ret2
  exact ⟨rfl, below_al HB1.out hb2⟩
theorem lt_73 (t : Int) (w : World) (t0 : -62135596800 ≤ t) (t1 : t ≤ 253402300799) (hT : Tab w) : Calls Tryd.prog 62 #[I t, .int .u8 73] w fun e w' => e = .returned (.tuple #[.string (padS (g75 t) 2), .bool true]) ∧ Below w.heap.size w w' := by
  have hp := parts_bd t0 t1
  have HD := Lib.hid (fun w => ref_date_any t w (by omega) (by omega))
  have HT := Lib.hid hT
  rw [show dateV t = D6 (dYI (t / 86400)) (dMI (t / 86400)) (dDI (t / 86400)) (t % 86400 / 3600) (t % 86400 / 60 % 60) (t % 86400 % 60) from rfl] at HD
  simp only [g75, partG]
  generalize dYI (t / 86400) = Y at *
  generalize dMI (t / 86400) = M at *
  generalize dDI (t / 86400) = D at *
  generalize t % 86400 / 3600 = x3 at *
  generalize t % 86400 / 60 % 60 = x4 at *
  generalize t % 86400 % 60 = x5 at *
  have HDG := Lib.hid (fun w hw => digits_any' ((x3 + 11) % 12 + 1) 2 2 rfl (by decide) (by omega) (by omega) w hw)
  clear hT
  unfold D6 at HD
  go_enter Tryd.func62, Tryd.ntmps62
  go_wp2_with (first | (go_at_call 36; (with_reducible refine (HD.out _).mono ?_); rintro e W1 ⟨rfl, hb1⟩; have HB1 := Lib.hid hb1; have HT1 := Lib.hid (HT.out.after hb1); clear hb1) | (go_at_call 89; (with_reducible refine (HDG.out _ (HT1.out.after ((Below.refl _ _).alloc (Nat.le_refl _) _))).mono ?_); rintro e W2 ⟨rfl, hb2⟩))
  go_ret2
  exact ⟨rfl, below_al HB1.out hb2⟩
theorem dec_pos (u : Nat) : 1 ≤ (Lib.decDigits u).length := by
  rw [Lib.decDigits]
  split <;> simp
theorem itoa_pos (n : Int) : 1 ≤ (Lib.itoa n).length := by
  unfold Lib.itoa
  split
  · simp
  · exact dec_pos _
theorem pad_one (n : Int) : padS n 1 = itoS n := by
  have h := itoa_pos n
  rw [← dg_pad, show 1 - (Lib.itoa n).length = 0 by omega, ← dg_zero]; rfl
theorem lt_101 (t : Int) (w : World) (t0 : -62135596800 ≤ t) (t1 : t ≤ 253402300799) (hT : Tab w) : Calls Tryd.prog 62 #[I t, .int .u8 101] w fun e w' => e = .returned (.tuple #[.string (itoS (dDI (t / 86400))), .bool true]) ∧ Below w.heap.size w w' := by
  have hp := parts_bd t0 t1
  have HD := Lib.hid (fun w => ref_date_any t w (by omega) (by omega))
  have HT := Lib.hid hT
  rw [show dateV t = D6 (dYI (t / 86400)) (dMI (t / 86400)) (dDI (t / 86400)) (t % 86400 / 3600) (t % 86400 / 60 % 60) (t % 86400 % 60) from rfl] at HD
  rw [← pad_one]
  generalize dYI (t / 86400) = Y at *
  generalize dMI (t / 86400) = M at *
  generalize dDI (t / 86400) = D at *
  generalize t % 86400 / 3600 = x3 at *
  generalize t % 86400 / 60 % 60 = x4 at *
  generalize t % 86400 % 60 = x5 at *
  have HDG := Lib.hid (fun w hw => digits_any' D 1 1 rfl (by decide) (by omega) (by omega) w hw)
  clear hT
  unfold D6 at HD
  go_enter Tryd.func62, Tryd.ntmps62
  go_wp2_with (first | (go_at_call 36; (with_reducible refine (HD.out _).mono ?_); rintro e W1 ⟨rfl, hb1⟩; have HB1 := Lib.hid hb1; have HT1 := Lib.hid (HT.out.after hb1); clear hb1) | (go_at_call 89; (with_reducible refine (HDG.out _ (HT1.out.after ((Below.refl _ _).alloc (Nat.le_refl _) _))).mono ?_); rintro e W2 ⟨rfl, hb2⟩))
  go_ret2
  exact ⟨rfl, below_al HB1.out hb2⟩
theorem lt_115 (t : Int) (w : World) (t0 : -62135596800 ≤ t) (t1 : t ≤ 253402300799) (hT : Tab w) : Calls Tryd.prog 62 #[I t, .int .u8 115] w fun e w' => e = .returned (.tuple #[.string (itoS t), .bool true]) ∧ Below w.heap.size w w' := by
  have hp := parts_bd t0 t1
  have HD := Lib.hid (fun w => ref_date_any t w (by omega) (by omega))
  have HT := Lib.hid hT
  rw [show dateV t = D6 (dYI (t / 86400)) (dMI (t / 86400)) (dDI (t / 86400)) (t % 86400 / 3600) (t % 86400 / 60 % 60) (t % 86400 % 60) from rfl] at HD
  unfold itoS
  generalize dYI (t / 86400) = Y at *
  generalize dMI (t / 86400) = M at *
  generalize dDI (t / 86400) = D at *
  generalize t % 86400 / 3600 = x3 at *
  generalize t % 86400 / 60 % 60 = x4 at *
  generalize t % 86400 % 60 = x5 at *
  have HI := Lib.hid (fun w hw => itoa_any t (by omega) (by omega) w hw)
  clear hT
  unfold D6 at HD
  go_enter Tryd.func62, Tryd.ntmps62
  go_wp2_with (first | (go_at_call 36; (with_reducible refine (HD.out _).mono ?_); rintro e W1 ⟨rfl, hb1⟩; have HB1 := Lib.hid hb1; have HT1 := Lib.hid (HT.out.after hb1); clear hb1) | (go_at_call 84; (with_reducible refine (HI.out _ (HT1.out.after ((Below.refl _ _).alloc (Nat.le_refl _) _))).mono ?_); rintro e W2 ⟨rfl, hb2⟩))
  go_ret2
  exact ⟨rfl, below_al HB1.out hb2⟩
theorem lt_112 (t : Int) (w : World) (t0 : -62135596800 ≤ t) (t1 : t ≤ 253402300799) (hT : Tab w) : Calls Tryd.prog 62 #[I t, .int .u8 112] w fun e w' => e = .returned (.tuple #[.string (ampmL.getD ((partG (fun y m d h mi s => h / 12 + 1) t).toNat - 1) ⟨#[]⟩), .bool true]) ∧ Below w.heap.size w w' := by
  have hp := parts_bd t0 t1
  have HD := Lib.hid (fun w => ref_date_any t w (by omega) (by omega))
  have HT := Lib.hid hT
  rw [show dateV t = D6 (dYI (t / 86400)) (dMI (t / 86400)) (dDI (t / 86400)) (t % 86400 / 3600) (t % 86400 / 60 % 60) (t % 86400 % 60) from rfl] at HD
  simp only [partG]
  generalize dYI (t / 86400) = Y at *
  generalize dMI (t / 86400) = M at *
  generalize dDI (t / 86400) = D at *
  generalize t % 86400 / 3600 = x3 at *
  generalize t % 86400 / 60 % 60 = x4 at *
  generalize t % 86400 % 60 = x5 at *
  clear hT
  unfold D6 at HD
  go_enter Tryd.func62, Tryd.ntmps62
  by_cases hx : x3 < 12
  · have e0 : (x3 / 12 + 1).toNat - 1 = 0 := by omega
    rw [e0]
    go_wp2_with ((go_at_call 36; (with_reducible refine (HD.out _).mono ?_); rintro e W1 ⟨rfl, hb1⟩; have HB1 := Lib.hid hb1; have HT1 := Lib.hid (HT.out.after hb1); clear hb1))
    go_ret2
    exact ⟨rfl, HB1.out.trans ((Below.refl _ _).alloc HB1.out.size _)⟩
  · have e0 : (x3 / 12 + 1).toNat - 1 = 1 := by omega
    rw [e0]
    go_wp2_with ((go_at_call 36; (with_reducible refine (HD.out _).mono ?_); rintro e W1 ⟨rfl, hb1⟩; have HB1 := Lib.hid hb1; have HT1 := Lib.hid (HT.out.after hb1); clear hb1))
    go_ret2
    exact ⟨rfl, HB1.out.trans ((Below.refl _ _).alloc HB1.out.size _)⟩
theorem lt_106 (t : Int) (w : World) (t0 : -62135596800 ≤ t) (t1 : t ≤ 253402300799) (hT : Tab w) : Calls Tryd.prog 62 #[I t, .int .u8 106] w fun e w' => e = .returned (.tuple #[.string (padS (ydI t) 3), .bool true]) ∧ Below w.heap.size w w' := by
  have hp := parts_bd t0 t1
  have HD := Lib.hid (fun w => ref_date_any t w (by omega) (by omega))
  have HT := Lib.hid hT
  rw [show dateV t = D6 (dYI (t / 86400)) (dMI (t / 86400)) (dDI (t / 86400)) (t % 86400 / 3600) (t % 86400 / 60 % 60) (t % 86400 % 60) from rfl] at HD
  have HK := Lib.hid (fun w => ref_yearday_any t w t0 t1)
  have HDG := Lib.hid (fun w hw => digits_any' (ydI t) 3 3 rfl (by decide) (gyd_bd t t0 t1).1 (gyd_bd t t0 t1).2 w hw)
  generalize dYI (t / 86400) = Y at HD
  generalize dMI (t / 86400) = M at HD
  generalize dDI (t / 86400) = D at HD
  generalize t % 86400 / 3600 = x3 at HD
  generalize t % 86400 / 60 % 60 = x4 at HD
  generalize t % 86400 % 60 = x5 at HD
  clear hT hp
  unfold D6 at HD
  go_enter Tryd.func62, Tryd.ntmps62
  go_wp2_with (first | (go_at_call 36; (with_reducible refine (HD.out _).mono ?_); rintro e W1 ⟨rfl, hb1⟩; have HB1 := Lib.hid hb1; have HT1 := Lib.hid (HT.out.after hb1); clear hb1) | (go_at_call 50; (with_reducible refine (HK.out _).mono ?_); rintro e W2 ⟨rfl, hb2⟩; have HB2 := Lib.hid hb2; clear hb2) | (go_at_call 89; (with_reducible refine (HDG.out _ ((HT1.out.after ((Below.refl _ _).alloc (Nat.le_refl _) _)).after HB2.out)).mono ?_); rintro e W3 ⟨rfl, hb3⟩))
  go_ret2
  exact ⟨rfl, below_al HB1.out (HB2.out.trans (hb3.mono HB2.out.size))⟩
theorem lt_117 (t : Int) (w : World) (t0 : -62135596800 ≤ t) (t1 : t ≤ 253402300799) (hT : Tab w) : Calls Tryd.prog 62 #[I t, .int .u8 117] w fun e w' => e = .returned (.tuple #[.string (padS (weekdayI t) 1), .bool true]) ∧ Below w.heap.size w w' := by
  have hp := parts_bd t0 t1
  have HD := Lib.hid (fun w => ref_date_any t w (by omega) (by omega))
  have HT := Lib.hid hT
  rw [show dateV t = D6 (dYI (t / 86400)) (dMI (t / 86400)) (dDI (t / 86400)) (t % 86400 / 3600) (t % 86400 / 60 % 60) (t % 86400 % 60) from rfl] at HD
  have HK := Lib.hid (fun w => ref_weekday_any' t w t0 t1)
  have HDG := Lib.hid (fun w hw => digits_any' (weekdayI t) 1 1 rfl (by decide) (gwd_bd t t0 t1).1 (gwd_bd t t0 t1).2 w hw)
  generalize dYI (t / 86400) = Y at HD
  generalize dMI (t / 86400) = M at HD
  generalize dDI (t / 86400) = D at HD
  generalize t % 86400 / 3600 = x3 at HD
  generalize t % 86400 / 60 % 60 = x4 at HD
  generalize t % 86400 % 60 = x5 at HD
  clear hT hp
  unfold D6 at HD
  go_enter Tryd.func62, Tryd.ntmps62
  go_wp2_with (first | (go_at_call 36; (with_reducible refine (HD.out _).mono ?_); rintro e W1 ⟨rfl, hb1⟩; have HB1 := Lib.hid hb1; have HT1 := Lib.hid (HT.out.after hb1); clear hb1) | (go_at_call 48; (with_reducible refine (HK.out _).mono ?_); rintro e W2 ⟨rfl, hb2⟩; have HB2 := Lib.hid hb2; clear hb2) | (go_at_call 89; (with_reducible refine (HDG.out _ ((HT1.out.after ((Below.refl _ _).alloc (Nat.le_refl _) _)).after HB2.out)).mono ?_); rintro e W3 ⟨rfl, hb3⟩))
  go_ret2
  exact ⟨rfl, below_al HB1.out (HB2.out.trans (hb3.mono HB2.out.size))⟩
theorem lt_71 (t : Int) (w : World) (t0 : -62135596800 ≤ t) (t1 : t ≤ 253402300799) (hT : Tab w) : Calls Tryd.prog 62 #[I t, .int .u8 71] w fun e w' => e = .returned (.tuple #[.string (padS (wkY t) 4), .bool true]) ∧ Below w.heap.size w w' := by
  have hp := parts_bd t0 t1
  have HD := Lib.hid (fun w => ref_date_any t w (by omega) (by omega))
  have HT := Lib.hid hT
  rw [show dateV t = D6 (dYI (t / 86400)) (dMI (t / 86400)) (dDI (t / 86400)) (t % 86400 / 3600) (t % 86400 / 60 % 60) (t % 86400 % 60) from rfl] at HD
  have HK := Lib.hid (fun w => ref_week_any t w t0 t1)
  have HDG := Lib.hid (fun w hw => digits_any' (wkY t) 4 4 rfl (by decide) (gwy_bd t t0 t1).1 (gwy_bd t t0 t1).2 w hw)
  generalize dYI (t / 86400) = Y at HD
  generalize dMI (t / 86400) = M at HD
  generalize dDI (t / 86400) = D at HD
  generalize t % 86400 / 3600 = x3 at HD
  generalize t % 86400 / 60 % 60 = x4 at HD
  generalize t % 86400 % 60 = x5 at HD
  clear hT hp
  unfold D6 at HD
  go_enter Tryd.func62, Tryd.ntmps62
  go_wp2_with (first | (go_at_call 36; (with_reducible refine (HD.out _).mono ?_); rintro e W1 ⟨rfl, hb1⟩; have HB1 := Lib.hid hb1; have HT1 := Lib.hid (HT.out.after hb1); clear hb1) | (go_at_call 52; (with_reducible refine (HK.out _).mono ?_); rintro e W2 ⟨rfl, hb2⟩; have HB2 := Lib.hid hb2; clear hb2) | (go_at_call 89; (with_reducible refine (HDG.out _ ((HT1.out.after ((Below.refl _ _).alloc (Nat.le_refl _) _)).after HB2.out)).mono ?_); rintro e W3 ⟨rfl, hb3⟩))
  go_ret2
  exact ⟨rfl, below_al HB1.out (HB2.out.trans (hb3.mono HB2.out.size))⟩
theorem lt_86 (t : Int) (w : World) (t0 : -62135596800 ≤ t) (t1 : t ≤ 253402300799) (hT : Tab w) : Calls Tryd.prog 62 #[I t, .int .u8 86] w fun e w' => e = .returned (.tuple #[.string (padS (wkN t) 2), .bool true]) ∧ Below w.heap.size w w' := by
  have hp := parts_bd t0 t1
  have HD := Lib.hid (fun w => ref_date_any t w (by omega) (by omega))
  have HT := Lib.hid hT
  rw [show dateV t = D6 (dYI (t / 86400)) (dMI (t / 86400)) (dDI (t / 86400)) (t % 86400 / 3600) (t % 86400 / 60 % 60) (t % 86400 % 60) from rfl] at HD
  have HK := Lib.hid (fun w => ref_week_any t w t0 t1)
  have HDG := Lib.hid (fun w hw => digits_any' (wkN t) 2 2 rfl (by decide) (gwn_bd t t0 t1).1 (gwn_bd t t0 t1).2 w hw)
  generalize dYI (t / 86400) = Y at HD
  generalize dMI (t / 86400) = M at HD
  generalize dDI (t / 86400) = D at HD
  generalize t % 86400 / 3600 = x3 at HD
  generalize t % 86400 / 60 % 60 = x4 at HD
  generalize t % 86400 % 60 = x5 at HD
  clear hT hp
  unfold D6 at HD
  go_enter Tryd.func62, Tryd.ntmps62
  go_wp2_with (first | (go_at_call 36; (with_reducible refine (HD.out _).mono ?_); rintro e W1 ⟨rfl, hb1⟩; have HB1 := Lib.hid hb1; have HT1 := Lib.hid (HT.out.after hb1); clear hb1) | (go_at_call 52; (with_reducible refine (HK.out _).mono ?_); rintro e W2 ⟨rfl, hb2⟩; have HB2 := Lib.hid hb2; clear hb2) | (go_at_call 89; (with_reducible refine (HDG.out _ ((HT1.out.after ((Below.refl _ _).alloc (Nat.le_refl _) _)).after HB2.out)).mono ?_); rintro e W3 ⟨rfl, hb3⟩))
  go_ret2
  exact ⟨rfl, below_al HB1.out (HB2.out.trans (hb3.mono HB2.out.size))⟩
theorem lt_no (t : Int) (c : Nat) (w : World) (t0 : -62135596800 ≤ t) (t1 : t ≤ 253402300799) (hT : Tab w) (h89 : c ≠ 89) (h121 : c ≠ 121) (h109 : c ≠ 109) (h100 : c ≠ 100) (h72 : c ≠ 72) (h77 : c ≠ 77) (h83 : c ≠ 83) (h101 : c ≠ 101) (h73 : c ≠ 73) (h112 : c ≠ 112) (h106 : c ≠ 106) (h117 : c ≠ 117) (h71 : c ≠ 71) (h86 : c ≠ 86) (h66 : c ≠ 66) (h98 : c ≠ 98) (h65 : c ≠ 65) (h97 : c ≠ 97) (h115 : c ≠ 115) (h37 : c ≠ 37) : Calls Tryd.prog 62 #[I t, .int .u8 c] w fun e w' => e = .returned (.tuple #[.string ⟨#[]⟩, .bool false]) ∧ Below w.heap.size w w' := by
  have HD := Lib.hid (fun w => ref_date_any t w (by omega) (by omega))
  have HT := Lib.hid hT
  clear hT
  go_enter Tryd.func62, Tryd.ntmps62
  go_wp2_with ((go_at_call 36; (with_reducible refine (HD.out _).mono ?_); rintro e W1 ⟨rfl, hb1⟩; have HB1 := Lib.hid hb1; have HT1 := Lib.hid (HT.out.after hb1); clear hb1))
  go_ret2
  exact ⟨rfl, HB1.out.trans ((Below.refl _ _).alloc HB1.out.size _)⟩
theorem lt_37 (t : Int) (w : World) (t0 : -62135596800 ≤ t) (t1 : t ≤ 253402300799) (hT : Tab w) : Calls Tryd.prog 62 #[I t, .int .u8 37] w fun e w' => e = .returned (.tuple #[.string (⟨#[37]⟩), .bool true]) ∧ Below w.heap.size w w' := by
  have hp := parts_bd t0 t1
  have HD := Lib.hid (fun w => ref_date_any t w (by omega) (by omega))
  have HT := Lib.hid hT
  rw [show dateV t = D6 (dYI (t / 86400)) (dMI (t / 86400)) (dDI (t / 86400)) (t % 86400 / 3600) (t % 86400 / 60 % 60) (t % 86400 % 60) from rfl] at HD
  clear hT hp
  go_enter Tryd.func62, Tryd.ntmps62
  go_wp2_with ((go_at_call 36; (with_reducible refine (HD.out _).mono ?_); rintro e W1 ⟨rfl, hb1⟩; have HB1 := Lib.hid hb1; have HT1 := Lib.hid (HT.out.after hb1); clear hb1))
  go_ret2
  exact ⟨rfl, HB1.out.trans ((Below.refl _ _).alloc HB1.out.size _)⟩
end Go.Proofs.YtocdabmfcbmpaaaDoor
