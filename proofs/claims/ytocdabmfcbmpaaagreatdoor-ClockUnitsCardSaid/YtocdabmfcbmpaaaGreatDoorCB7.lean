import Derived.Test.YtocdabmfcbmpaaaGreatDoorCB5
namespace Go.Proofs.YtocdabmfcbmpaaaGreatDoor
open Go.RowKit
set_option linter.unusedVariables false
set_option linter.unusedSimpArgs false

theorem in_h {n lo hi : Int} {b : Bool} (h : inB n lo hi = b) (w : World) : Calls Tryz.prog 29 #[I n, I lo, I hi] w fun e w' => e = .returned (.bool b) ∧ w = w' := by rw [← h]; exact in_any n lo hi w
set_option maxRecDepth 100000 in
set_option maxHeartbeats 1000000 in
theorem ref_valid_no0 {y m d h mi s : Int} (w : World) (h0 : inB y 1 9999 = false) : Calls Tryz.prog 63 #[.agg #[I y, I m, I d, I h, I mi, I s]] w fun e w' => e = .returned (.bool false) ∧ Below w.heap.size w w' := by
  have H0 := Lib.hid (fun w => in_h h0 w)
  clear h0
  go_enter Tryz.func63, Tryz.ntmps63
  go_wp2
  go_quiet ((first | (go_at_call 29; with_reducible exact quiet_left (H0.out _))))
  go_wp2
  go_ret
  exact ⟨rfl, below_drewN ((Below.refl _ _).alloc (Nat.le_refl _) _) _⟩
set_option maxRecDepth 100000 in
set_option maxHeartbeats 1000000 in
theorem ref_valid_no1 {y m d h mi s : Int} (w : World) (h0 : inB y 1 9999 = true) (h1 : inB m 1 12 = false) : Calls Tryz.prog 63 #[.agg #[I y, I m, I d, I h, I mi, I s]] w fun e w' => e = .returned (.bool false) ∧ Below w.heap.size w w' := by
  have H0 := Lib.hid (fun w => in_h h0 w)
  have H1 := Lib.hid (fun w => in_h h1 w)
  clear h0 h1
  go_enter Tryz.func63, Tryz.ntmps63
  go_wp2
  go_quiet ((first | (go_at_call 29; with_reducible exact quiet_left (H0.out _)) | (go_at_call 29; with_reducible exact quiet_left (H1.out _))))
  go_wp2
  go_ret
  exact ⟨rfl, below_drewN ((Below.refl _ _).alloc (Nat.le_refl _) _) _⟩
set_option maxRecDepth 100000 in
set_option maxHeartbeats 1000000 in
theorem ref_valid_no2 {y m d h mi s : Int} (w : World) (h0 : inB y 1 9999 = true) (h1 : inB m 1 12 = true) (h2 : inB d 1 (mlI y m) = false) : Calls Tryz.prog 63 #[.agg #[I y, I m, I d, I h, I mi, I s]] w fun e w' => e = .returned (.bool false) ∧ Below w.heap.size w w' := by
  have H0 := Lib.hid (fun w => in_h h0 w)
  have H1 := Lib.hid (fun w => in_h h1 w)
  have H2 := Lib.hid (fun w => in_h h2 w)
  have b0 := inB_iff.1 h0
  have HL := Lib.hid (fun w => length_any y m w (by omega) (by omega))
  clear h0 h1 h2
  go_enter Tryz.func63, Tryz.ntmps63
  go_wp2
  go_quiet ((first | (go_at_call 29; with_reducible exact quiet_left (H0.out _)) | (go_at_call 29; with_reducible exact quiet_left (H1.out _)) | (go_at_call 29; with_reducible exact quiet_left (H2.out _)) | (go_at_call 31; with_reducible exact quiet_left (HL.out _))))
  go_wp2
  go_ret
  exact ⟨rfl, below_drewN ((Below.refl _ _).alloc (Nat.le_refl _) _) _⟩
set_option maxRecDepth 100000 in
set_option maxHeartbeats 1000000 in
theorem ref_valid_no3 {y m d h mi s : Int} (w : World) (h0 : inB y 1 9999 = true) (h1 : inB m 1 12 = true) (h2 : inB d 1 (mlI y m) = true) (h3 : inB h 0 23 = false) : Calls Tryz.prog 63 #[.agg #[I y, I m, I d, I h, I mi, I s]] w fun e w' => e = .returned (.bool false) ∧ Below w.heap.size w w' := by
  have H0 := Lib.hid (fun w => in_h h0 w)
  have H1 := Lib.hid (fun w => in_h h1 w)
  have H2 := Lib.hid (fun w => in_h h2 w)
  have H3 := Lib.hid (fun w => in_h h3 w)
  have b0 := inB_iff.1 h0
  have HL := Lib.hid (fun w => length_any y m w (by omega) (by omega))
  clear h0 h1 h2 h3
  go_enter Tryz.func63, Tryz.ntmps63
  go_wp2
  go_quiet ((first | (go_at_call 29; with_reducible exact quiet_left (H0.out _)) | (go_at_call 29; with_reducible exact quiet_left (H1.out _)) | (go_at_call 29; with_reducible exact quiet_left (H2.out _)) | (go_at_call 29; with_reducible exact quiet_left (H3.out _)) | (go_at_call 31; with_reducible exact quiet_left (HL.out _))))
  go_wp2
  go_ret
  exact ⟨rfl, below_drewN ((Below.refl _ _).alloc (Nat.le_refl _) _) _⟩
set_option maxRecDepth 100000 in
set_option maxHeartbeats 1000000 in
theorem ref_valid_no4 {y m d h mi s : Int} (w : World) (h0 : inB y 1 9999 = true) (h1 : inB m 1 12 = true) (h2 : inB d 1 (mlI y m) = true) (h3 : inB h 0 23 = true) (h4 : inB mi 0 59 = false) : Calls Tryz.prog 63 #[.agg #[I y, I m, I d, I h, I mi, I s]] w fun e w' => e = .returned (.bool false) ∧ Below w.heap.size w w' := by
  have H0 := Lib.hid (fun w => in_h h0 w)
  have H1 := Lib.hid (fun w => in_h h1 w)
  have H2 := Lib.hid (fun w => in_h h2 w)
  have H3 := Lib.hid (fun w => in_h h3 w)
  have H4 := Lib.hid (fun w => in_h h4 w)
  have b0 := inB_iff.1 h0
  have HL := Lib.hid (fun w => length_any y m w (by omega) (by omega))
  clear h0 h1 h2 h3 h4
  go_enter Tryz.func63, Tryz.ntmps63
  go_wp2
  go_quiet ((first | (go_at_call 29; with_reducible exact quiet_left (H0.out _)) | (go_at_call 29; with_reducible exact quiet_left (H1.out _)) | (go_at_call 29; with_reducible exact quiet_left (H2.out _)) | (go_at_call 29; with_reducible exact quiet_left (H3.out _)) | (go_at_call 29; with_reducible exact quiet_left (H4.out _)) | (go_at_call 31; with_reducible exact quiet_left (HL.out _))))
  go_wp2
  go_ret
  exact ⟨rfl, below_drewN ((Below.refl _ _).alloc (Nat.le_refl _) _) _⟩
set_option maxRecDepth 100000 in
set_option maxHeartbeats 1000000 in
theorem ref_valid_no5 {y m d h mi s : Int} (w : World) (h0 : inB y 1 9999 = true) (h1 : inB m 1 12 = true) (h2 : inB d 1 (mlI y m) = true) (h3 : inB h 0 23 = true) (h4 : inB mi 0 59 = true) (h5 : inB s 0 59 = false) : Calls Tryz.prog 63 #[.agg #[I y, I m, I d, I h, I mi, I s]] w fun e w' => e = .returned (.bool false) ∧ Below w.heap.size w w' := by
  have H0 := Lib.hid (fun w => in_h h0 w)
  have H1 := Lib.hid (fun w => in_h h1 w)
  have H2 := Lib.hid (fun w => in_h h2 w)
  have H3 := Lib.hid (fun w => in_h h3 w)
  have H4 := Lib.hid (fun w => in_h h4 w)
  have H5 := Lib.hid (fun w => in_h h5 w)
  have b0 := inB_iff.1 h0
  have HL := Lib.hid (fun w => length_any y m w (by omega) (by omega))
  clear h0 h1 h2 h3 h4 h5
  go_enter Tryz.func63, Tryz.ntmps63
  go_wp2
  go_quiet ((first | (go_at_call 29; with_reducible exact quiet_left (H0.out _)) | (go_at_call 29; with_reducible exact quiet_left (H1.out _)) | (go_at_call 29; with_reducible exact quiet_left (H2.out _)) | (go_at_call 29; with_reducible exact quiet_left (H3.out _)) | (go_at_call 29; with_reducible exact quiet_left (H4.out _)) | (go_at_call 29; with_reducible exact quiet_left (H5.out _)) | (go_at_call 31; with_reducible exact quiet_left (HL.out _))))
  go_wp2
  go_ret
  exact ⟨rfl, below_drewN ((Below.refl _ _).alloc (Nat.le_refl _) _) _⟩
set_option maxRecDepth 100000 in
set_option maxHeartbeats 1000000 in
theorem ref_valid_full {y m d h mi s : Int} (w : World) (h0 : inB y 1 9999 = true) (h1 : inB m 1 12 = true) (h2 : inB d 1 (mlI y m) = true) (h3 : inB h 0 23 = true) (h4 : inB mi 0 59 = true) (h5 : inB s 0 59 = true) : Calls Tryz.prog 63 #[.agg #[I y, I m, I d, I h, I mi, I s]] w fun e w' => e = .returned (.bool true) ∧ Below w.heap.size w w' := by
  have H0 := Lib.hid (fun w => in_h h0 w)
  have H1 := Lib.hid (fun w => in_h h1 w)
  have H2 := Lib.hid (fun w => in_h h2 w)
  have H3 := Lib.hid (fun w => in_h h3 w)
  have H4 := Lib.hid (fun w => in_h h4 w)
  have H5 := Lib.hid (fun w => in_h h5 w)
  have b0 := inB_iff.1 h0
  have HL := Lib.hid (fun w => length_any y m w (by omega) (by omega))
  clear h0 h1 h2 h3 h4 h5
  go_enter Tryz.func63, Tryz.ntmps63
  go_wp2
  go_quiet ((first | (go_at_call 29; with_reducible exact quiet_left (H0.out _)) | (go_at_call 29; with_reducible exact quiet_left (H1.out _)) | (go_at_call 29; with_reducible exact quiet_left (H2.out _)) | (go_at_call 29; with_reducible exact quiet_left (H3.out _)) | (go_at_call 29; with_reducible exact quiet_left (H4.out _)) | (go_at_call 29; with_reducible exact quiet_left (H5.out _)) | (go_at_call 31; with_reducible exact quiet_left (HL.out _))))
  go_wp2
  go_ret
  exact ⟨rfl, below_drewN ((Below.refl _ _).alloc (Nat.le_refl _) _) _⟩
theorem ref_valid_any (y m d h mi s : Int) (w : World) : Calls Tryz.prog 63 #[.agg #[I y, I m, I d, I h, I mi, I s]] w fun e w' => e = .returned (.bool (vdB y m d h mi s)) ∧ Below w.heap.size w w' := by
  have no : ∀ b, b = false → ¬ vdP y m d h mi s → (Calls Tryz.prog 63 #[.agg #[I y, I m, I d, I h, I mi, I s]] w fun e w' => e = .returned (.bool false) ∧ Below w.heap.size w w') → Calls Tryz.prog 63 #[.agg #[I y, I m, I d, I h, I mi, I s]] w fun e w' => e = .returned (.bool (vdB y m d h mi s)) ∧ Below w.heap.size w w' := fun b _ hv hc => by rw [vd_no hv]; exact hc
  cases h0 : inB y 1 9999
  · exact no _ h0 (fun hv => by have := inB_iff.2 hv.1; rw [h0] at this; cases this) (ref_valid_no0 w h0)
  cases h1 : inB m 1 12
  · exact no _ h1 (fun hv => by have := inB_iff.2 (⟨hv.2.1.1, hv.2.1.2.1⟩ : 1 ≤ m ∧ m ≤ 12); rw [h1] at this; cases this) (ref_valid_no1 w h0 h1)
  cases h2 : inB d 1 (mlI y m)
  · exact no _ h2 (fun hv => by have := inB_iff.2 (⟨hv.2.1.2.2.1, hv.2.1.2.2.2⟩ : 1 ≤ d ∧ d ≤ mlI y m); rw [h2] at this; cases this) (ref_valid_no2 w h0 h1 h2)
  cases h3 : inB h 0 23
  · exact no _ h3 (fun hv => by have := inB_iff.2 hv.2.2.1; rw [h3] at this; cases this) (ref_valid_no3 w h0 h1 h2 h3)
  cases h4 : inB mi 0 59
  · exact no _ h4 (fun hv => by have := inB_iff.2 hv.2.2.2.1; rw [h4] at this; cases this) (ref_valid_no4 w h0 h1 h2 h3 h4)
  cases h5 : inB s 0 59
  · exact no _ h5 (fun hv => by have := inB_iff.2 hv.2.2.2.2; rw [h5] at this; cases this) (ref_valid_no5 w h0 h1 h2 h3 h4 h5)
  have g0 := inB_iff.1 h0
  have g1 := inB_iff.1 h1
  have g2 := inB_iff.1 h2
  have g3 := inB_iff.1 h3
  have g4 := inB_iff.1 h4
  have g5 := inB_iff.1 h5
  rw [vd_yes ⟨g0, ⟨g1.1, g1.2, g2.1, g2.2⟩, g3, g4, g5⟩]
  exact ref_valid_full w h0 h1 h2 h3 h4 h5
end Go.Proofs.YtocdabmfcbmpaaaGreatDoor
