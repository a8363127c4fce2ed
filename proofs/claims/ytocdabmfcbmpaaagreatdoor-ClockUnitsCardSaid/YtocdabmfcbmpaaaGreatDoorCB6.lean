import Derived.Test.YtocdabmfcbmpaaaGreatDoorCB5
import Derived.Laws.StructEq
namespace Go.Proofs.YtocdabmfcbmpaaaGreatDoor
open Go.RowKit
set_option linter.unusedVariables false
set_option linter.unusedSimpArgs false

theorem eq6_run (a0 a1 a2 a3 a4 a5 b0 b1 b2 b3 b4 b5 : Int) (w : World) :
    ((Op.equalIn 10000 41 (.agg #[I a0, I a1, I a2, I a3, I a4, I a5]) (.agg #[I b0, I b1, I b2, I b3, I b4, I b5])).run Tryz.prog w) = .ok (decide (a0 = b0 ∧ a1 = b1 ∧ a2 = b2 ∧ a3 = b3 ∧ a4 = b4 ∧ a5 = b5)) w := by
  have u3 := Tryz.underlying3
  have q3 := Tryz.isAgg3
  have z3 := Tryz.sizeOf3
  have hS : Tryz.prog.underlying 41 = some (.struct (Tryz.prog.fieldsOf 41)) := by kernel_rfl
  have hp : Tryz.prog.stoodInHeld 41 = false := by kernel_rfl
  rw [show (10000 : Nat) = 9999 + 1 from rfl, run_equalIn_agg w 9999 41 _ _ hS hp]
  simp only [Program.fieldsOf, Tryz.underlying41]
  go_simp
  by_cases h0 : a0 = b0 <;> by_cases h1 : a1 = b1 <;> by_cases h2 : a2 = b2 <;> by_cases h3 : a3 = b3 <;> by_cases h4 : a4 = b4 <;> by_cases h5 : a5 = b5 <;> simp [h0, h1, h2, h3, h4, h5]
theorem eql_date (a0 a1 a2 a3 a4 a5 b0 b1 b2 b3 b4 b5 : Int) (w : World) :
    (binOp .eql 41 (.agg #[I a0, I a1, I a2, I a3, I a4, I a5]) (.agg #[I b0, I b1, I b2, I b3, I b4, I b5])).run Tryz.prog w = .ok (.bool (decide (a0 = b0 ∧ a1 = b1 ∧ a2 = b2 ∧ a3 = b3 ∧ a4 = b4 ∧ a5 = b5))) w := by
  rw [run_eql_struct, eq6_run]; rfl
theorem neq_date (a0 a1 a2 a3 a4 a5 b0 b1 b2 b3 b4 b5 : Int) (w : World) :
    (binOp .neq 41 (.agg #[I a0, I a1, I a2, I a3, I a4, I a5]) (.agg #[I b0, I b1, I b2, I b3, I b4, I b5])).run Tryz.prog w = .ok (.bool (!decide (a0 = b0 ∧ a1 = b1 ∧ a2 = b2 ∧ a3 = b3 ∧ a4 = b4 ∧ a5 = b5))) w := by
  rw [run_neq_struct, eq6_run]; rfl
theorem Box6.drew {g : Nat} {x0 x1 x2 x3 x4 x5 : Value} {W : World} (h : Box6 g x0 x1 x2 x3 x4 x5 W) : Box6 g x0 x1 x2 x3 x4 x5 W.drew := h
set_option maxRecDepth 100000 in
set_option maxHeartbeats 2000000 in
theorem valid_full {y m d h mi s : Int} (w : World) (h0 : inB y 1 9999 = true) (h1 : inB m 0 99 = true) (h2 : inB d 0 99 = true) (h3 : inB h 0 99 = true) (h4 : inB mi 0 99 = true) (h5 : inB s 0 99 = true) :
    Calls Tryz.prog 100 #[.agg #[I y, I m, I d, I h, I mi, I s]] w fun e w' => e = .returned (.bool (vdB y m d h mi s)) ∧ Below w.heap.size w w' := by
  have H0 := Lib.hid (fun w => year_h h0 w)
  have H1 := Lib.hid (fun w => small_h h1 w)
  have H2 := Lib.hid (fun w => small_h h2 w)
  have H3 := Lib.hid (fun w => small_h h3 w)
  have H4 := Lib.hid (fun w => small_h h4 w)
  have H5 := Lib.hid (fun w => small_h h5 w)
  have b0 := inB_iff.1 h0
  have b1 := inB_iff.1 h1
  have b2 := inB_iff.1 h2
  have b3 := inB_iff.1 h3
  have b4 := inB_iff.1 h4
  have b5 := inB_iff.1 h5
  have HT := Lib.hid (fun w => timeOf_any y m d h mi s w (by omega) (by omega) (by omega) (by omega) (by omega) (by omega) (by omega) (by omega) (by omega) (by omega) (by omega) (by omega))
  have HI := Lib.hid (back_iff (m := m) (d := d) (h := h) (mi := mi) (s := s) b0)
  have hb := dn_bd (y := y) (m := m) (d := d) (by omega) (by omega) (by omega) (by omega) (by omega) (by omega)
  have htm : tmI y m d h mi s = dnI y m d * 86400 + h * 3600 + mi * 60 + s := rfl
  have t0 : -1000000000000 ≤ tmI y m d h mi s := by omega
  have t1 : tmI y m d h mi s ≤ 1000000000000 := by omega
  have HDt := Lib.hid (fun w => dateOf_any (tmI y m d h mi s) w t0 t1)
  obtain ⟨V, hV, v0, vb, vs⟩ := one_new w (.cells #[I y, I m, I d, I h, I mi, I s] 41)
  have F0 := Lib.hid (Box6.of v0)
  have HVB := Lib.hid vb
  have HV := Lib.hid hV
  have HQ : ∀ W : World, (binOp .eql 41 (dateV (tmI y m d h mi s)) (.agg #[I y, I m, I d, I h, I mi, I s])).run Tryz.prog W = .ok (.bool (vdB y m d h mi s)) W := fun W => by
    unfold dateV
    rw [eql_date]
    congr 2
    exact decide_eq_decide.2 HI.out
  clear hV v0 vb h0 h1 h2 h3 h4 h5 b0 b1 b2 b3 b4 b5 hb htm t0 t1
  go_enter Tryz.func100, Tryz.ntmps100
  go_wp2
  rw [← HV.out]
  go_region_held3 (fun w' => (w'.cell? ⟨w.heap.size, 0, none⟩ = some (I y) ∧ w'.cell? ⟨w.heap.size, 1, none⟩ = some (I m) ∧ w'.cell? ⟨w.heap.size, 2, none⟩ = some (I d) ∧ w'.cell? ⟨w.heap.size, 3, none⟩ = some (I h) ∧ w'.cell? ⟨w.heap.size, 4, none⟩ = some (I mi) ∧ w'.cell? ⟨w.heap.size, 5, none⟩ = some (I s))) (first | exact F0.out | exact F0.out.after (undrew hb7) | exact (F0.out.after (undrew hb7)).after hb8) ((first | (go_at_call 57; (with_reducible refine (H0.out _).mono ?_); rintro e w' ⟨rfl, rfl⟩) | (go_at_call 138; (with_reducible refine (H1.out _).mono ?_); rintro e w' ⟨rfl, rfl⟩) | (go_at_call 138; (with_reducible refine (H2.out _).mono ?_); rintro e w' ⟨rfl, rfl⟩) | (go_at_call 138; (with_reducible refine (H3.out _).mono ?_); rintro e w' ⟨rfl, rfl⟩) | (go_at_call 138; (with_reducible refine (H4.out _).mono ?_); rintro e w' ⟨rfl, rfl⟩) | (go_at_call 138; (with_reducible refine (H5.out _).mono ?_); rintro e w' ⟨rfl, rfl⟩) | (go_at_call 58; (with_reducible refine (HT.out _).mono ?_); rintro e V7 ⟨rfl, hb7⟩) | (go_at_call 53; (with_reducible refine (HDt.out _).mono ?_); rintro e V8 ⟨rfl, hb8⟩)))
  go_wp2
  go_ret
  refine ⟨rfl, ?_⟩
  exact (HVB.out.trans ((undrew hb7).mono (by omega))).trans (hb8.mono (by have := (undrew hb7).size; omega))
theorem valid_any (y m d h mi s : Int) (w : World) : Calls Tryz.prog 100 #[.agg #[I y, I m, I d, I h, I mi, I s]] w fun e w' => e = .returned (.bool (vdB y m d h mi s)) ∧ Below w.heap.size w w' := by
  have no : ∀ b, b = false → ¬ vdP y m d h mi s → (Calls Tryz.prog 100 #[.agg #[I y, I m, I d, I h, I mi, I s]] w fun e w' => e = .returned (.bool false) ∧ Below w.heap.size w w') → Calls Tryz.prog 100 #[.agg #[I y, I m, I d, I h, I mi, I s]] w fun e w' => e = .returned (.bool (vdB y m d h mi s)) ∧ Below w.heap.size w w' := fun b _ hv hc => by rw [vd_no hv]; exact hc
  cases h0 : inB y 1 9999
  · exact no _ h0 (fun hv => by have := inB_iff.2 hv.1; rw [h0] at this; cases this) (valid_no0 w h0)
  cases h1 : inB m 0 99
  · exact no _ h1 (fun hv => by have := inB_iff.2 (vd_small hv).1; rw [h1] at this; cases this) (valid_no1 w h0 h1)
  cases h2 : inB d 0 99
  · exact no _ h2 (fun hv => by have := inB_iff.2 (vd_small hv).2.1; rw [h2] at this; cases this) (valid_no2 w h0 h1 h2)
  cases h3 : inB h 0 99
  · exact no _ h3 (fun hv => by have := inB_iff.2 (vd_small hv).2.2.1; rw [h3] at this; cases this) (valid_no3 w h0 h1 h2 h3)
  cases h4 : inB mi 0 99
  · exact no _ h4 (fun hv => by have := inB_iff.2 (vd_small hv).2.2.2.1; rw [h4] at this; cases this) (valid_no4 w h0 h1 h2 h3 h4)
  cases h5 : inB s 0 99
  · exact no _ h5 (fun hv => by have := inB_iff.2 (vd_small hv).2.2.2.2; rw [h5] at this; cases this) (valid_no5 w h0 h1 h2 h3 h4 h5)
  exact valid_full w h0 h1 h2 h3 h4 h5
end Go.Proofs.YtocdabmfcbmpaaaGreatDoor
