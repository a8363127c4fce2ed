import Derived.Test.YtocdabmfcbmpaaaGreatDoorCB2
import Derived.Laws.Rows
namespace Go.Proofs.YtocdabmfcbmpaaaGreatDoor
open Go.RowKit
set_option linter.unusedVariables false
set_option linter.unusedSimpArgs false

theorem cell_after {W W' : World} {a : Addr} {v : Value} (hb : Below W.heap.size W W') (h : W.cell? a = some v) : W'.cell? a = some v := by
  have hlt : a.block < W.heap.size := World.block_lt_of_cell? W a h
  exact (hb.cell (p := a) hlt).trans h
theorem undrew {V W : World} (h : Below V.drew.heap.size V.drew W) : Below V.heap.size V W := ⟨h.os, h.tape, h.output, h.size, h.block⟩
/-- a date's variable. -/
def Box6 (g : Nat) (x0 x1 x2 x3 x4 x5 : Value) (W : World) : Prop :=
  W.cell? ⟨g, 0, none⟩ = some x0 ∧ W.cell? ⟨g, 1, none⟩ = some x1 ∧ W.cell? ⟨g, 2, none⟩ = some x2 ∧ W.cell? ⟨g, 3, none⟩ = some x3 ∧ W.cell? ⟨g, 4, none⟩ = some x4 ∧ W.cell? ⟨g, 5, none⟩ = some x5
theorem Box6.of {g : Nat} {x0 x1 x2 x3 x4 x5 : Value} {W : World} (h : W.heap[g]? = some (.cells #[x0, x1, x2, x3, x4, x5] 41 (0, 0))) : Box6 g x0 x1 x2 x3 x4 x5 W :=
  ⟨(cell_of_row _ _ _ _ _ _ h).trans rfl, (cell_of_row _ _ _ _ _ _ h).trans rfl, (cell_of_row _ _ _ _ _ _ h).trans rfl, (cell_of_row _ _ _ _ _ _ h).trans rfl, (cell_of_row _ _ _ _ _ _ h).trans rfl, (cell_of_row _ _ _ _ _ _ h).trans rfl⟩
theorem Box6.after {g : Nat} {x0 x1 x2 x3 x4 x5 : Value} {W W' : World} (h : Box6 g x0 x1 x2 x3 x4 x5 W) (hb : Below W.heap.size W W') : Box6 g x0 x1 x2 x3 x4 x5 W' :=
  ⟨cell_after hb h.1, cell_after hb h.2.1, cell_after hb h.2.2.1, cell_after hb h.2.2.2.1, cell_after hb h.2.2.2.2.1, cell_after hb h.2.2.2.2.2⟩
theorem one_new (W : World) (o : Obj) : ∃ V, V = W.alloc o ∧ V.heap[W.heap.size]? = some o ∧ Below W.heap.size W V ∧ V.heap.size = W.heap.size + 1 :=
  ⟨_, rfl, heap_alloc_new _ _, (Below.refl _ _).alloc (Nat.le_refl _) _, by simp⟩
theorem info23 : (Tryz.prog.info? 41).map (fun i => i.size) = some 6 := by kernel_rfl
/-- a date's time. -/
def tmI (y m d h mi s : Int) : Int := dnI y m d * 86400 + h * 3600 + mi * 60 + s
theorem dn_bd {y m d : Int} (y0 : -20000 ≤ y) (y1 : y ≤ 20000) (m0 : 0 ≤ m) (m1 : m ≤ 200) (d0 : 0 ≤ d) (d1 : d ≤ 200) : -10000000 ≤ dnI y m d ∧ dnI y m d ≤ 10000000 := by
  have h1 := yM_bd y m; have h2 := mM_bd m m0 m1
  unfold dnI; omega
set_option maxHeartbeats 1000000 in
theorem timeOf_any (y m d h mi s : Int) (w : World) (y0 : -20000 ≤ y) (y1 : y ≤ 20000) (m0 : 0 ≤ m) (m1 : m ≤ 200) (d0 : 0 ≤ d) (d1 : d ≤ 200) (h0 : 0 ≤ h) (h1 : h ≤ 200) (i0 : 0 ≤ mi) (i1 : mi ≤ 200) (s0 : 0 ≤ s) (s1 : s ≤ 200) :
    Calls Tryz.prog 58 #[.agg #[I y, I m, I d, I h, I mi, I s]] w fun e w' => e = .returned (I (tmI y m d h mi s)) ∧ Below w.heap.size w w' := by
  obtain ⟨V, hV, v0, vb, vs⟩ := one_new w (.cells #[I y, I m, I d, I h, I mi, I s] 41)
  have F0 := Lib.hid (Box6.of v0)
  have HVB := Lib.hid vb
  have HV := Lib.hid hV
  have HC := Lib.hid (fun W => dayNumber_any y m d (I h) (I mi) (I s) W y0 y1 m0 m1 d0 d1)
  have hb := dn_bd y0 y1 m0 m1 d0 d1
  have HT : Hid (tmI y m d h mi s = dnI y m d * 86400 + h * 3600 + mi * 60 + s) := Lib.hid rfl
  generalize dnI y m d = N at *
  clear hV v0 vb
  go_enter Tryz.func58, Tryz.ntmps58
  go_wp2
  rw [← HV.out]
  have w1 : IntKind.i64.wrap (N * 86400) = N * 86400 := IntWalk.i64_in _ (by omega)
  have w2 : IntKind.i64.wrap (h * 3600) = h * 3600 := IntWalk.i64_in _ (by omega)
  have w3 : IntKind.i64.wrap (mi * 60) = mi * 60 := IntWalk.i64_in _ (by omega)
  have w4 : IntKind.i64.wrap (N * 86400 + h * 3600) = N * 86400 + h * 3600 := IntWalk.i64_in _ (by omega)
  have w5 : IntKind.i64.wrap (N * 86400 + h * 3600 + mi * 60) = N * 86400 + h * 3600 + mi * 60 := IntWalk.i64_in _ (by omega)
  have w6 : IntKind.i64.wrap (N * 86400 + h * 3600 + mi * 60 + s) = N * 86400 + h * 3600 + mi * 60 + s := IntWalk.i64_in _ (by omega)
  go_region_held3 (fun w' => (w'.cell? ⟨w.heap.size, 0, none⟩ = some (I y) ∧ w'.cell? ⟨w.heap.size, 1, none⟩ = some (I m) ∧ w'.cell? ⟨w.heap.size, 2, none⟩ = some (I d) ∧ w'.cell? ⟨w.heap.size, 3, none⟩ = some (I h) ∧ w'.cell? ⟨w.heap.size, 4, none⟩ = some (I mi) ∧ w'.cell? ⟨w.heap.size, 5, none⟩ = some (I s))) (first | exact F0.out | exact F0.out.after (undrew hb5)) ((go_at_call 125; refine (HC.out _).mono ?_; rintro e V5 ⟨rfl, hb5⟩))
  clear w1 w2 w3 w4 w5 w6
  go_wp2
  go_ret
  refine ⟨ret_int HT.out.symm, ?_⟩
  exact HVB.out.trans ((undrew hb5).mono (by omega))

theorem r_bd' (n : Int) : 0 ≤ rI n ∧ rI n ≤ 365 := by have := r_bd n; have := lp_01 (yoI n + 1); omega
abbrev dateV (t : Int) : Value := .agg #[I (dYI (t / 86400)), I (dMI (t / 86400)), I (dDI (t / 86400)), I (t % 86400 / 3600), I (t % 86400 / 60 % 60), I (t % 86400 % 60)]
set_option maxRecDepth 100000 in
set_option maxHeartbeats 2000000 in
theorem dateOf_any (t : Int) (w : World) (t0 : -1000000000000 ≤ t) (t1 : t ≤ 1000000000000) :
    Calls Tryz.prog 53 #[I t] w fun e w' => e = .returned (dateV t) ∧ Below w.heap.size w w' := by
  obtain ⟨N, HN⟩ : ∃ N, Hid (t / 86400 = N) := ⟨_, Lib.hid rfl⟩
  obtain ⟨S, HS⟩ : ∃ S, Hid (t % 86400 = S) := ⟨_, Lib.hid rfl⟩
  have n0 : -12000000 ≤ N := by rw [← HN.out]; omega
  have n1 : N ≤ 12000000 := by rw [← HN.out]; omega
  have s0 : 0 ≤ S := by rw [← HS.out]; omega
  have s1 : S < 86400 := by rw [← HS.out]; omega
  have e0 : t - N * 86400 = S := by rw [← HN.out, ← HS.out]; omega
  have hF1 : ∀ w, Calls Tryz.prog 59 #[I t, I 86400] w fun e w' => e = .returned (I N) ∧ w = w' := fun w => by
    have := floor_any t 86400 w (by omega) (by omega) (by decide) (by decide)
    rwa [HN.out] at this
  have HF1 := Lib.hid hF1
  clear hF1
  obtain ⟨E, HE⟩ : ∃ E, Hid (erI N = E) := ⟨_, Lib.hid rfl⟩
  have hF2 : ∀ w, Calls Tryz.prog 59 #[I (N + 719468), I 146097] w fun e w' => e = .returned (I E) ∧ w = w' := fun w => by
    have := floor_any (N + 719468) 146097 w (by omega) (by omega) (by decide) (by decide)
    rwa [show (N + 719468) / 146097 = E from HE.out] at this
  have HF2 := Lib.hid hF2
  clear hF2
  have E0 : -100 ≤ E := by rw [← HE.out]; unfold erI; omega
  have E1 : E ≤ 100 := by rw [← HE.out]; unfold erI; omega
  obtain ⟨X, HX⟩ : ∃ X, Hid (eI N = X) := ⟨_, Lib.hid rfl⟩
  have e1 : N + 719468 - E * 146097 = X := by rw [← HX.out, ← HE.out]; rfl
  have x0 : 0 ≤ X := by rw [← HX.out]; exact (e_bd N).1
  have x1 : X ≤ 146096 := by rw [← HX.out]; exact (e_bd N).2
  obtain ⟨Y, HY⟩ : ∃ Y, Hid (yoI N = Y) := ⟨_, Lib.hid rfl⟩
  have e2 : (X - X / 1460 + X / 36524 - X / 146096) / 365 = Y := by rw [← HY.out, ← HX.out]; rfl
  have y0 : 0 ≤ Y := by rw [← HY.out]; exact (yo_bd N).1
  have y1 : Y ≤ 399 := by rw [← HY.out]; exact (yo_bd N).2.1
  obtain ⟨R, HR⟩ : ∃ R, Hid (rI N = R) := ⟨_, Lib.hid rfl⟩
  have e3 : X - (Y * 365 + Y / 4 - Y / 100) = R := by rw [← HR.out, ← HY.out, ← HX.out]; rfl
  have r0 : 0 ≤ R := by rw [← HR.out]; exact (r_bd' N).1
  have r1 : R ≤ 365 := by rw [← HR.out]; exact (r_bd' N).2
  obtain ⟨M, HM⟩ : ∃ M, Hid (moI N = M) := ⟨_, Lib.hid rfl⟩
  have e4 : (5 * R + 2) / 153 = M := by rw [← HM.out, ← HR.out]; rfl
  have m0 : 0 ≤ M := by rw [← HM.out]; exact (mo_bd N).1
  have m1 : M ≤ 11 := by rw [← HM.out]; exact (mo_bd N).2
  have HD : Hid (dDI N = R - (153 * M + 2) / 5 + 1) := Lib.hid (by rw [← HR.out, ← HM.out]; rfl)
  by_cases hm : 12 < M + 3
  · have HYY : Hid (dYI N = Y + E * 400 + 1) := Lib.hid (by unfold dYI; rw [HM.out, if_pos hm, HY.out, HE.out])
    have HMM : Hid (dMI N = M + 3 - 12) := Lib.hid (by unfold dMI; rw [HM.out, if_pos hm])
    have HV : Hid (dateV t = .agg #[I (Y + E * 400 + 1), I (M + 3 - 12), I (R - (153 * M + 2) / 5 + 1), I (S / 3600), I (S / 60 % 60), I (S % 60)]) := Lib.hid (by
      unfold dateV; rw [HN.out, HS.out, HYY.out, HMM.out, HD.out])
    rw [HV.out]
    go_enter Tryz.func53, Tryz.ntmps53
    go_wp2_with (go_at_call 59; first | ((with_reducible refine (HF1.out _).mono ?_); rintro e w' ⟨rfl, rfl⟩) | ((with_reducible refine (HF2.out _).mono ?_); rintro e w' ⟨rfl, rfl⟩))
    exact bodyPost_ret (v := .agg #[I (Y + E * 400 + 1), I (M + 3 - 12), I (R - (153 * M + 2) / 5 + 1), I (S / 3600), I (S / 60 % 60), I (S % 60)]) (by simp [results, Tryz.results53, go_sem]) rfl ⟨rfl, (by (repeat (first | exact Below.refl _ _ | (refine Below.setCell ?_ (by first | omega | (simp; done) | (simp; omega)) _) | (refine Below.alloc ?_ (by first | omega | (simp; done) | (simp; omega)) _) | refine Below.drew ?_)))⟩
  · have HYY : Hid (dYI N = Y + E * 400) := Lib.hid (by unfold dYI; rw [HM.out, if_neg hm, HY.out, HE.out])
    have HMM : Hid (dMI N = M + 3) := Lib.hid (by unfold dMI; rw [HM.out, if_neg hm])
    have HV : Hid (dateV t = .agg #[I (Y + E * 400), I (M + 3), I (R - (153 * M + 2) / 5 + 1), I (S / 3600), I (S / 60 % 60), I (S % 60)]) := Lib.hid (by
      unfold dateV; rw [HN.out, HS.out, HYY.out, HMM.out, HD.out])
    rw [HV.out]
    go_enter Tryz.func53, Tryz.ntmps53
    go_wp2_with (go_at_call 59; first | ((with_reducible refine (HF1.out _).mono ?_); rintro e w' ⟨rfl, rfl⟩) | ((with_reducible refine (HF2.out _).mono ?_); rintro e w' ⟨rfl, rfl⟩))
    exact bodyPost_ret (v := .agg #[I (Y + E * 400), I (M + 3), I (R - (153 * M + 2) / 5 + 1), I (S / 3600), I (S / 60 % 60), I (S % 60)]) (by simp [results, Tryz.results53, go_sem]) rfl ⟨rfl, (by (repeat (first | exact Below.refl _ _ | (refine Below.setCell ?_ (by first | omega | (simp; done) | (simp; omega)) _) | (refine Below.alloc ?_ (by first | omega | (simp; done) | (simp; omega)) _) | refine Below.drew ?_)))⟩
end Go.Proofs.YtocdabmfcbmpaaaGreatDoor
