import Derived.Test.YtocdabmfcbmpaaaGreatDoorCB1
import Derived.Deep.RegionHeld3
import Derived.Deep.Cut
import Derived.WalkSmall
namespace Go.Proofs.YtocdabmfcbmpaaaGreatDoor
open Go.RowKit
set_option linter.unusedVariables false
set_option linter.unusedSimpArgs false

theorem quiet_add_left {P : Program} {f : FuncId} {args : Array Value} {w : World} {a n : Nat} {v : Value}
    (h : Calls P f args (w.drewN (a + n)) fun e w' => e = .returned v ∧ w.drewN (a + n) = w') :
    Calls P f args (w.drewN (a + n)) fun e w'' => e = .returned v ∧ ∃ m, w'' = w.drewN (a + m) :=
  h.mono fun _ _ ⟨he, hm⟩ => ⟨he, n, hm.symm⟩
theorem quiet_left {P : Program} {f : FuncId} {args : Array Value} {w : World} {n : Nat} {v : Value}
    (h : Calls P f args (w.drewN n) fun e w' => e = .returned v ∧ w.drewN n = w') : Calls P f args (w.drewN n) fun e w'' => e = .returned v ∧ ∃ m, w'' = w.drewN m :=
  h.mono fun _ _ ⟨he, hm⟩ => ⟨he, n, hm.symm⟩
theorem turned {f : FuncId} {args : Array Value} {w : World} {v : Value} (h : Calls Tryz.prog f args w fun e w' => e = .returned v ∧ w = w') : Calls Tryz.prog f args w fun e w' => e = .returned v ∧ w' = w := h.mono fun _ _ ⟨a, b⟩ => ⟨a, b.symm⟩

theorem wh_bd (y : Int) : 365 ≤ whI y ∧ whI y ≤ 366 := by have := lp_01 y; unfold whI; omega
theorem ys_bd (y : Int) (h0 : 1 ≤ y) (h1 : y ≤ 10000) : 0 ≤ ysI y ∧ ysI y ≤ 3652059 := by unfold ysI; omega
theorem ms_bd (y m : Int) (h0 : 1 ≤ m) (h1 : m ≤ 13) : 0 ≤ msI y m ∧ msI y m ≤ 366 := by
  have := lp_01 y
  unfold msI; split <;> omega
set_option maxHeartbeats 1000000 in
theorem number_any (y m d : Int) (w : World) (y0 : 1 ≤ y) (y1 : y ≤ 10000) (m0 : 1 ≤ m) (m1 : m ≤ 13) (d0 : 0 ≤ d) (d1 : d ≤ 1000000) :
    Calls Tryz.prog 35 #[I y, I m, I d] w fun e w' => e = .returned (I (nuI y m d)) ∧ w = w' := by
  have HN : Hid (nuI y m d = d - 1 + ysI y + msI y m) := Lib.hid (by unfold nuI; omega)
  go_enter Tryz.func35, Tryz.ntmps35
  go_wp2
  go_loop [7, 8] (fun n i => ∃ k : Int, 1 ≤ k ∧ k ≤ y ∧ i = .int .i64 k ∧ n = .int .i64 (d - 1 + ysI k)) (fun _ i => (10000 - intOf i).toNat)
  case atStart => exact ⟨1, by omega, by omega, rfl, by simp [ysI]⟩
  case round =>
    obtain ⟨k, k0, k1, rfl, rfl⟩ := hrel
    have hb := ys_bd k k0 (by omega)
    by_cases hlt : k < y
    · have hw := wh_bd k
      have HS := Lib.hid (ys_succ k)
      go_wp2_with (go_at_call 61; refine (whole_any _ _ (by omega) (by omega)).mono ?_; rintro e w' ⟨rfl, rfl⟩)
      go_round
      case rel => exact ⟨k + 1, by omega, by omega, rfl, by rw [HS.out]; go_num⟩
      case measure => simp [intOf]; omega
    · obtain rfl : k = y := by omega
      go_wp2
      go_loop [7, 9] (fun n i => ∃ j : Int, 1 ≤ j ∧ j ≤ m ∧ i = .int .i64 j ∧ n = .int .i64 (d - 1 + ysI k + msI k j)) (fun _ i => (14 - intOf i).toNat)
      case atStart => exact ⟨1, by omega, by omega, rfl, by rw [ms_one]; simp⟩
      case round =>
        obtain ⟨j, j0, j1, rfl, rfl⟩ := hrel
        have hm := ms_bd k j j0 (by omega)
        by_cases hlt : j < m
        · have hw := ml_bd k j
          have HS := Lib.hid (ms_succ k j j0 (by omega))
          go_wp2_with (go_at_call 31; refine (length_any _ _ _ (by omega) (by omega)).mono ?_; rintro e w' ⟨rfl, rfl⟩)
          go_round
          case rel => exact ⟨j + 1, by omega, by omega, rfl, by rw [HS.out]; go_num⟩
          case measure => simp [intOf]; omega
        · obtain rfl : j = m := by omega
          go_wp2
          go_ret
          exact ⟨ret_int HN.out.symm, rfl⟩
theorem yM_bd (y m : Int) : y - 1 ≤ yM y m ∧ yM y m ≤ y := by unfold yM; split <;> omega
theorem mM_bd (m : Int) (h0 : 0 ≤ m) (h1 : m ≤ 200) : 0 ≤ mM m ∧ mM m ≤ 200 := by unfold mM; split <;> omega
set_option maxHeartbeats 1000000 in
theorem dayNumber_any (y m d : Int) (x3 x4 x5 : Value) (w : World) (y0 : -20000 ≤ y) (y1 : y ≤ 20000) (m0 : 0 ≤ m) (m1 : m ≤ 200) (d0 : 0 ≤ d) (d1 : d ≤ 200) :
    Calls Tryz.prog 125 #[.agg #[I y, I m, I d, x3, x4, x5]] w fun e w' => e = .returned (I (dnI y m d)) ∧ Below w.heap.size w w' := by
  by_cases hm : m < 3
  · have hy : yM y m = y - 1 := by unfold yM; rw [if_pos (by omega)]
    have hM : mM m = m - 3 + 12 := by unfold mM; rw [if_pos (by omega)]
    have HD : Hid (dnI y m d = (y - 1) * 365 + (y - 1) / 4 - (y - 1) / 100 + (y - 1) / 400 + (153 * (m - 3 + 12) + 2) / 5 + d - 1 - 719468) := Lib.hid (by unfold dnI; rw [hy, hM])
    clear hy hM
    have hm' : m - 3 < 0 := by omega
    go_enter Tryz.func125, Tryz.ntmps125
    go_wp2
    have W1 : IntKind.i64.wrap (m - 3) = m - 3 := IntWalk.i64_in _ (by omega)
    go_quiet (fail)
    go_wp2
    clear W1
    have w1 : IntKind.i64.wrap ((y - 1) * 365) = (y - 1) * 365 := IntWalk.i64_in _ (by omega)
    have w2 : IntKind.i64.wrap ((y - 1) * 365 + (y - 1) / 4) = (y - 1) * 365 + (y - 1) / 4 := IntWalk.i64_in _ (by omega)
    have w3 : IntKind.i64.wrap ((y - 1) * 365 + (y - 1) / 4 - (y - 1) / 100) = (y - 1) * 365 + (y - 1) / 4 - (y - 1) / 100 := IntWalk.i64_in _ (by omega)
    have w4 : IntKind.i64.wrap ((y - 1) * 365 + (y - 1) / 4 - (y - 1) / 100 + (y - 1) / 400) = (y - 1) * 365 + (y - 1) / 4 - (y - 1) / 100 + (y - 1) / 400 := IntWalk.i64_in _ (by omega)
    have w5 : IntKind.i64.wrap (153 * (m - 3 + 12)) = 153 * (m - 3 + 12) := IntWalk.i64_in _ (by omega)
    have w6 : IntKind.i64.wrap (153 * (m - 3 + 12) + 2) = 153 * (m - 3 + 12) + 2 := IntWalk.i64_in _ (by omega)
    have w7 : (153 * (m - 3 + 12) + 2).tdiv 5 = (153 * (m - 3 + 12) + 2) / 5 := Int.tdiv_eq_ediv_of_nonneg (by omega)
    have w71 : IntKind.i64.wrap ((153 * (m - 3 + 12) + 2) / 5) = (153 * (m - 3 + 12) + 2) / 5 := IntWalk.i64_in _ (by omega)
    have w8 : IntKind.i64.wrap ((y - 1) * 365 + (y - 1) / 4 - (y - 1) / 100 + (y - 1) / 400 + (153 * (m - 3 + 12) + 2) / 5) = (y - 1) * 365 + (y - 1) / 4 - (y - 1) / 100 + (y - 1) / 400 + (153 * (m - 3 + 12) + 2) / 5 := IntWalk.i64_in _ (by omega)
    have w9 : IntKind.i64.wrap ((y - 1) * 365 + (y - 1) / 4 - (y - 1) / 100 + (y - 1) / 400 + (153 * (m - 3 + 12) + 2) / 5 + d) = (y - 1) * 365 + (y - 1) / 4 - (y - 1) / 100 + (y - 1) / 400 + (153 * (m - 3 + 12) + 2) / 5 + d := IntWalk.i64_in _ (by omega)
    have wa : IntKind.i64.wrap ((y - 1) * 365 + (y - 1) / 4 - (y - 1) / 100 + (y - 1) / 400 + (153 * (m - 3 + 12) + 2) / 5 + d - 1) = (y - 1) * 365 + (y - 1) / 4 - (y - 1) / 100 + (y - 1) / 400 + (153 * (m - 3 + 12) + 2) / 5 + d - 1 := IntWalk.i64_in _ (by omega)
    have wb : IntKind.i64.wrap ((y - 1) * 365 + (y - 1) / 4 - (y - 1) / 100 + (y - 1) / 400 + (153 * (m - 3 + 12) + 2) / 5 + d - 1 - 719468) = (y - 1) * 365 + (y - 1) / 4 - (y - 1) / 100 + (y - 1) / 400 + (153 * (m - 3 + 12) + 2) / 5 + d - 1 - 719468 := IntWalk.i64_in _ (by omega)
    have hf : ∀ (b : Int) (w : World), 1 ≤ b → b ≤ 1000000000 → Calls Tryz.prog 59 #[I ((y - 1)), I b] w fun e w' => e = .returned (I (((y - 1)) / b)) ∧ w = w' := fun b w h1 h2 => floor_any _ _ _ (by omega) (by omega) h1 h2
    have HF := Lib.hid hf
    clear hf
    go_quiet ((go_at_call 59; ((refine quiet_add_left (HF.out _ _ ?_ ?_)) <;> decide)))
    clear w1 w2 w3 w4 w5 w6 w7 w71 w8 w9 wa wb
    go_wp2
    go_ret
    refine ⟨ret_int HD.out.symm, ?_⟩
    exact below_drewN (below_drewN ((Below.refl _ _).alloc (Nat.le_refl _) _) _) _

  · have hy : yM y m = y := by unfold yM; rw [if_neg (by omega)]
    have hM : mM m = m - 3 := by unfold mM; rw [if_neg (by omega)]
    have HD : Hid (dnI y m d = y * 365 + y / 4 - y / 100 + y / 400 + (153 * (m - 3) + 2) / 5 + d - 1 - 719468) := Lib.hid (by unfold dnI; rw [hy, hM])
    clear hy hM
    have hm' : ¬ (m - 3 < 0) := by omega
    go_enter Tryz.func125, Tryz.ntmps125
    go_wp2
    have W1 : IntKind.i64.wrap (m - 3) = m - 3 := IntWalk.i64_in _ (by omega)
    go_quiet (fail)
    go_wp2
    clear W1
    have w1 : IntKind.i64.wrap (y * 365) = y * 365 := IntWalk.i64_in _ (by omega)
    have w2 : IntKind.i64.wrap (y * 365 + y / 4) = y * 365 + y / 4 := IntWalk.i64_in _ (by omega)
    have w3 : IntKind.i64.wrap (y * 365 + y / 4 - y / 100) = y * 365 + y / 4 - y / 100 := IntWalk.i64_in _ (by omega)
    have w4 : IntKind.i64.wrap (y * 365 + y / 4 - y / 100 + y / 400) = y * 365 + y / 4 - y / 100 + y / 400 := IntWalk.i64_in _ (by omega)
    have w5 : IntKind.i64.wrap (153 * (m - 3)) = 153 * (m - 3) := IntWalk.i64_in _ (by omega)
    have w6 : IntKind.i64.wrap (153 * (m - 3) + 2) = 153 * (m - 3) + 2 := IntWalk.i64_in _ (by omega)
    have w7 : (153 * (m - 3) + 2).tdiv 5 = (153 * (m - 3) + 2) / 5 := Int.tdiv_eq_ediv_of_nonneg (by omega)
    have w71 : IntKind.i64.wrap ((153 * (m - 3) + 2) / 5) = (153 * (m - 3) + 2) / 5 := IntWalk.i64_in _ (by omega)
    have w8 : IntKind.i64.wrap (y * 365 + y / 4 - y / 100 + y / 400 + (153 * (m - 3) + 2) / 5) = y * 365 + y / 4 - y / 100 + y / 400 + (153 * (m - 3) + 2) / 5 := IntWalk.i64_in _ (by omega)
    have w9 : IntKind.i64.wrap (y * 365 + y / 4 - y / 100 + y / 400 + (153 * (m - 3) + 2) / 5 + d) = y * 365 + y / 4 - y / 100 + y / 400 + (153 * (m - 3) + 2) / 5 + d := IntWalk.i64_in _ (by omega)
    have wa : IntKind.i64.wrap (y * 365 + y / 4 - y / 100 + y / 400 + (153 * (m - 3) + 2) / 5 + d - 1) = y * 365 + y / 4 - y / 100 + y / 400 + (153 * (m - 3) + 2) / 5 + d - 1 := IntWalk.i64_in _ (by omega)
    have wb : IntKind.i64.wrap (y * 365 + y / 4 - y / 100 + y / 400 + (153 * (m - 3) + 2) / 5 + d - 1 - 719468) = y * 365 + y / 4 - y / 100 + y / 400 + (153 * (m - 3) + 2) / 5 + d - 1 - 719468 := IntWalk.i64_in _ (by omega)
    have hf : ∀ (b : Int) (w : World), 1 ≤ b → b ≤ 1000000000 → Calls Tryz.prog 59 #[I (y), I b] w fun e w' => e = .returned (I ((y) / b)) ∧ w = w' := fun b w h1 h2 => floor_any _ _ _ (by omega) (by omega) h1 h2
    have HF := Lib.hid hf
    clear hf
    go_quiet ((go_at_call 59; ((refine quiet_add_left (HF.out _ _ ?_ ?_)) <;> decide)))
    clear w1 w2 w3 w4 w5 w6 w7 w71 w8 w9 wa wb
    go_wp2
    go_ret
    refine ⟨ret_int HD.out.symm, ?_⟩
    exact below_drewN (below_drewN ((Below.refl _ _).alloc (Nat.le_refl _) _) _) _

end Go.Proofs.YtocdabmfcbmpaaaGreatDoor
