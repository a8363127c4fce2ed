import Derived.Test.YtocdabmfcbmpaaaGreatDoorCE1
import Derived.Test.YtocdabmfcbmpaaaGreatDoorCB9
namespace Go.Proofs.YtocdabmfcbmpaaaGreatDoor
open Go.RowKit
set_option linter.unusedVariables false
set_option linter.unusedSimpArgs false

theorem moonP_bd (y : Int) : 0 ≤ moonP y ∧ moonP y ≤ 29 := by unfold moonP; omega
theorem sunP_bd (y : Int) : 0 ≤ sunP y ∧ sunP y ≤ 6 := by unfold sunP; omega
theorem lateP_bd (y : Int) : 0 ≤ lateP y ∧ lateP y ≤ 1 := by
  have h1 := moonP_bd y
  have h2 := sunP_bd y
  unfold lateP; omega
theorem eaP_bd (y : Int) : 100 ≤ eaP y ∧ eaP y ≤ 160 := by
  have h1 := moonP_bd y
  have h2 := sunP_bd y
  have h3 := lateP_bd y
  unfold eaP; omega
set_option maxRecDepth 100000 in
set_option maxHeartbeats 2000000 in
theorem Easter_ok {y : Int} (h : inB y 1 9999 = true) (w : World) : Calls Tryz.prog 22 #[I y] w fun e w' => e = .returned (.tuple #[I (tmI y (eaP y / 31) (eaP y % 31 + 1) 0 0 0), E 0]) ∧ Below w.heap.size w w' := by
  have H := Lib.hid (fun w => year_h h w)
  obtain ⟨y0, y1⟩ := inB_iff.1 h
  have hm := moonP_bd y
  have hs := sunP_bd y
  have hl := lateP_bd y
  have hn := eaP_bd y
  obtain ⟨M, HM⟩ : ∃ M, Hid (moonP y = M) := ⟨_, Lib.hid rfl⟩
  obtain ⟨S, HS⟩ : ∃ M, Hid (sunP y = M) := ⟨_, Lib.hid rfl⟩
  obtain ⟨L, HL⟩ : ∃ M, Hid (lateP y = M) := ⟨_, Lib.hid rfl⟩
  obtain ⟨n, HN⟩ : ∃ M, Hid (eaP y = M) := ⟨_, Lib.hid rfl⟩
  rw [HM.out] at hm
  rw [HS.out] at hs
  rw [HL.out] at hl
  rw [HN.out] at hn ⊢
  have HT := Lib.hid (fun w => timeOf_any y (n / 31) (n % 31 + 1) 0 0 0 w (by omega) (by omega) (by omega) (by omega) (by omega) (by omega) (by omega) (by omega) (by omega) (by omega) (by omega) (by omega))
  have e1 : (19 * (y % 19) + y / 100 - y / 100 / 4 - (y / 100 - (y / 100 + 8) / 25 + 1) / 3 + 15) % 30 = M := HM.out
  have e2 : (32 + 2 * (y / 100 % 4) + 2 * (y % 100 / 4) - M - y % 4) % 7 = S := by have := HS.out; unfold sunP at this; rwa [HM.out] at this
  have e3 : (y % 19 + 11 * M + 22 * S) / 451 = L := by have := HL.out; unfold lateP at this; rwa [HM.out, HS.out] at this
  have e4 : M + S - 7 * L + 114 = n := by have := HN.out; unfold eaP at this; rwa [HM.out, HS.out, HL.out] at this
  clear h
  go_enter Tryz.func22, Tryz.ntmps22
  go_wp2_with (first | (go_at_call 57; (with_reducible refine (H.out _).mono ?_); rintro e w' ⟨rfl, rfl⟩) | (go_at_call 58; (with_reducible refine (HT.out _).mono ?_); rintro e W1 ⟨rfl, hb1⟩))
  go_ret2
  exact ⟨rfl, hb1⟩
theorem Easter_no {y : Int} (h : inB y 1 9999 = false) (w : World) : Calls Tryz.prog 22 #[I y] w fun e w' => e = .returned (.tuple #[I 0, E 7]) ∧ Below w.heap.size w w' := by
  have H := Lib.hid (fun w => year_h h w)
  clear h
  go_enter Tryz.func22, Tryz.ntmps22
  go_wp2_with (first | (go_at_call 57; (with_reducible refine (H.out _).mono ?_); rintro e w' ⟨rfl, rfl⟩))
  go_ret2
  exact ⟨rfl, Below.refl _ _⟩
/-- the naive weekday. -/
theorem ref_weekday_any (t : Int) (w : World) (t0 : -62135596800 ≤ t) (t1 : t ≤ 1000000000000) : Calls Tryz.prog 56 #[I t] w fun e w' => e = .returned (I ((t + 62135596800) / 86400 % 7 + 1)) ∧ w = w' := by
  go_enter Tryz.func56, Tryz.ntmps56
  go_wp2
  go_ret
  exact ⟨rfl, rfl⟩
end Go.Proofs.YtocdabmfcbmpaaaGreatDoor
