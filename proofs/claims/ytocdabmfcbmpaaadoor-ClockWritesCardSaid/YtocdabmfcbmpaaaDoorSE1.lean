import Derived.Test.YtocdabmfcbmpaaaDoorSD1
namespace Go.Proofs.YtocdabmfcbmpaaaDoor
open Go.RowKit
set_option linter.unusedVariables false
set_option linter.unusedSimpArgs false

theorem epR_bd (y : Int) : 0 ≤ epR y ∧ epR y ≤ 29 := by unfold epR; omega
theorem epR'_bd (y : Int) : 0 ≤ epR' y ∧ epR' y ≤ 30 := by have := epR_bd y; unfold epR'; split <;> omega
theorem fullR_bd (y : Int) : 14 ≤ fullR y ∧ fullR y ≤ 60 := by have := epR'_bd y; unfold fullR; split <;> omega
/-- the moon's age before it is mended. -/
def epX (y : Int) : Int := 11 * (y % 19 + 1) + 20 + ((8 * (y / 100 + 1) + 5) / 25 - 5) - (3 * (y / 100 + 1) / 4 - 12)
theorem epX_bd {y : Int} (h0 : 1 ≤ y) (h1 : y ≤ 9999) : -29 ≤ epX y ∧ epX y ≤ 1000 := by unfold epX; omega
theorem ea_day {y : Int} (h0 : 1 ≤ y) (h1 : y ≤ 9999) : eaR y = nuI y 3 1 + fullR y - 1 + (7 - ((nuI y 3 1 + fullR y - 1) % 7 + 1) % 7) := rfl
theorem ret2 {a b : Int} (h : a = b) : Ending.returned (.tuple #[I a, E 0]) = .returned (.tuple #[I b, E 0]) := by rw [h]
set_option maxRecDepth 100000 in
set_option maxHeartbeats 4000000 in
theorem rEaster_ok {y : Int} (h : inB y 1 9999 = true) (w : World) : Calls Tryd.prog 32 #[I y] w fun e w' => e = .returned (.tuple #[I (-62135596800 + eaR y * 86400), E 0]) ∧ w = w' := by
  have H := Lib.hid (fun w => in_h h w)
  obtain ⟨y0, y1⟩ := inB_iff.1 h
  have hx := epX_bd y0 y1
  have hf := fullR_bd y
  have hn := nu_bd ⟨y0, y1⟩ (show Dt y 3 1 from ⟨by omega, by omega, by omega, by have := ml_bd y 3; omega⟩)
  obtain ⟨n, HN⟩ : ∃ n, Hid (nuI y 3 1 = n) := ⟨_, Lib.hid rfl⟩
  obtain ⟨F, HF⟩ : ∃ n, Hid (fullR y = n) := ⟨_, Lib.hid rfl⟩
  obtain ⟨X, HX⟩ : ∃ n, Hid (epX y = n) := ⟨_, Lib.hid rfl⟩
  obtain ⟨G, HG⟩ : ∃ n, Hid (y % 19 + 1 = n) := ⟨_, Lib.hid rfl⟩
  have HNum := Lib.hid (fun w => number_any y 3 1 w y0 (by omega) (by omega) (by omega) (by omega) (by omega))
  rw [HN.out] at HNum hn
  rw [HF.out] at hf
  rw [HX.out] at hx
  have HEa : Hid (eaR y = n + F - 1 + (7 - ((n + F - 1) % 7 + 1) % 7)) := Lib.hid (by rw [ea_day y0 y1, HN.out, HF.out])
  have g0 : 1 ≤ G := by rw [← HG.out]; omega
  have g1 : G ≤ 19 := by rw [← HG.out]; omega
  have e0 : y % 19 + 1 = G := HG.out
  have e1 : 11 * G + 20 + ((8 * (y / 100 + 1) + 5) / 25 - 5) - (3 * (y / 100 + 1) / 4 - 12) = X := by rw [← HX.out, ← HG.out]; rfl
  have HEp : Hid (epR y = X % 30) := Lib.hid (by rw [← HX.out]; rfl)
  have HWd := Lib.hid (fun w => ref_weekday_any (-62135596800 + (n + F - 1) * 86400) w (by omega) (by omega))
  have HWe : Hid ((-62135596800 + (n + F - 1) * 86400 + 62135596800) / 86400 % 7 + 1 = (n + F - 1) % 7 + 1) := Lib.hid (by omega)
  rw [HWe.out] at HWd
  rw [HEa.out]
  have HFd : Hid (F = if 44 - epR' y < 21 then 44 - epR' y + 30 else 44 - epR' y) := Lib.hid HF.out.symm
  have HPd : Hid (epR' y = if (X % 30 = 25 ∧ 11 < G) ∨ X % 30 = 24 then X % 30 + 1 else X % 30) := Lib.hid (by unfold epR'; rw [HEp.out, HG.out])
  clear h HN HF HX HG HEp HEa HWe
  by_cases hx0 : 0 ≤ X
  · obtain ⟨P, e2⟩ : ∃ P, X % 30 = P := ⟨_, rfl⟩
    rw [e2] at HPd
    have p0 : 0 ≤ P := by omega
    have p1 : P < 30 := by omega
    by_cases c1 : P = 25
    · subst c1
      by_cases c2 : 11 < G
      · have hq : epR' y = 26 := by rw [HPd.out, if_pos (Or.inl ⟨rfl, c2⟩)]; rfl
        obtain rfl : F = 48 := by rw [HFd.out, hq]; rfl
        clear hq
        clear HFd HPd
        go_enter Tryd.func32, Tryd.ntmps32
        go_wp2_with (first | (go_at_call 41; (with_reducible refine (H.out _).mono ?_); rintro e w' ⟨rfl, rfl⟩) | (go_at_call 38; (with_reducible refine (HNum.out _).mono ?_); rintro e w' ⟨rfl, rfl⟩) | (go_at_call 48; (with_reducible refine (HWd.out _).mono ?_); rintro e w' ⟨rfl, rfl⟩))
        all_goals
          go_ret2
          exact ⟨ret2 (by omega), rfl⟩
      · have hq : epR' y = 25 := by rw [HPd.out, if_neg (fun h => by rcases h with ⟨_, h⟩ | h; exact c2 h; omega)]
        obtain rfl : F = 49 := by rw [HFd.out, hq]; rfl
        clear hq
        have d2 : decide (11 < G) = false := decide_eq_false c2
        clear HFd HPd
        go_enter Tryd.func32, Tryd.ntmps32
        go_wp2_with (first | (go_at_call 41; (with_reducible refine (H.out _).mono ?_); rintro e w' ⟨rfl, rfl⟩) | (go_at_call 38; (with_reducible refine (HNum.out _).mono ?_); rintro e w' ⟨rfl, rfl⟩) | (go_at_call 48; (with_reducible refine (HWd.out _).mono ?_); rintro e w' ⟨rfl, rfl⟩))
        all_goals
          go_ret2
          exact ⟨ret2 (by omega), rfl⟩
    · by_cases c3 : P = 24
      · subst c3
        have hq : epR' y = 25 := by rw [HPd.out, if_pos (Or.inr rfl)]; rfl
        obtain rfl : F = 49 := by rw [HFd.out, hq]; rfl
        clear hq
        clear HFd HPd c1
        go_enter Tryd.func32, Tryd.ntmps32
        go_wp2_with (first | (go_at_call 41; (with_reducible refine (H.out _).mono ?_); rintro e w' ⟨rfl, rfl⟩) | (go_at_call 38; (with_reducible refine (HNum.out _).mono ?_); rintro e w' ⟨rfl, rfl⟩) | (go_at_call 48; (with_reducible refine (HWd.out _).mono ?_); rintro e w' ⟨rfl, rfl⟩))
        all_goals
          go_ret2
          exact ⟨ret2 (by omega), rfl⟩
      · have b1 : (P == 25) = false := beq_eq_false_iff_ne.2 c1
        have b2 : (P == 24) = false := beq_eq_false_iff_ne.2 c3
        have HF2 : Hid (F = if 44 - P < 21 then 44 - P + 30 else 44 - P) := Lib.hid (by have hq : epR' y = P := (by rw [HPd.out, if_neg (fun h => by rcases h with ⟨h, _⟩ | h; exact c1 h; exact c3 h)]); rw [HFd.out, hq])
        clear HFd HPd
        by_cases c4 : 44 - P < 21
        · have eF : 44 - P + 30 = F := by rw [HF2.out, if_pos c4]
          clear HF2
          go_enter Tryd.func32, Tryd.ntmps32
          go_wp2_with (first | (go_at_call 41; (with_reducible refine (H.out _).mono ?_); rintro e w' ⟨rfl, rfl⟩) | (go_at_call 38; (with_reducible refine (HNum.out _).mono ?_); rintro e w' ⟨rfl, rfl⟩) | (go_at_call 48; (with_reducible refine (HWd.out _).mono ?_); rintro e w' ⟨rfl, rfl⟩))
          all_goals
            go_ret2
            exact ⟨ret2 (by omega), rfl⟩
        · have eF : 44 - P = F := by rw [HF2.out, if_neg c4]
          have c5 : ¬ F < 21 := by omega
          clear HF2
          go_enter Tryd.func32, Tryd.ntmps32
          go_wp2_with (first | (go_at_call 41; (with_reducible refine (H.out _).mono ?_); rintro e w' ⟨rfl, rfl⟩) | (go_at_call 38; (with_reducible refine (HNum.out _).mono ?_); rintro e w' ⟨rfl, rfl⟩) | (go_at_call 48; (with_reducible refine (HWd.out _).mono ?_); rintro e w' ⟨rfl, rfl⟩))
          all_goals
            go_ret2
            exact ⟨ret2 (by omega), rfl⟩
  · have ht : X.tmod 30 = X := by
      have h1 := Int.neg_tmod (-X) 30
      have h2 : (-X).tmod 30 = (-X) % 30 := Int.tmod_eq_emod_of_nonneg (by omega)
      rw [Int.neg_neg, h2] at h1
      omega
    have hneg : X < 0 := by omega
    obtain ⟨P, e2⟩ : ∃ P, X + 30 = P := ⟨_, rfl⟩
    rw [show X % 30 = P by omega] at HPd
    have p0 : 0 ≤ P := by omega
    have p1 : P < 30 := by omega
    by_cases c1 : P = 25
    · subst c1
      by_cases c2 : 11 < G
      · have hq : epR' y = 26 := by rw [HPd.out, if_pos (Or.inl ⟨rfl, c2⟩)]; rfl
        obtain rfl : F = 48 := by rw [HFd.out, hq]; rfl
        clear hq
        clear HFd HPd
        go_enter Tryd.func32, Tryd.ntmps32
        go_wp2_with (first | (go_at_call 41; (with_reducible refine (H.out _).mono ?_); rintro e w' ⟨rfl, rfl⟩) | (go_at_call 38; (with_reducible refine (HNum.out _).mono ?_); rintro e w' ⟨rfl, rfl⟩) | (go_at_call 48; (with_reducible refine (HWd.out _).mono ?_); rintro e w' ⟨rfl, rfl⟩))
        all_goals
          go_ret2
          exact ⟨ret2 (by omega), rfl⟩
      · have hq : epR' y = 25 := by rw [HPd.out, if_neg (fun h => by rcases h with ⟨_, h⟩ | h; exact c2 h; omega)]
        obtain rfl : F = 49 := by rw [HFd.out, hq]; rfl
        clear hq
        have d2 : decide (11 < G) = false := decide_eq_false c2
        clear HFd HPd
        go_enter Tryd.func32, Tryd.ntmps32
        go_wp2_with (first | (go_at_call 41; (with_reducible refine (H.out _).mono ?_); rintro e w' ⟨rfl, rfl⟩) | (go_at_call 38; (with_reducible refine (HNum.out _).mono ?_); rintro e w' ⟨rfl, rfl⟩) | (go_at_call 48; (with_reducible refine (HWd.out _).mono ?_); rintro e w' ⟨rfl, rfl⟩))
        all_goals
          go_ret2
          exact ⟨ret2 (by omega), rfl⟩
    · by_cases c3 : P = 24
      · subst c3
        have hq : epR' y = 25 := by rw [HPd.out, if_pos (Or.inr rfl)]; rfl
        obtain rfl : F = 49 := by rw [HFd.out, hq]; rfl
        clear hq
        clear HFd HPd c1
        go_enter Tryd.func32, Tryd.ntmps32
        go_wp2_with (first | (go_at_call 41; (with_reducible refine (H.out _).mono ?_); rintro e w' ⟨rfl, rfl⟩) | (go_at_call 38; (with_reducible refine (HNum.out _).mono ?_); rintro e w' ⟨rfl, rfl⟩) | (go_at_call 48; (with_reducible refine (HWd.out _).mono ?_); rintro e w' ⟨rfl, rfl⟩))
        all_goals
          go_ret2
          exact ⟨ret2 (by omega), rfl⟩
      · have b1 : (P == 25) = false := beq_eq_false_iff_ne.2 c1
        have b2 : (P == 24) = false := beq_eq_false_iff_ne.2 c3
        have HF2 : Hid (F = if 44 - P < 21 then 44 - P + 30 else 44 - P) := Lib.hid (by have hq : epR' y = P := (by rw [HPd.out, if_neg (fun h => by rcases h with ⟨h, _⟩ | h; exact c1 h; exact c3 h)]); rw [HFd.out, hq])
        clear HFd HPd
        by_cases c4 : 44 - P < 21
        · have eF : 44 - P + 30 = F := by rw [HF2.out, if_pos c4]
          clear HF2
          go_enter Tryd.func32, Tryd.ntmps32
          go_wp2_with (first | (go_at_call 41; (with_reducible refine (H.out _).mono ?_); rintro e w' ⟨rfl, rfl⟩) | (go_at_call 38; (with_reducible refine (HNum.out _).mono ?_); rintro e w' ⟨rfl, rfl⟩) | (go_at_call 48; (with_reducible refine (HWd.out _).mono ?_); rintro e w' ⟨rfl, rfl⟩))
          all_goals
            go_ret2
            exact ⟨ret2 (by omega), rfl⟩
        · have eF : 44 - P = F := by rw [HF2.out, if_neg c4]
          have c5 : ¬ F < 21 := by omega
          clear HF2
          go_enter Tryd.func32, Tryd.ntmps32
          go_wp2_with (first | (go_at_call 41; (with_reducible refine (H.out _).mono ?_); rintro e w' ⟨rfl, rfl⟩) | (go_at_call 38; (with_reducible refine (HNum.out _).mono ?_); rintro e w' ⟨rfl, rfl⟩) | (go_at_call 48; (with_reducible refine (HWd.out _).mono ?_); rintro e w' ⟨rfl, rfl⟩))
          all_goals
            go_ret2
            exact ⟨ret2 (by omega), rfl⟩
end Go.Proofs.YtocdabmfcbmpaaaDoor
