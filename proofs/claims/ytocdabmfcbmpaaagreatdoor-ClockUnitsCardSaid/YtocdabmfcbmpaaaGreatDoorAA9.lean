import Derived.Test.YtocdabmfcbmpaaaGreatDoorAA8
namespace Go.Proofs.YtocdabmfcbmpaaaGreatDoor
open Go.RowKit
set_option linter.unusedVariables false
set_option linter.unusedSimpArgs false

/-- what Between tells. -/
def btX (a b : Int) (s : ByteArray) : Int × Int :=
  if inT' a = true ∧ inT' b = true then match unF s unitL 0 with
    | none => (0, 5)
    | some u => (if b < a then -btI b a u else btI a b u, 0)
  else (0, 7)
theorem btX_in {a b : Int} {s : ByteArray} (h : (btX a b s).2 = 0) : inT' a = true ∧ inT' b = true ∧ ∃ u, u < 7 ∧ unF s unitL 0 = some u ∧ (a ≤ b → (btX a b s).1 = btI a b u) := by
  unfold btX at *
  by_cases hi : inT' a = true ∧ inT' b = true
  · rw [if_pos hi] at *
    refine ⟨hi.1, hi.2, ?_⟩
    cases hu : unF s unitL 0 with
    | none => rw [hu] at h; simp at h
    | some u =>
      have hl := unF_lt s unitL 0 u hu
      exact ⟨u, by simpa [unitL] using hl, rfl, fun hab => by simp only; rw [if_neg (by omega)]⟩
  · rw [if_neg hi] at h; simp at h
theorem between_bd {t b : Int} {u : Nat} (hu7 : u < 7) (t0 : -62135596800 ≤ t) (b1 : b ≤ 253402300799) (h : t ≤ b) : 0 ≤ btI t b u ∧ btI t b u ≤ 315537897599 := by
  obtain ⟨k0, ⟨x, hx, _⟩, _⟩ := between_most hu7 t0 b1 h
  refine ⟨k0, ?_⟩
  by_cases hu : u < 5
  · rw [add_less hu] at hx
    exact (some_of hx).1.1
  · rw [add_big hu] at hx
    have := (some_of hx).1.1
    omega
theorem Between_any (a b : Int) (s : ByteArray) (w : World) (hL : LenT w) : Calls Tryz.prog 10 #[I a, I b, .string s] w fun e w' => e = .returned (.tuple #[I (btX a b s).1, E (btX a b s).2]) ∧ Below w.heap.size w w' := by
  have HL := Lib.hid hL
  clear hL
  cases hu : unF s unitL 0 with
  | none =>
    have H53 := Lib.hid (fun w => un_no hu w)
    cases hia : inT' a
    · have Ha := Lib.hid (fun w => time_h hia w)
      rw [show btX a b s = (0, 7) by unfold btX; rw [if_neg (by rw [hia]; simp)]]
      clear hia hu
      go_enter Tryz.func10, Tryz.ntmps10
      go_wp2_with (first | (go_at_call 24; (with_reducible refine (H53.out _).mono ?_); rintro e W1 ⟨rfl, hb1⟩; have HB1 := Lib.hid hb1; clear hb1) | (go_at_call 25; (with_reducible refine (Ha.out _).mono ?_); rintro e w' ⟨rfl, rfl⟩))
      go_ret2
      exact ⟨rfl, HB1.out⟩
    · have Ha := Lib.hid (fun w => time_h hia w)
      cases hib : inT' b
      · have Hb := Lib.hid (fun w => time_h hib w)
        rw [show btX a b s = (0, 7) by unfold btX; rw [if_neg (by rw [hib]; simp)]]
        clear hia hib hu
        go_enter Tryz.func10, Tryz.ntmps10
        go_wp2_with (first | (go_at_call 24; (with_reducible refine (H53.out _).mono ?_); rintro e W1 ⟨rfl, hb1⟩; have HB1 := Lib.hid hb1; clear hb1) | (go_at_call 25; (with_reducible refine (Ha.out _).mono ?_); rintro e w' ⟨rfl, rfl⟩) | (go_at_call 25; (with_reducible refine (Hb.out _).mono ?_); rintro e w' ⟨rfl, rfl⟩))
        go_ret2
        exact ⟨rfl, HB1.out⟩
      · have Hb := Lib.hid (fun w => time_h hib w)
        rw [show btX a b s = (0, 5) by unfold btX; rw [if_pos ⟨hia, hib⟩, hu]]
        clear hia hib hu
        go_enter Tryz.func10, Tryz.ntmps10
        go_wp2_with (first | (go_at_call 24; (with_reducible refine (H53.out _).mono ?_); rintro e W1 ⟨rfl, hb1⟩; have HB1 := Lib.hid hb1; clear hb1) | (go_at_call 25; (with_reducible refine (Ha.out _).mono ?_); rintro e w' ⟨rfl, rfl⟩) | (go_at_call 25; (with_reducible refine (Hb.out _).mono ?_); rintro e w' ⟨rfl, rfl⟩))
        go_ret2
        exact ⟨rfl, HB1.out⟩
  | some u =>
    have H53 := Lib.hid (fun w => un_yes hu w)
    have hl : u < 7 := by simpa [unitL] using unF_lt s unitL 0 u hu
    cases hia : inT' a
    · have Ha := Lib.hid (fun w => time_h hia w)
      rw [show btX a b s = (0, 7) by unfold btX; rw [if_neg (by rw [hia]; simp)]]
      clear hia hu
      go_enter Tryz.func10, Tryz.ntmps10
      go_wp2_with (first | (go_at_call 24; (with_reducible refine (H53.out _).mono ?_); rintro e W1 ⟨rfl, hb1⟩; have HB1 := Lib.hid hb1; clear hb1) | (go_at_call 25; (with_reducible refine (Ha.out _).mono ?_); rintro e w' ⟨rfl, rfl⟩))
      go_ret2
      exact ⟨rfl, HB1.out⟩
    · have Ha := Lib.hid (fun w => time_h hia w)
      have a0 := inB_iff.1 hia
      cases hib : inT' b
      · have Hb := Lib.hid (fun w => time_h hib w)
        rw [show btX a b s = (0, 7) by unfold btX; rw [if_neg (by rw [hib]; simp)]]
        clear hia hib hu
        go_enter Tryz.func10, Tryz.ntmps10
        go_wp2_with (first | (go_at_call 24; (with_reducible refine (H53.out _).mono ?_); rintro e W1 ⟨rfl, hb1⟩; have HB1 := Lib.hid hb1; clear hb1) | (go_at_call 25; (with_reducible refine (Ha.out _).mono ?_); rintro e w' ⟨rfl, rfl⟩) | (go_at_call 25; (with_reducible refine (Hb.out _).mono ?_); rintro e w' ⟨rfl, rfl⟩))
        go_ret2
        exact ⟨rfl, HB1.out⟩
      · have Hb := Lib.hid (fun w => time_h hib w)
        have b0 := inB_iff.1 hib
        by_cases hab : b < a
        · have H55 := Lib.hid (fun w => between_all b a u hl b0.1 a0.2 (by omega) w)
          rw [show btX a b s = (-btI b a u, 0) by unfold btX; rw [if_pos ⟨hia, hib⟩, hu]; simp only; rw [if_pos hab]]
          have hk := between_bd hl b0.1 a0.2 (by omega : b ≤ a)
          generalize btI b a u = k at *
          clear hia hib hu
          go_enter Tryz.func10, Tryz.ntmps10
          go_wp2_with (first | (go_at_call 24; (with_reducible refine (H53.out _).mono ?_); rintro e W1 ⟨rfl, hb1⟩; have HB1 := Lib.hid hb1; clear hb1) | (go_at_call 25; (with_reducible refine (Ha.out _).mono ?_); rintro e w' ⟨rfl, rfl⟩) | (go_at_call 25; (with_reducible refine (Hb.out _).mono ?_); rintro e w' ⟨rfl, rfl⟩) | (go_at_call 33; (with_reducible refine (H55.out _ (HL.out.after HB1.out)).mono ?_); rintro e W2 ⟨rfl, hb2⟩; have HB2 := Lib.hid (HB1.out.trans (hb2.mono HB1.out.size)); clear hb2))
          go_ret2
          exact ⟨rfl, HB2.out⟩
        · have H55 := Lib.hid (fun w => between_all a b u hl a0.1 b0.2 (by omega) w)
          rw [show btX a b s = (btI a b u, 0) by unfold btX; rw [if_pos ⟨hia, hib⟩, hu]; simp only; rw [if_neg hab]]
          have hd : decide (b < a) = false := decide_eq_false hab
          generalize btI a b u = k at *
          clear hia hib hu
          go_enter Tryz.func10, Tryz.ntmps10
          go_wp2_with (first | (go_at_call 24; (with_reducible refine (H53.out _).mono ?_); rintro e W1 ⟨rfl, hb1⟩; have HB1 := Lib.hid hb1; clear hb1) | (go_at_call 25; (with_reducible refine (Ha.out _).mono ?_); rintro e w' ⟨rfl, rfl⟩) | (go_at_call 25; (with_reducible refine (Hb.out _).mono ?_); rintro e w' ⟨rfl, rfl⟩) | (go_at_call 33; (with_reducible refine (H55.out _ (HL.out.after HB1.out)).mono ?_); rintro e W2 ⟨rfl, hb2⟩; have HB2 := Lib.hid (HB1.out.trans (hb2.mono HB1.out.size)); clear hb2))
          go_ret2
          exact ⟨rfl, HB2.out⟩
end Go.Proofs.YtocdabmfcbmpaaaGreatDoor
