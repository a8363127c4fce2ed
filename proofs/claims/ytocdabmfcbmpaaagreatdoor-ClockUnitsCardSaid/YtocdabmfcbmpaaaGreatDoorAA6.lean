import Derived.Test.YtocdabmfcbmpaaaGreatDoorAA5
namespace Go.Proofs.YtocdabmfcbmpaaaGreatDoor
open Go.RowKit
set_option linter.unusedVariables false
set_option linter.unusedSimpArgs false

theorem add_all (t n : Int) (u : Nat) (hu : u < 7) (t0 : -62135596800 ≤ t) (t1 : t ≤ 253402300799) (w : World) (hL : LenT w) : Calls Tryz.prog 26 #[I t, I n, .int .i64 u] w (addP t n u w) := by
  by_cases h : u < 5
  · exact add_small t n u h t0 t1 w hL
  · have : u = 5 ∨ u = 6 := by omega
    rcases this with rfl | rfl
    · exact add_m5 t n t0 t1 w
    · exact add_m6 t n t0 t1 w
theorem un_yes {s : ByteArray} {u : Nat} (h : unF s unitL 0 = some u) (w : World) : Calls Tryz.prog 24 #[.string s] w fun e w' => e = .returned (.tuple #[.int .i64 u, .bool true]) ∧ Below w.heap.size w w' :=
  (unitOf_any s w).mono fun e w' hp => by unfold unP at hp; rw [h] at hp; exact hp
theorem un_no {s : ByteArray} (h : unF s unitL 0 = none) (w : World) : Calls Tryz.prog 24 #[.string s] w fun e w' => e = .returned (.tuple #[I 0, .bool false]) ∧ Below w.heap.size w w' :=
  (unitOf_any s w).mono fun e w' hp => by unfold unP at hp; rw [h] at hp; exact hp
theorem add_yes {t n x : Int} {u : Nat} (hu : u < 7) (t0 : -62135596800 ≤ t) (t1 : t ≤ 253402300799) (h : addI t n u = some x) (w : World) (hL : LenT w) : Calls Tryz.prog 26 #[I t, I n, .int .i64 u] w fun e w' => e = .returned (.tuple #[I x, .bool true]) ∧ Below w.heap.size w w' :=
  (add_all t n u hu t0 t1 w hL).mono fun e w' hp => by unfold addP at hp; rw [h] at hp; exact hp
theorem add_no {t n : Int} {u : Nat} (hu : u < 7) (t0 : -62135596800 ≤ t) (t1 : t ≤ 253402300799) (h : addI t n u = none) (w : World) (hL : LenT w) : Calls Tryz.prog 26 #[I t, I n, .int .i64 u] w fun e w' => (∃ x, e = .returned (.tuple #[I x, .bool false])) ∧ Below w.heap.size w w' :=
  (add_all t n u hu t0 t1 w hL).mono fun e w' hp => by unfold addP at hp; rw [h] at hp; exact hp
/-- what Add tells: a time and an error. -/
def addX (t n : Int) (s : ByteArray) : Int × Int :=
  if inT' t = true then match unF s unitL 0 with
    | none => (0, 5)
    | some u => match addI t n u with
      | some x => (x, 0)
      | none => (0, 7)
  else (0, 7)
theorem addX_in {t n : Int} {s : ByteArray} (h : (addX t n s).2 = 0) : inT' t = true ∧ ∃ u, u < 7 ∧ unF s unitL 0 = some u ∧ addI t n u = some (addX t n s).1 := by
  unfold addX at *
  by_cases hi : inT' t = true
  · rw [if_pos hi] at *
    refine ⟨hi, ?_⟩
    cases hu : unF s unitL 0 with
    | none => rw [hu] at h; simp at h
    | some u =>
      rw [hu] at h
      simp only at h ⊢
      have hl := unF_lt s unitL 0 u hu
      cases ha : addI t n u with
      | none => rw [ha] at h; simp at h
      | some x => exact ⟨u, by simpa [unitL] using hl, rfl, ha⟩
  · rw [if_neg hi] at h; simp at h
theorem addX_of {t n x : Int} {s : ByteArray} {u : Nat} (hi : inT' t = true) (hu : unF s unitL 0 = some u) (ha : addI t n u = some x) : addX t n s = (x, 0) := by
  unfold addX; rw [if_pos hi, hu]; simp only; rw [ha]
theorem Add_any (t n : Int) (s : ByteArray) (w : World) (hL : LenT w) : Calls Tryz.prog 8 #[I t, I n, .string s] w fun e w' => e = .returned (.tuple #[I (addX t n s).1, E (addX t n s).2]) ∧ Below w.heap.size w w' := by
  have HL := Lib.hid hL
  clear hL
  cases hi : inT' t
  · have H33 := Lib.hid (fun w => time_h hi w)
    rw [show addX t n s = (0, 7) by unfold addX; rw [if_neg (by rw [hi]; decide)]]
    cases hu : unF s unitL 0 with
    | none =>
      have H53 := Lib.hid (fun w => un_no hu w)
      clear hi hu
      go_enter Tryz.func8, Tryz.ntmps8
      go_wp2_with (first | (go_at_call 24; (with_reducible refine (H53.out _).mono ?_); rintro e W1 ⟨rfl, hb1⟩; have HB1 := Lib.hid hb1; clear hb1) | (go_at_call 25; (with_reducible refine (H33.out _).mono ?_); rintro e w' ⟨rfl, rfl⟩))
      go_ret2
      exact ⟨rfl, HB1.out⟩
    | some u =>
      have H53 := Lib.hid (fun w => un_yes hu w)
      clear hi hu
      go_enter Tryz.func8, Tryz.ntmps8
      go_wp2_with (first | (go_at_call 24; (with_reducible refine (H53.out _).mono ?_); rintro e W1 ⟨rfl, hb1⟩; have HB1 := Lib.hid hb1; clear hb1) | (go_at_call 25; (with_reducible refine (H33.out _).mono ?_); rintro e w' ⟨rfl, rfl⟩))
      go_ret2
      exact ⟨rfl, HB1.out⟩
  · have H33 := Lib.hid (fun w => time_h hi w)
    have hb := inB_iff.1 hi
    cases hu : unF s unitL 0 with
    | none =>
      rw [show addX t n s = (0, 5) by unfold addX; rw [if_pos hi, hu]]
      have H53 := Lib.hid (fun w => un_no hu w)
      clear hi hu
      go_enter Tryz.func8, Tryz.ntmps8
      go_wp2_with (first | (go_at_call 24; (with_reducible refine (H53.out _).mono ?_); rintro e W1 ⟨rfl, hb1⟩; have HB1 := Lib.hid hb1; clear hb1) | (go_at_call 25; (with_reducible refine (H33.out _).mono ?_); rintro e w' ⟨rfl, rfl⟩))
      go_ret2
      exact ⟨rfl, HB1.out⟩
    | some u =>
      have hl : u < 7 := by simpa [unitL] using unF_lt s unitL 0 u hu
      have H53 := Lib.hid (fun w => un_yes hu w)
      cases ha : addI t n u with
      | none =>
        rw [show addX t n s = (0, 7) by unfold addX; rw [if_pos hi, hu]; simp only; rw [ha]]
        have H54 := Lib.hid (fun w => add_no hl hb.1 hb.2 ha w)
        clear hi hu ha
        go_enter Tryz.func8, Tryz.ntmps8
        go_wp2_with (first | (go_at_call 24; (with_reducible refine (H53.out _).mono ?_); rintro e W1 ⟨rfl, hb1⟩; have HB1 := Lib.hid hb1; clear hb1) | (go_at_call 25; (with_reducible refine (H33.out _).mono ?_); rintro e w' ⟨rfl, rfl⟩) | (go_at_call 26; (with_reducible refine (H54.out _ (HL.out.after HB1.out)).mono ?_); rintro e W2 ⟨⟨x, rfl⟩, hb2⟩; have HB2 := Lib.hid hb2; clear hb2))
        go_ret2
        exact ⟨rfl, HB1.out.trans (HB2.out.mono HB1.out.size)⟩
      | some x =>
        rw [addX_of hi hu ha]
        have H54 := Lib.hid (fun w => add_yes hl hb.1 hb.2 ha w)
        clear hi hu ha
        go_enter Tryz.func8, Tryz.ntmps8
        go_wp2_with (first | (go_at_call 24; (with_reducible refine (H53.out _).mono ?_); rintro e W1 ⟨rfl, hb1⟩; have HB1 := Lib.hid hb1; clear hb1) | (go_at_call 25; (with_reducible refine (H33.out _).mono ?_); rintro e w' ⟨rfl, rfl⟩) | (go_at_call 26; (with_reducible refine (H54.out _ (HL.out.after HB1.out)).mono ?_); rintro e W2 ⟨rfl, hb2⟩; have HB2 := Lib.hid hb2; clear hb2))
        go_ret2
        exact ⟨rfl, HB1.out.trans (HB2.out.mono HB1.out.size)⟩
end Go.Proofs.YtocdabmfcbmpaaaGreatDoor
