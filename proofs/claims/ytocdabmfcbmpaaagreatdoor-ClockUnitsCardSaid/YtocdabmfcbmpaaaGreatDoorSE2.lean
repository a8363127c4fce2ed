import Derived.Test.YtocdabmfcbmpaaaGreatDoorSD0
namespace Go.Proofs.YtocdabmfcbmpaaaGreatDoor
open Go.RowKit
set_option linter.unusedVariables false
set_option linter.unusedSimpArgs false

def weekdayI (t : Int) : Int := (t / 86400 + 3) % 7 + 1
theorem weekday_bd (t : Int) : 1 ≤ weekdayI t ∧ weekdayI t ≤ 7 := by unfold weekdayI; omega
theorem weekday_any (t : Int) (w : World) (t0 : -1000000000000 ≤ t) (t1 : t ≤ 1000000000000) : Calls Tryz.prog 67 #[I t] w fun e w' => e = .returned (I (weekdayI t)) ∧ w = w' := by
  obtain ⟨N, HN⟩ : ∃ N, Hid (t / 86400 = N) := ⟨_, Lib.hid rfl⟩
  have n0 : -12000000 ≤ N := by rw [← HN.out]; omega
  have n1 : N ≤ 12000000 := by rw [← HN.out]; omega
  have H1 : Hid (∀ w, Calls Tryz.prog 59 #[I t, I 86400] w fun e w' => e = .returned (I N) ∧ w = w') := Lib.hid fun w => by
    have := floor_any t 86400 w (by omega) (by omega) (by decide) (by decide)
    rwa [HN.out] at this
  obtain ⟨Q, HQ⟩ : ∃ Q, Hid ((N + 3) / 7 = Q) := ⟨_, Lib.hid rfl⟩
  have q0 : 0 ≤ N + 3 - Q * 7 := by rw [← HQ.out]; omega
  have q1 : N + 3 - Q * 7 < 7 := by rw [← HQ.out]; omega
  have H2 : Hid (∀ w, Calls Tryz.prog 59 #[I (N + 3), I 7] w fun e w' => e = .returned (I Q) ∧ w = w') := Lib.hid fun w => by
    have := floor_any (N + 3) 7 w (by omega) (by omega) (by decide) (by decide)
    rwa [HQ.out] at this
  have HE : Hid (weekdayI t = N + 3 - Q * 7 + 1) := Lib.hid (by unfold weekdayI; rw [HN.out, ← HQ.out]; omega)
  go_enter Tryz.func67, Tryz.ntmps67
  go_wp2_with (first | (go_at_call 59; (with_reducible refine (H1.out _).mono ?_); rintro e w' ⟨rfl, rfl⟩) | (go_at_call 59; (with_reducible refine (H2.out _).mono ?_); rintro e w' ⟨rfl, rfl⟩))
  go_ret
  exact ⟨ret_int HE.out.symm, rfl⟩
theorem ref_weekday_eq {t : Int} : (t + 62135596800) / 86400 % 7 + 1 = weekdayI t := by unfold weekdayI; omega
end Go.Proofs.YtocdabmfcbmpaaaGreatDoor
