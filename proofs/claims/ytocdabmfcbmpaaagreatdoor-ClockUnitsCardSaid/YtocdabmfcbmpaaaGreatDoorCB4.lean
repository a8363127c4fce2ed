import Derived.Test.YtocdabmfcbmpaaaGreatDoorCB3
namespace Go.Proofs.YtocdabmfcbmpaaaGreatDoor
open Go.RowKit
set_option linter.unusedVariables false
set_option linter.unusedSimpArgs false

theorem date_eq {N Y M D : Int} (h : Dt Y M D) (e : nuI Y M D = N + 719162) : Y = dYI N ∧ M = dMI N ∧ D = dDI N := by
  refine nu_inj h (dt_date N) ?_
  rw [nu_date, e]
theorem ys_one : ysI 1 = 0 := by decide
/-- the naive reckoning of a time's date. -/
theorem ref_date_any (t : Int) (w : World) (t0 : -62135596800 ≤ t) (t1 : t ≤ 253402300799) :
    Calls Tryz.prog 30 #[I t] w fun e w' => e = .returned (dateV t) ∧ Below w.heap.size w w' := by
  obtain ⟨N, HN⟩ : ∃ N, Hid (t / 86400 = N) := ⟨_, Lib.hid rfl⟩
  obtain ⟨S, HS⟩ : ∃ S, Hid (t % 86400 = S) := ⟨_, Lib.hid rfl⟩
  have s0 : 0 ≤ S := by rw [← HS.out]; omega
  have s1 : S < 86400 := by rw [← HS.out]; omega
  obtain ⟨Q, HQ⟩ : ∃ Q, Hid (N + 719162 = Q) := ⟨_, Lib.hid rfl⟩
  have q0 : 0 ≤ Q := by have := HN.out; have := HQ.out; omega
  have q1 : Q ≤ 3652058 := by have := HN.out; have := HQ.out; omega
  have e1 : (t + 62135596800) / 86400 = Q := by have := HN.out; have := HQ.out; omega
  have e2 : (t + 62135596800) % 86400 = S := by have := HS.out; omega
  go_enter Tryz.func30, Tryz.ntmps30
  go_wp2
  have HE1 := Lib.hid e1
  clear e1 e2
  obtain ⟨a3, HA3⟩ : ∃ a, Hid (S / 3600 = a) := ⟨_, Lib.hid rfl⟩
  obtain ⟨a4, HA4⟩ : ∃ a, Hid (S / 60 % 60 = a) := ⟨_, Lib.hid rfl⟩
  obtain ⟨a5, HA5⟩ : ∃ a, Hid (S % 60 = a) := ⟨_, Lib.hid rfl⟩
  rw [HA3.out, HA4.out, HA5.out]
  go_loopw [4] (fun v wr => ∃ k : Int, 1 ≤ k ∧ k ≤ 9999 ∧ ysI k ≤ Q ∧ v = .int .i64 (Q - ysI k) ∧ wr = (w.alloc (Obj.cells #[I 0, I 0, I 0, I 0, I 0, I 0] 41)).alloc (Obj.cells #[I k, I 1, I 0, I a3, I a4, I a5] 41)) (fun v _ => (intOf v).toNat)
  case atStart => exact ⟨1, by omega, by omega, by rw [ys_one]; omega, by rw [ys_one]; simp; exact HE1.out, rfl⟩
  case round =>
    obtain ⟨k, k0, k1, k2, rfl, rfl⟩ := hrel
    have hb := ys_bd k k0 (by omega)
    have hw := wh_bd k
    have HS1 := Lib.hid (ys_succ k)
    by_cases hlt : whI k ≤ Q - ysI k
    · go_wp2_with (go_at_call 61; refine (whole_any _ _ (by omega) (by omega)).mono ?_; rintro e w' ⟨rfl, rfl⟩)
      go_roundw
      case rel => exact ⟨k + 1, by omega, by
        refine Int.not_lt.1 fun h => ?_
        have h1 := ys_mono 10000 (k + 1) (by omega)
        have h2 : ysI 10000 = 3652059 := by decide
        have := HS1.out
        omega, by rw [HS1.out]; omega, by rw [HS1.out]; go_num, rfl⟩
      case measure => simp [intOf]; omega
    · go_wp2_with (go_at_call 61; refine (whole_any _ _ (by omega) (by omega)).mono ?_; rintro e w' ⟨rfl, rfl⟩)
      go_loopw [4] (fun v wr => ∃ j : Int, 1 ≤ j ∧ j ≤ 12 ∧ msI k j ≤ Q - ysI k ∧ v = .int .i64 (Q - ysI k - msI k j) ∧ wr = (w.alloc (Obj.cells #[I 0, I 0, I 0, I 0, I 0, I 0] 41)).alloc (Obj.cells #[I k, I j, I 0, I a3, I a4, I a5] 41)) (fun v _ => (intOf v).toNat)
      case atStart => exact ⟨1, by omega, by omega, by rw [ms_one]; omega, by rw [ms_one]; simp, rfl⟩
      case round =>
        obtain ⟨j, j0, j1, j2, rfl, rfl⟩ := hrel
        have hm := ms_bd k j j0 (by omega)
        have hl := ml_bd k j
        have HM1 := Lib.hid (ms_succ k j j0 (by omega))
        by_cases hlt2 : mlI k j ≤ Q - ysI k - msI k j
        · go_wp2_with (go_at_call 31; refine (length_any _ _ _ (by omega) (by omega)).mono ?_; rintro e w' ⟨rfl, rfl⟩)
          go_roundw
          case rel => exact ⟨j + 1, by omega, by
            refine Int.not_lt.1 fun h => ?_
            have h1 : j = 12 := by omega
            subst h1
            have h2 := ms_13 k
            have := HM1.out
            rw [show (12 : Int) + 1 = 13 from rfl, h2] at this
            omega, by rw [HM1.out]; omega, by rw [HM1.out]; go_num, rfl⟩
          case measure => simp [intOf]; omega
        · go_wp2_with (go_at_call 31; refine (length_any _ _ _ (by omega) (by omega)).mono ?_; rintro e w' ⟨rfl, rfl⟩)
          refine bodyPost_ret (v := .agg #[I k, I j, I (Q - ysI k - msI k j + 1), I a3, I a4, I a5]) (by simp [results, Tryz.results30, go_sem]) rfl ⟨?_, (by (repeat (first | exact Below.refl _ _ | (refine Below.setCell ?_ (by first | omega | (simp; done) | (simp; omega)) _) | (refine Below.alloc ?_ (by first | omega | (simp; done) | (simp; omega)) _) | refine Below.drew ?_)))⟩
          have hD : Dt k j (Q - ysI k - msI k j + 1) := ⟨j0, j1, by omega, by omega⟩
          obtain ⟨g1, g2, g3⟩ := date_eq (N := N) hD (by unfold nuI; have := HQ.out; omega)
          unfold dateV
          rw [HN.out, HS.out, HA3.out, HA4.out, HA5.out, ← g1, ← g2, ← g3]
end Go.Proofs.YtocdabmfcbmpaaaGreatDoor
