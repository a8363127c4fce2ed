import Derived.Test.YtocdabmfcbmpaaaGreatDoorUA2
namespace Go.Proofs.YtocdabmfcbmpaaaGreatDoor
open Go.RowKit
set_option linter.unusedVariables false
set_option linter.unusedSimpArgs false

/-! ### the program's beginnings -/
theorem st_bd {t : Int} {u : Nat} (hu : u < 7) (t0 : -62135596800 ≤ t) (t1 : t ≤ 253402300799) : -62135596800 ≤ stI t u ∧ stI t u ≤ 253402300799 := ⟨st_lo hu t0, by have := st_le (t := t) hu; omega⟩
set_option maxRecDepth 100000 in
theorem whole1_any (t : Int) (u : Nat) (hu : u < 4) (b : Nat) (t0 : -62135596800 ≤ t) (t1 : t ≤ 253402300799) (w : World) (hL : LenT w) (hc : w.cell? ⟨b, 0, none⟩ = some (.int .i64 u)) :
    Calls Tryz.prog 65 #[I t, Pt b] w fun e w' => e = .returned (I (stI t u)) ∧ Below w.heap.size w w' := by
  have hl := hL.cell u (by omega)
  have hlb := len_bd u
  have HE : Hid (t / lenI u * lenI u = stI t u) := Lib.hid (st_small t u hu)
  have hbd := st_bd (t := t) (u := u) (by omega) t0 t1
  clear hL
  generalize stI t u = R at *
  generalize lenI u = l at *
  have HF := Lib.hid (fun w => floor_any t l w (by omega) (by omega) (by omega) (by omega))
  obtain ⟨q, HQ⟩ : ∃ q, Hid (t / l = q) := ⟨_, Lib.hid rfl⟩
  rw [HQ.out] at HE HF
  have he := HE.out
  have w1 : IntKind.i64.wrap (q * l) = R := by rw [he]; exact IntWalk.i64_in _ (by omega)
  go_enter Tryz.func65, Tryz.ntmps65
  go_wp2
  go_quiet ((go_at_call 59; with_reducible exact quiet_left (HF.out _)))
  go_wp2
  go_ret
  exact ⟨ret_int (by first | rfl | exact he | omega), below_drewN (Below.refl _ _) _⟩
theorem weekS_any (t : Int) (t0 : -62135596800 ≤ t) (t1 : t ≤ 253402300799) (w : World) :
    Calls Tryz.prog 66 #[I t] w fun e w' => e = .returned (I (stI t 4)) ∧ w = w' := by
  have HE : Hid (t / 86400 * 86400 - (weekdayI t - 1) * 86400 = stI t 4) := Lib.hid (st_week t)
  have hw := weekday_bd t
  have HF := Lib.hid (fun w => floor_any t 86400 w (by omega) (by omega) (by omega) (by omega))
  have HW := Lib.hid (fun w => weekday_any t w (by omega) (by omega))
  obtain ⟨q, HQ⟩ : ∃ q, Hid (t / 86400 = q) := ⟨_, Lib.hid rfl⟩
  have hq := HQ.out
  have q0 : -1000000 ≤ q ∧ q ≤ 4000000 := by omega
  rw [HQ.out] at HE HF
  generalize weekdayI t = d at *
  rw [← HE.out]
  clear HE HQ hq
  go_enter Tryz.func66, Tryz.ntmps66
  go_wp2_with (first | (go_at_call 59; (with_reducible refine (HF.out _).mono ?_); rintro e w' ⟨rfl, rfl⟩) | (go_at_call 67; (with_reducible refine (HW.out _).mono ?_); rintro e w' ⟨rfl, rfl⟩))
  go_ret
  exact ⟨ret_int (by first | rfl | omega), rfl⟩
theorem monthS_any (t : Int) (t0 : -62135596800 ≤ t) (t1 : t ≤ 253402300799) (w : World) :
    Calls Tryz.prog 68 #[I t] w fun e w' => e = .returned (I (stI t 5)) ∧ Below w.heap.size w w' := by
  have HE : Hid (stI t 5 = tmI (dYI (t / 86400)) (dMI (t / 86400)) 1 0 0 0) := Lib.hid (by unfold stI; rw [if_neg (by decide), if_pos rfl])
  have hp := parts_bd t0 t1
  have HD := Lib.hid (fun w => dateOf_any t w (by omega) (by omega))
  rw [show dateV t = D6 (dYI (t / 86400)) (dMI (t / 86400)) (dDI (t / 86400)) (t % 86400 / 3600) (t % 86400 / 60 % 60) (t % 86400 % 60) from rfl] at HD
  rw [HE.out]
  clear HE
  generalize dYI (t / 86400) = Y0 at *
  generalize dMI (t / 86400) = M0 at *
  generalize dDI (t / 86400) = D at *
  generalize t % 86400 / 3600 = x3 at *
  generalize t % 86400 / 60 % 60 = x4 at *
  generalize t % 86400 % 60 = x5 at *
  have HT := Lib.hid (fun w => timeOf_any Y0 M0 1 0 0 0 w (by omega) (by omega) (by omega) (by omega) (by omega) (by omega) (by omega) (by omega) (by omega) (by omega) (by omega) (by omega))
  generalize tmI Y0 M0 1 0 0 0 = R at *
  go_enter Tryz.func68, Tryz.ntmps68
  go_wp2_with (first | (go_at_call 53; (with_reducible refine (HD.out _).mono ?_); rintro e W1 ⟨rfl, hb1⟩; have HB1 := Lib.hid hb1; clear hb1) | (go_at_call 58; (with_reducible refine (HT.out _).mono ?_); rintro e W2 ⟨rfl, hb2⟩; have HB2 := Lib.hid hb2; clear hb2))
  go_ret
  exact ⟨rfl, (HB1.out.alloc HB1.out.size _).trans (HB2.out.mono (by have := HB1.out.size; simp; omega))⟩
theorem yearS_any (t : Int) (t0 : -62135596800 ≤ t) (t1 : t ≤ 253402300799) (w : World) :
    Calls Tryz.prog 69 #[I t] w fun e w' => e = .returned (I (stI t 6)) ∧ Below w.heap.size w w' := by
  have HE : Hid (stI t 6 = tmI (dYI (t / 86400)) 1 1 0 0 0) := Lib.hid (by unfold stI; rw [if_neg (by decide), if_neg (by decide)])
  have hp := parts_bd t0 t1
  have HD := Lib.hid (fun w => dateOf_any t w (by omega) (by omega))
  rw [show dateV t = D6 (dYI (t / 86400)) (dMI (t / 86400)) (dDI (t / 86400)) (t % 86400 / 3600) (t % 86400 / 60 % 60) (t % 86400 % 60) from rfl] at HD
  rw [HE.out]
  clear HE
  generalize dYI (t / 86400) = Y0 at *
  generalize dMI (t / 86400) = M0 at *
  generalize dDI (t / 86400) = D at *
  generalize t % 86400 / 3600 = x3 at *
  generalize t % 86400 / 60 % 60 = x4 at *
  generalize t % 86400 % 60 = x5 at *
  have hfy := field_y Y0 M0 D x3 x4 x5
  have HT := Lib.hid (fun w => timeOf_any Y0 1 1 0 0 0 w (by omega) (by omega) (by omega) (by omega) (by omega) (by omega) (by omega) (by omega) (by omega) (by omega) (by omega) (by omega))
  generalize tmI Y0 1 1 0 0 0 = R at *
  go_enter Tryz.func69, Tryz.ntmps69
  go_wp2_with (first | (go_at_call 53; (with_reducible refine (HD.out _).mono ?_); rintro e W1 ⟨rfl, hb1⟩; have HB1 := Lib.hid hb1; clear hb1) | (go_at_call 58; (with_reducible refine (HT.out _).mono ?_); rintro e W2 ⟨rfl, hb2⟩; have HB2 := Lib.hid hb2; clear hb2))
  go_ret
  exact ⟨rfl, HB1.out.trans (HB2.out.mono HB1.out.size)⟩
set_option maxHeartbeats 1000000 in
theorem starts_any (w : World) : Calls Tryz.prog 34 #[] w fun e w' => ∃ b : Nat, e = .returned (.agg #[Fv 65 #[Pt b], Fv 65 #[Pt (b + 1)], Fv 65 #[Pt (b + 2)], Fv 65 #[Pt (b + 3)], Fv 66 #[], Fv 68 #[], Fv 69 #[]]) ∧
    w'.cell? ⟨b, 0, none⟩ = some (I 0) ∧ w'.cell? ⟨b + 1, 0, none⟩ = some (I 1) ∧ w'.cell? ⟨b + 2, 0, none⟩ = some (I 2) ∧ w'.cell? ⟨b + 3, 0, none⟩ = some (I 3) ∧ Below w.heap.size w w' := by
  go_enter Tryz.func34, Tryz.ntmps34
  go_wp2_with ((go_at_call 64; (with_reducible refine (starts1_any _ _).mono ?_); rintro e w' ⟨rfl, rfl⟩))
  refine bodyPost_ret (v := .agg #[Fv 65 #[Pt (w.heap.size + 1)], Fv 65 #[Pt (w.heap.size + 1 + 1)], Fv 65 #[Pt (w.heap.size + 1 + 2)], Fv 65 #[Pt (w.heap.size + 1 + 3)], Fv 66 #[], Fv 68 #[], Fv 69 #[]]) (by simp [results, Tryz.results34, go_sem]) rfl ⟨w.heap.size + 1, rfl, ?_, ?_, ?_, ?_, ?_⟩
  · simp [go_sem]
  · simp [go_sem]
  · simp [go_sem]
  · simp [go_sem]
  · repeat (first | exact Below.refl _ _ | (refine Below.alloc ?_ (by first | omega | (simp; done) | (simp; omega)) _))
theorem fn0 {W : World} {b : Nat} {n : Int} {o : Obj} (h : W.cell? ⟨b, 0, none⟩ = some (I n)) {W' : World} (hb : Below W.heap.size W W') : W'.cell? ⟨b, 0, none⟩ = some (I n) := cell_after hb h
set_option maxRecDepth 100000 in
set_option maxHeartbeats 1000000 in
/-- what Start tells. -/
theorem Start_any (t : Int) (s : ByteArray) (w : World) (hL : LenT w) : Calls Tryz.prog 12 #[I t, .string s] w fun e w' => e = .returned (.tuple #[I (stX t s).1, E (stX t s).2]) ∧ Below w.heap.size w w' := by
  have HL := Lib.hid hL
  clear hL
  cases hu : unF s unitL 0 with
  | none =>
    have H24 := Lib.hid (fun w => un_no hu w)
    cases hi : inT' t
    · have H25 := Lib.hid (fun w => time_h hi w)
      rw [show stX t s = (0, 7) by unfold stX; rw [if_neg (by rw [hi]; decide)]]
      clear hi hu
      go_enter Tryz.func12, Tryz.ntmps12
      go_wp2_with (first | (go_at_call 24; (with_reducible refine (H24.out _).mono ?_); rintro e W1 ⟨rfl, hb1⟩; have HB1 := Lib.hid hb1; clear hb1) | (go_at_call 25; (with_reducible refine (H25.out _).mono ?_); rintro e w' ⟨rfl, rfl⟩))
      go_ret2
      exact ⟨rfl, HB1.out⟩
    · have H25 := Lib.hid (fun w => time_h hi w)
      rw [show stX t s = (0, 5) by unfold stX; rw [if_pos hi, hu]]
      clear hi hu
      go_enter Tryz.func12, Tryz.ntmps12
      go_wp2_with (first | (go_at_call 24; (with_reducible refine (H24.out _).mono ?_); rintro e W1 ⟨rfl, hb1⟩; have HB1 := Lib.hid hb1; clear hb1) | (go_at_call 25; (with_reducible refine (H25.out _).mono ?_); rintro e w' ⟨rfl, rfl⟩))
      go_ret2
      exact ⟨rfl, HB1.out⟩
  | some u =>
    have H24 := Lib.hid (fun w => un_yes hu w)
    cases hi : inT' t
    · have H25 := Lib.hid (fun w => time_h hi w)
      rw [show stX t s = (0, 7) by unfold stX; rw [if_neg (by rw [hi]; decide)]]
      clear hi hu
      go_enter Tryz.func12, Tryz.ntmps12
      go_wp2_with (first | (go_at_call 24; (with_reducible refine (H24.out _).mono ?_); rintro e W1 ⟨rfl, hb1⟩; have HB1 := Lib.hid hb1; clear hb1) | (go_at_call 25; (with_reducible refine (H25.out _).mono ?_); rintro e w' ⟨rfl, rfl⟩))
      go_ret2
      exact ⟨rfl, HB1.out⟩
    · have H25 := Lib.hid (fun w => time_h hi w)
      have ht := inB_iff.1 hi
      have hl : u < 7 := by simpa [unitL] using unF_lt s unitL 0 u hu
      rw [show stX t s = (stI t u, 0) by unfold stX; rw [if_pos hi, hu]]
      -- what a closure tells
      have HS : Hid (∀ (b : Nat) (W : World), LenT W → W.cell? ⟨b, 0, none⟩ = some (I 0) → W.cell? ⟨b + 1, 0, none⟩ = some (I 1) → W.cell? ⟨b + 2, 0, none⟩ = some (I 2) → W.cell? ⟨b + 3, 0, none⟩ = some (I 3) →
          ∃ k cap, (Instr.index 54 (.agg #[Fv 65 #[Pt b], Fv 65 #[Pt (b + 1)], Fv 65 #[Pt (b + 2)], Fv 65 #[Pt (b + 3)], Fv 66 #[], Fv 68 #[], Fv 69 #[]]) (.int .i64 u)).run Tryz.prog W = .ok (Fv k cap) W ∧ IsGo k ∧ Calls Tryz.prog k (#[I t] ++ cap) W fun e w' => e = .returned (I (stI t u)) ∧ Below W.heap.size W w') := Lib.hid (by
        intro b W hLW c0 c1 c2 c3
        match u, hl with
        | 0, _ => exact ⟨65, #[Pt b], by kernel_rfl, isGo_of Tryz.func65 (by kernel_rfl) (by kernel_rfl), whole1_any t 0 (by decide) b ht.1 ht.2 W hLW c0⟩
        | 1, _ => exact ⟨65, #[Pt (b + 1)], by kernel_rfl, isGo_of Tryz.func65 (by kernel_rfl) (by kernel_rfl), whole1_any t 1 (by decide) (b + 1) ht.1 ht.2 W hLW c1⟩
        | 2, _ => exact ⟨65, #[Pt (b + 2)], by kernel_rfl, isGo_of Tryz.func65 (by kernel_rfl) (by kernel_rfl), whole1_any t 2 (by decide) (b + 2) ht.1 ht.2 W hLW c2⟩
        | 3, _ => exact ⟨65, #[Pt (b + 3)], by kernel_rfl, isGo_of Tryz.func65 (by kernel_rfl) (by kernel_rfl), whole1_any t 3 (by decide) (b + 3) ht.1 ht.2 W hLW c3⟩
        | 4, _ => exact ⟨66, #[], by kernel_rfl, isGo_of Tryz.func66 (by kernel_rfl) (by kernel_rfl), (weekS_any t ht.1 ht.2 W).mono fun e w' ⟨he, hw⟩ => ⟨he, hw ▸ Below.refl _ _⟩⟩
        | 5, _ => exact ⟨68, #[], by kernel_rfl, isGo_of Tryz.func68 (by kernel_rfl) (by kernel_rfl), monthS_any t ht.1 ht.2 W⟩
        | 6, _ => exact ⟨69, #[], by kernel_rfl, isGo_of Tryz.func69 (by kernel_rfl) (by kernel_rfl), yearS_any t ht.1 ht.2 W⟩)
      generalize stI t u = R at *
      clear hi hu
      go_enter Tryz.func12, Tryz.ntmps12
      go_wp2_with (first | (go_at_call 24; (with_reducible refine (H24.out _).mono ?_); rintro e W1 ⟨rfl, hb1⟩; have HB1 := Lib.hid hb1; clear hb1) | (go_at_call 25; (with_reducible refine (H25.out _).mono ?_); rintro e w' ⟨rfl, rfl⟩) | (go_at_call 34; (with_reducible refine (starts_any _).mono ?_); rintro e W2 ⟨b, rfl, c0, c1, c2, c3, hb2⟩; have HB2 := Lib.hid (HB1.out.trans (hb2.mono HB1.out.size)); obtain ⟨k, cap, hk, hgo, hcl⟩ := HS.out b W2 (HL.out.after HB2.out) c0 c1 c2 c3; unfold IsGo at hgo; have HCL := Lib.hid hcl; clear hcl hb2 c0 c1 c2 c3) | ((with_reducible refine HCL.out.mono ?_); rintro e W3 ⟨rfl, hb3⟩; have HB3 := Lib.hid (HB2.out.trans (hb3.mono HB2.out.size)); clear hb3))
      go_ret2
      exact ⟨rfl, HB3.out⟩
end Go.Proofs.YtocdabmfcbmpaaaGreatDoor
