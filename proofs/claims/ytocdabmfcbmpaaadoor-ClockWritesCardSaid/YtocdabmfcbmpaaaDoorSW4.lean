import Derived.Test.YtocdabmfcbmpaaaDoorSW3
namespace Go.Proofs.YtocdabmfcbmpaaaDoor
open Go.RowKit
set_option linter.unusedVariables false
set_option linter.unusedSimpArgs false

theorem OfWeek_i0 {y n d : Int} (h : inB y 1 9999 = false) (w : World) : Calls Tryd.prog 25 #[I y, I n, I d] w fun e w' => e = .returned (.tuple #[I 0, E 7]) ∧ Below w.heap.size w w' := by
  have H := Lib.hid (fun w => year_h h w)
  clear h
  go_enter Tryd.func25, Tryd.ntmps25
  go_wp2_with (first | (go_at_call 39; (with_reducible refine (H.out _).mono ?_); rintro e w' ⟨rfl, rfl⟩))
  go_ret2
  exact ⟨rfl, Below.refl _ _⟩
theorem OfWeek_i1 {y n d : Int} (h : inB y 1 9999 = true) (k : n < 1) (w : World) : Calls Tryd.prog 25 #[I y, I n, I d] w fun e w' => e = .returned (.tuple #[I 0, E 7]) ∧ Below w.heap.size w w' := by
  have H := Lib.hid (fun w => year_h h w)
  clear h
  go_enter Tryd.func25, Tryd.ntmps25
  go_wp2_with (first | (go_at_call 39; (with_reducible refine (H.out _).mono ?_); rintro e w' ⟨rfl, rfl⟩))
  go_ret2
  exact ⟨rfl, Below.refl _ _⟩
theorem OfWeek_i2 {y n d : Int} (h : inB y 1 9999 = true) (k : 53 < n) (w : World) : Calls Tryd.prog 25 #[I y, I n, I d] w fun e w' => e = .returned (.tuple #[I 0, E 7]) ∧ Below w.heap.size w w' := by
  have H := Lib.hid (fun w => year_h h w)
  have c1 : decide (n < 1) = false := decide_eq_false (by omega)
  clear h
  go_enter Tryd.func25, Tryd.ntmps25
  go_wp2_with (first | (go_at_call 39; (with_reducible refine (H.out _).mono ?_); rintro e w' ⟨rfl, rfl⟩))
  go_ret2
  exact ⟨rfl, Below.refl _ _⟩
theorem OfWeek_i3 {y n d : Int} (h : inB y 1 9999 = true) (n0 : 1 ≤ n) (n1 : n ≤ 53) (k : d < 1) (w : World) : Calls Tryd.prog 25 #[I y, I n, I d] w fun e w' => e = .returned (.tuple #[I 0, E 7]) ∧ Below w.heap.size w w' := by
  have H := Lib.hid (fun w => year_h h w)
  have c1 : decide (n < 1) = false := decide_eq_false (by omega)
  have c2 : decide (53 < n) = false := decide_eq_false (by omega)
  clear h
  go_enter Tryd.func25, Tryd.ntmps25
  go_wp2_with (first | (go_at_call 39; (with_reducible refine (H.out _).mono ?_); rintro e w' ⟨rfl, rfl⟩))
  go_ret2
  exact ⟨rfl, Below.refl _ _⟩
theorem OfWeek_i4 {y n d : Int} (h : inB y 1 9999 = true) (n0 : 1 ≤ n) (n1 : n ≤ 53) (k : 7 < d) (w : World) : Calls Tryd.prog 25 #[I y, I n, I d] w fun e w' => e = .returned (.tuple #[I 0, E 7]) ∧ Below w.heap.size w w' := by
  have H := Lib.hid (fun w => year_h h w)
  have c1 : decide (n < 1) = false := decide_eq_false (by omega)
  have c2 : decide (53 < n) = false := decide_eq_false (by omega)
  have c3 : decide (d < 1) = false := decide_eq_false (by omega)
  clear h
  go_enter Tryd.func25, Tryd.ntmps25
  go_wp2_with (first | (go_at_call 39; (with_reducible refine (H.out _).mono ?_); rintro e w' ⟨rfl, rfl⟩))
  go_ret2
  exact ⟨rfl, Below.refl _ _⟩
theorem rOfWeek_i0 {y n d : Int} (h : inB y 1 9999 = false) (w : World) : Calls Tryd.prog 26 #[I y, I n, I d] w fun e w' => e = .returned (.tuple #[I 0, E 7]) ∧ Below w.heap.size w w' := by
  have H := Lib.hid (fun w => in_h h w)
  clear h
  go_enter Tryd.func26, Tryd.ntmps26
  go_wp2_with (first | (go_at_call 41; (with_reducible refine (H.out _).mono ?_); rintro e w' ⟨rfl, rfl⟩))
  go_ret2
  exact ⟨rfl, Below.refl _ _⟩
theorem rOfWeek_i1 {y n d : Int} (h : inB y 1 9999 = true) (k : inB d 1 7 = false) (w : World) : Calls Tryd.prog 26 #[I y, I n, I d] w fun e w' => e = .returned (.tuple #[I 0, E 7]) ∧ Below w.heap.size w w' := by
  have H := Lib.hid (fun w => in_h h w)
  have K := Lib.hid (fun w => in_h k w)
  clear h k
  go_enter Tryd.func26, Tryd.ntmps26
  go_wp2_with (first | (go_at_call 41; (with_reducible refine (H.out _).mono ?_); rintro e w' ⟨rfl, rfl⟩) | (go_at_call 41; (with_reducible refine (K.out _).mono ?_); rintro e w' ⟨rfl, rfl⟩))
  go_ret2
  exact ⟨rfl, Below.refl _ _⟩
theorem rOfWeek_i2 {y n d : Int} (h : inB y 1 9999 = true) (k : inB d 1 7 = true) (l : inB n 1 53 = false) (w : World) : Calls Tryd.prog 26 #[I y, I n, I d] w fun e w' => e = .returned (.tuple #[I 0, E 7]) ∧ Below w.heap.size w w' := by
  have H := Lib.hid (fun w => in_h h w)
  have K := Lib.hid (fun w => in_h k w)
  have L := Lib.hid (fun w => in_h l w)
  clear h k l
  go_enter Tryd.func26, Tryd.ntmps26
  go_wp2_with (first | (go_at_call 41; (with_reducible refine (H.out _).mono ?_); rintro e w' ⟨rfl, rfl⟩) | (go_at_call 41; (with_reducible refine (K.out _).mono ?_); rintro e w' ⟨rfl, rfl⟩) | (go_at_call 41; (with_reducible refine (L.out _).mono ?_); rintro e w' ⟨rfl, rfl⟩))
  go_ret2
  exact ⟨rfl, Below.refl _ _⟩
theorem not_in {a lo hi : Int} (h : inB a lo hi = false) : a < lo ∨ hi < a := by
  refine Decidable.byContradiction fun hc => ?_
  have := inB_iff.2 (show lo ≤ a ∧ a ≤ hi by omega)
  rw [h] at this; cases this
theorem both_OfWeek (y n d : Int) : ∃ r er : Int, (∀ w, Calls Tryd.prog 25 #[I y, I n, I d] w fun e w' => e = .returned (.tuple #[I r, E er]) ∧ Below w.heap.size w w') ∧ (∀ w, Calls Tryd.prog 26 #[I y, I n, I d] w fun e w' => e = .returned (.tuple #[I r, E er]) ∧ Below w.heap.size w w') := by
  cases h : inB y 1 9999
  · exact ⟨0, 7, fun w => OfWeek_i0 h w, fun w => rOfWeek_i0 h w⟩
  · have hP : (n < 1 ∨ 53 < n ∨ (1 ≤ n ∧ n ≤ 53 ∧ (d < 1 ∨ 7 < d))) → ∀ w, Calls Tryd.prog 25 #[I y, I n, I d] w fun e w' => e = .returned (.tuple #[I 0, E 7]) ∧ Below w.heap.size w w' := by
      rintro (k | k | ⟨n0, n1, k | k⟩) w
      · exact OfWeek_i1 h k w
      · exact OfWeek_i2 h k w
      · exact OfWeek_i3 h n0 n1 k w
      · exact OfWeek_i4 h n0 n1 k w
    cases hd : inB d 1 7
    · refine ⟨0, 7, hP ?_, fun w => rOfWeek_i1 h hd w⟩
      have := not_in hd
      omega
    · cases hn : inB n 1 53
      · refine ⟨0, 7, hP ?_, fun w => rOfWeek_i2 h hd hn w⟩
        have := not_in hn
        omega
      · obtain ⟨d0, d1⟩ := inB_iff.1 hd
        obtain ⟨n0, n1⟩ := inB_iff.1 hn
        by_cases hy : wkY (ofT y n d) = y
        · cases hi : inT' (ofT y n d)
          · exact ⟨0, 7, fun w => OfWeek_no2 h n0 n1 d0 d1 hy hi w, fun w => rOfWeek_no2 h n0 n1 d0 d1 hy hi w⟩
          · exact ⟨_, 0, fun w => OfWeek_ok h n0 n1 d0 d1 hy hi w, fun w => rOfWeek_ok h n0 n1 d0 d1 hy hi w⟩
        · exact ⟨0, 7, fun w => OfWeek_no1 h n0 n1 d0 d1 hy w, fun w => rOfWeek_no1 h n0 n1 d0 d1 hy w⟩
theorem wkY_in {t : Int} (h0 : -62135596800 ≤ t) (h1 : t ≤ 253402300799) : inB (wkY t) 1 9999 = true := by
  have := thu_in h0 h1
  have := year_bd this.1 this.2
  exact inB_yes this.1 this.2
theorem day_in {t : Int} (h0 : -62135596800 ≤ t) (h1 : t ≤ 253402300799) : inT' (t - t % 86400) = true := inB_yes (by omega) (by omega)
theorem week_next (t : Int) : weekdayI (t + 86400) = weekdayI t % 7 + 1 := by unfold weekdayI; omega
set_option maxRecDepth 100000 in
set_option maxHeartbeats 4000000 in
theorem clockWeeks_any (t y n d : Int) (w : World) (hT : Tab w) : Calls Tryd.prog 4 #[I t, I y, I n, I d] w fun e w' => e = .returned (.bool true) ∧ Below w.heap.size w w' := by
  obtain ⟨r, er, ho, hp⟩ := both_OfWeek y n d
  have H25 := Lib.hid ho
  have H26 := Lib.hid hp
  have HT := Lib.hid hT
  clear ho hp hT
  have HB : Hid (Below w.heap.size w w) := Lib.hid (Below.refl _ _)
  cases h : inT' t
  · have H19 := Lib.hid (fun w => Weekday_no h w)
    have H20 := Lib.hid (fun w => rWeekday_no h w)
    have H21 := Lib.hid (fun w => Yearday_no h w)
    have H22 := Lib.hid (fun w => rYearday_no h w)
    have H23 := Lib.hid (fun w => Week_no h w)
    have H24 := Lib.hid (fun w => rWeek_no h w)
    clear h
    go_enter Tryd.func4, Tryd.ntmps4
    go_wp2_with (first | (go_at_call 19; (with_reducible refine (H19.out _).mono ?_); rintro e w' ⟨rfl, rfl⟩) | (go_at_call 20; (with_reducible refine (H20.out _).mono ?_); rintro e w' ⟨rfl, rfl⟩) | (go_at_call 21; (with_reducible refine (H21.out _).mono ?_); rintro e W ⟨rfl, hb⟩; replace HB := Lib.hid (HB.out.trans (hb.mono HB.out.size)); clear hb) | (go_at_call 22; (with_reducible refine (H22.out _).mono ?_); rintro e W ⟨rfl, hb⟩; replace HB := Lib.hid (HB.out.trans (hb.mono HB.out.size)); clear hb) | (go_at_call 23; (with_reducible refine (H23.out _).mono ?_); rintro e W ⟨rfl, hb⟩; replace HB := Lib.hid (HB.out.trans (hb.mono HB.out.size)); clear hb) | (go_at_call 24; (with_reducible refine (H24.out _).mono ?_); rintro e W ⟨rfl, hb⟩; replace HB := Lib.hid (HB.out.trans (hb.mono HB.out.size)); clear hb) | (go_at_call 25; (with_reducible refine (H25.out _).mono ?_); rintro e W ⟨rfl, hb⟩; replace HB := Lib.hid (HB.out.trans (hb.mono HB.out.size)); clear hb) | (go_at_call 26; (with_reducible refine (H26.out _).mono ?_); rintro e W ⟨rfl, hb⟩; replace HB := Lib.hid (HB.out.trans (hb.mono HB.out.size)); clear hb) | (go_at_call 18; (with_reducible refine (awake_any _ (HT.out.after HB.out)).mono ?_); rintro e Wz ⟨rfl, hbz⟩))
    go_ret
    exact ⟨rfl, HB.out.trans (hbz.mono HB.out.size)⟩
  · obtain ⟨t0, t1⟩ := inB_iff.1 h
    have H19 := Lib.hid (fun w => Weekday_ok h w)
    have H20 := Lib.hid (fun w => rWeekday_ok h w)
    have H21 := Lib.hid (fun w => Yearday_ok h w)
    have H22 := Lib.hid (fun w => rYearday_ok h w)
    have H23 := Lib.hid (fun w => Week_ok h w)
    have H24 := Lib.hid (fun w => rWeek_ok h w)
    have hwb := weekday_bd t
    have hnb := wkN_bd t
    have hback := of_back t
    have hthu : wkY (ofT (wkY t) (wkN t) (weekdayI t)) = wkY t := by
      rw [hback]; unfold wkY; rw [thu_day, thu_day]; congr 1; omega
    have hbk := OfWeek_ok (wkY_in t0 t1) hnb.1 hnb.2 hwb.1 hwb.2 hthu (by rw [hback]; exact day_in t0 t1)
    rw [hback] at hbk
    have HBk := Lib.hid hbk
    clear hbk hback hthu hnb
    have hnx := week_next t
    have e3 : (t + 62135596800) % 86400 = t % 86400 := by omega
    cases h2 : inT' (t + 86400)
    · have H19n := Lib.hid (fun w => Weekday_no h2 w)
      clear h h2 hnx
      generalize weekdayI t = a at *
      generalize wkY t = yk at *
      generalize wkN t = nk at *
      generalize ydI t = yd at *
      go_enter Tryd.func4, Tryd.ntmps4
      go_wp2_with (first | (go_at_call 19; (with_reducible refine (H19.out _).mono ?_); rintro e W ⟨rfl, hb⟩; replace HB := Lib.hid (HB.out.trans (hb.mono HB.out.size)); clear hb) | (go_at_call 20; (with_reducible refine (H20.out _).mono ?_); rintro e w' ⟨rfl, rfl⟩) | (go_at_call 21; (with_reducible refine (H21.out _).mono ?_); rintro e W ⟨rfl, hb⟩; replace HB := Lib.hid (HB.out.trans (hb.mono HB.out.size)); clear hb) | (go_at_call 22; (with_reducible refine (H22.out _).mono ?_); rintro e W ⟨rfl, hb⟩; replace HB := Lib.hid (HB.out.trans (hb.mono HB.out.size)); clear hb) | (go_at_call 23; (with_reducible refine (H23.out _).mono ?_); rintro e W ⟨rfl, hb⟩; replace HB := Lib.hid (HB.out.trans (hb.mono HB.out.size)); clear hb) | (go_at_call 24; (with_reducible refine (H24.out _).mono ?_); rintro e W ⟨rfl, hb⟩; replace HB := Lib.hid (HB.out.trans (hb.mono HB.out.size)); clear hb) | (go_at_call 25; (with_reducible refine (H25.out _).mono ?_); rintro e W ⟨rfl, hb⟩; replace HB := Lib.hid (HB.out.trans (hb.mono HB.out.size)); clear hb) | (go_at_call 26; (with_reducible refine (H26.out _).mono ?_); rintro e W ⟨rfl, hb⟩; replace HB := Lib.hid (HB.out.trans (hb.mono HB.out.size)); clear hb) | (go_at_call 19; (with_reducible refine (H19n.out _).mono ?_); rintro e w' ⟨rfl, rfl⟩) | (go_at_call 25; (with_reducible refine (HBk.out _).mono ?_); rintro e W ⟨rfl, hb⟩; replace HB := Lib.hid (HB.out.trans (hb.mono HB.out.size)); clear hb) | (go_at_call 18; (with_reducible refine (awake_any _ (HT.out.after HB.out)).mono ?_); rintro e Wz ⟨rfl, hbz⟩))
      go_ret
      exact ⟨rfl, HB.out.trans (hbz.mono HB.out.size)⟩
    · have H19n := Lib.hid (fun w => Weekday_ok h2 w)
      rw [hnx] at H19n
      clear h h2 hnx
      generalize weekdayI t = a at *
      generalize wkY t = yk at *
      generalize wkN t = nk at *
      generalize ydI t = yd at *
      go_enter Tryd.func4, Tryd.ntmps4
      go_wp2_with (first | (go_at_call 19; (with_reducible refine (H19.out _).mono ?_); rintro e W ⟨rfl, hb⟩; replace HB := Lib.hid (HB.out.trans (hb.mono HB.out.size)); clear hb) | (go_at_call 20; (with_reducible refine (H20.out _).mono ?_); rintro e w' ⟨rfl, rfl⟩) | (go_at_call 21; (with_reducible refine (H21.out _).mono ?_); rintro e W ⟨rfl, hb⟩; replace HB := Lib.hid (HB.out.trans (hb.mono HB.out.size)); clear hb) | (go_at_call 22; (with_reducible refine (H22.out _).mono ?_); rintro e W ⟨rfl, hb⟩; replace HB := Lib.hid (HB.out.trans (hb.mono HB.out.size)); clear hb) | (go_at_call 23; (with_reducible refine (H23.out _).mono ?_); rintro e W ⟨rfl, hb⟩; replace HB := Lib.hid (HB.out.trans (hb.mono HB.out.size)); clear hb) | (go_at_call 24; (with_reducible refine (H24.out _).mono ?_); rintro e W ⟨rfl, hb⟩; replace HB := Lib.hid (HB.out.trans (hb.mono HB.out.size)); clear hb) | (go_at_call 25; (with_reducible refine (H25.out _).mono ?_); rintro e W ⟨rfl, hb⟩; replace HB := Lib.hid (HB.out.trans (hb.mono HB.out.size)); clear hb) | (go_at_call 26; (with_reducible refine (H26.out _).mono ?_); rintro e W ⟨rfl, hb⟩; replace HB := Lib.hid (HB.out.trans (hb.mono HB.out.size)); clear hb) | (go_at_call 19; (with_reducible refine (H19n.out _).mono ?_); rintro e W ⟨rfl, hb⟩; replace HB := Lib.hid (HB.out.trans (hb.mono HB.out.size)); clear hb) | (go_at_call 25; (with_reducible refine (HBk.out _).mono ?_); rintro e W ⟨rfl, hb⟩; replace HB := Lib.hid (HB.out.trans (hb.mono HB.out.size)); clear hb) | (go_at_call 18; (with_reducible refine (awake_any _ (HT.out.after HB.out)).mono ?_); rintro e Wz ⟨rfl, hbz⟩))
      go_ret
      exact ⟨rfl, HB.out.trans (hbz.mono HB.out.size)⟩
end Go.Proofs.YtocdabmfcbmpaaaDoor
