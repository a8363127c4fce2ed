import Derived.Test.YtocdabmfcbmpaaaGreatDoorUA4
namespace Go.Proofs.YtocdabmfcbmpaaaGreatDoor
open Go.RowKit
set_option linter.unusedVariables false
set_option linter.unusedSimpArgs false

/-! ### the reference's Between -/
theorem rBet_far {a b : Int} (s : ByteArray) (hi : inT' a = false ∨ (inT' a = true ∧ inT' b = false)) (w : World) : Calls Tryz.prog 11 #[I a, I b, .string s] w fun e w' => e = .returned (.tuple #[I 0, E 7]) ∧ w = w' := by
  rcases hi with hi | ⟨hi, hj⟩
  · have Ha := Lib.hid (fun w => right_h hi w)
    clear hi
    go_enter Tryz.func11, Tryz.ntmps11
    go_wp2_with (go_at_call 27; (with_reducible refine (Ha.out _).mono ?_); rintro e w' ⟨rfl, rfl⟩)
    go_ret2
    exact ⟨rfl, rfl⟩
  · have Ha := Lib.hid (fun w => right_h hi w)
    have Hb := Lib.hid (fun w => right_h hj w)
    clear hi hj
    go_enter Tryz.func11, Tryz.ntmps11
    go_wp2_with (first | (go_at_call 27; (with_reducible refine (Ha.out _).mono ?_); rintro e w' ⟨rfl, rfl⟩) | (go_at_call 27; (with_reducible refine (Hb.out _).mono ?_); rintro e w' ⟨rfl, rfl⟩))
    go_ret2
    exact ⟨rfl, rfl⟩
theorem rBet_name {a b : Int} {s : ByteArray} (hi : inT' a = true) (hj : inT' b = true) (hu : unF s unitL 0 = none) (w : World) : Calls Tryz.prog 11 #[I a, I b, .string s] w fun e w' => e = .returned (.tuple #[I 0, E 5]) ∧ w = w' := by
  have Ha := Lib.hid (fun w => right_h hi w)
  have Hb := Lib.hid (fun w => right_h hj w)
  have H28 := Lib.hid (fun w => ru_no hu w)
  clear hi hj hu
  go_enter Tryz.func11, Tryz.ntmps11
  go_wp2_with (first | (go_at_call 27; (with_reducible refine (Ha.out _).mono ?_); rintro e w' ⟨rfl, rfl⟩) | (go_at_call 27; (with_reducible refine (Hb.out _).mono ?_); rintro e w' ⟨rfl, rfl⟩) | (go_at_call 28; (with_reducible refine (H28.out _).mono ?_); rintro e w' ⟨rfl, rfl⟩))
  go_ret2
  exact ⟨rfl, rfl⟩
theorem rBet_small {a b : Int} {s : ByteArray} {u : Nat} (hi : inT' a = true) (hj : inT' b = true) (hu : unF s unitL 0 = some u) (h5 : u < 5) (hab : a ≤ b) (w : World) : Calls Tryz.prog 11 #[I a, I b, .string s] w fun e w' => e = .returned (.tuple #[I (btI a b u), E 0]) ∧ w = w' := by
  have hi' := inB_iff.1 hi
  have hj' := inB_iff.1 hj
  have hl := len_bd u
  have HB : Hid (btI a b u = (b - a) / lenI u) := Lib.hid (bt_small h5)
  have Ha := Lib.hid (fun w => right_h hi w)
  have Hb := Lib.hid (fun w => right_h hj w)
  have H28 := Lib.hid (fun w => ru_yes hu w)
  rw [show rlI u = lenI u by unfold rlI; rw [if_pos h5]] at H28
  rw [HB.out]
  clear HB hi hj hu
  generalize lenI u = l at *
  obtain ⟨q, hq⟩ : ∃ q, (b - a) / l = q := ⟨_, rfl⟩
  have q0 : 0 ≤ q := by rw [← hq]; exact Int.ediv_nonneg (by omega) (by omega)
  have q1 : q ≤ b - a := by rw [← hq]; exact Int.ediv_le_self _ (by omega)
  have hl0 : (0 : Int) < l := by omega
  have hd : decide (b < a) = false := decide_eq_false (by omega)
  go_enter Tryz.func11, Tryz.ntmps11
  go_wp2_with (first | (go_at_call 27; (with_reducible refine (Ha.out _).mono ?_); rintro e w' ⟨rfl, rfl⟩) | (go_at_call 27; (with_reducible refine (Hb.out _).mono ?_); rintro e w' ⟨rfl, rfl⟩) | (go_at_call 28; (with_reducible refine (H28.out _).mono ?_); rintro e w' ⟨rfl, rfl⟩))
  go_ret2
  exact ⟨by first | rfl | (rw [hq]), rfl⟩
set_option maxRecDepth 100000 in
set_option maxHeartbeats 2000000 in
theorem rBet_m5 {a b : Int} (hi : inT' a = true) (hj : inT' b = true) (hab : a ≤ b) (w : World) : Calls Tryz.prog 11 #[I a, I b, .string ⟨#[109, 111, 110, 116, 104]⟩] w fun e w' => e = .returned (.tuple #[I (btI a b 5), E 0]) ∧ Below w.heap.size w w' := by
  have hi' := inB_iff.1 hi
  have hj' := inB_iff.1 hj
  have Ha := Lib.hid (fun w => right_h hi w)
  have Hb := Lib.hid (fun w => right_h hj w)
  have H28 := Lib.hid (fun w => ru_yes un_5 w)
  rw [show rlI 5 = 0 from rfl] at H28
  have pa := parts_bd hi'.1 hi'.2
  have pb := parts_bd hj'.1 hj'.2
  have HDa := Lib.hid (fun w => ref_date_any a w hi'.1 hi'.2)
  have HDb := Lib.hid (fun w => ref_date_any b w hj'.1 hj'.2)
  rw [show dateV a = D6 (dYI (a / 86400)) (dMI (a / 86400)) (dDI (a / 86400)) (a % 86400 / 3600) (a % 86400 / 60 % 60) (a % 86400 % 60) from rfl] at HDa
  rw [show dateV b = D6 (dYI (b / 86400)) (dMI (b / 86400)) (dDI (b / 86400)) (b % 86400 / 3600) (b % 86400 / 60 % 60) (b % 86400 % 60) from rfl] at HDb
  obtain ⟨k0, ⟨x, hx, hxb⟩, hmost⟩ := between_most (u := 5) (by decide) hi'.1 hj'.2 hab
  obtain ⟨n, HN⟩ : ∃ n, Hid (btN a b 5 = n) := ⟨_, Lib.hid rfl⟩
  have hn : (dYI (b / 86400) - dYI (a / 86400)) * 12 + dMI (b / 86400) - dMI (a / 86400) = n := HN.out
  have hkn : btI a b 5 = n ∨ btI a b 5 = n - 1 := by
    have hb2 : btI a b 5 = match addI a (btN a b 5) 5 with
      | some x => if b < x then btN a b 5 - 1 else btN a b 5
      | none => btN a b 5 - 1 := by unfold btI; rw [if_neg (by decide)]; rfl
    rw [hb2, HN.out]
    cases addI a n 5 with
    | none => exact Or.inr rfl
    | some y => simp only; split <;> omega
  have HX : Hid (addX a (btI a b 5) ⟨#[109, 111, 110, 116, 104]⟩ = (x, 0)) := Lib.hid (addX_of hi un_5 hx)
  have HY : Hid ((addX a (btI a b 5 + 1) ⟨#[109, 111, 110, 116, 104]⟩).2 ≠ 0 ∨ b < (addX a (btI a b 5 + 1) ⟨#[109, 111, 110, 116, 104]⟩).1) := Lib.hid (by
    by_cases h0 : (addX a (btI a b 5 + 1) ⟨#[109, 111, 110, 116, 104]⟩).2 = 0
    · obtain ⟨_, v, _, hv, hadd⟩ := addX_in h0
      rw [un_5] at hv
      cases hv
      exact Or.inr (hmost _ hadd)
    · exact Or.inl h0)
  have HA := Lib.hid (fun k w => rAdd_any a k ⟨#[109, 111, 110, 116, 104]⟩ w)
  obtain ⟨K, HK⟩ : ∃ K, Hid (btI a b 5 = K) := ⟨_, Lib.hid rfl⟩
  rw [HK.out] at HX HY hkn k0 ⊢
  clear hi hj hx hmost HN HK
  generalize dYI (a / 86400) = Ya at *
  generalize dMI (a / 86400) = Ma at *
  generalize dDI (a / 86400) = Da at *
  generalize a % 86400 / 3600 = x3 at *
  generalize a % 86400 / 60 % 60 = x4 at *
  generalize a % 86400 % 60 = x5 at *
  generalize dYI (b / 86400) = Yb at *
  generalize dMI (b / 86400) = Mb at *
  generalize dDI (b / 86400) = Db at *
  generalize b % 86400 / 3600 = y3 at *
  generalize b % 86400 / 60 % 60 = y4 at *
  generalize b % 86400 % 60 = y5 at *
  have nb : -200000 ≤ n ∧ n ≤ 200000 := by omega
  have hd : decide (b < a) = false := decide_eq_false (by omega)
  have e1 : 12 * (Yb - Ya) + Mb - Ma = n := by omega
  have Kn : K ≤ n ∧ n ≤ K + 1 := by omega
  go_enter Tryz.func11, Tryz.ntmps11
  go_wp2_with (first | (go_at_call 27; (with_reducible refine (Ha.out _).mono ?_); rintro e w' ⟨rfl, rfl⟩) | (go_at_call 27; (with_reducible refine (Hb.out _).mono ?_); rintro e w' ⟨rfl, rfl⟩) | (go_at_call 28; (with_reducible refine (H28.out _).mono ?_); rintro e w' ⟨rfl, rfl⟩) | (go_at_call 30; (with_reducible refine (HDa.out _).mono ?_); rintro e W1 ⟨rfl, hb1⟩; have HB1 := Lib.hid hb1; clear hb1) | (go_at_call 30; (with_reducible refine (HDb.out _).mono ?_); rintro e W2 ⟨rfl, hb2⟩; have HB2 := Lib.hid (HB1.out.trans (hb2.mono HB1.out.size)); clear hb2))
  go_loopw [14, 15, 16] (fun v p q wr => ∃ k : Int, v = I k ∧ (k = K ∨ k = K + 1) ∧ k ≤ n ∧ Below w.heap.size w wr) (fun v _ _ _ => (intOf v).toNat)
  case atStart => exact ⟨n, rfl, by omega, by omega, (HB2.out.alloc HB2.out.size _).alloc (by have := HB2.out.size; simp; omega) _⟩
  case round =>
    obtain ⟨k, rfl, hk, hkn2, hbw⟩ := hrel
    have HBw := Lib.hid hbw
    clear hbw
    rcases hk with rfl | rfl
    · have HAk := Lib.hid (HA.out k)
      rw [HX.out] at HAk
      by_cases hk1 : 0 < k
      · go_wp2_with ((go_at_call 9; (with_reducible refine (HAk.out _).mono ?_); rintro e W4 ⟨rfl, hb4⟩; have HB4 := Lib.hid (HBw.out.trans (hb4.mono HBw.out.size)); clear hb4))
        go_ret2
        exact ⟨rfl, HB4.out⟩
      · go_wp2
        go_ret2
        exact ⟨rfl, HBw.out⟩
    · have HAk := Lib.hid (HA.out (K + 1))
      have hk1 : 0 < K + 1 := by omega
      have hy := HY.out
      clear HY HX
      generalize (addX a (K + 1) ⟨#[109, 111, 110, 116, 104]⟩).1 = xv at *
      generalize (addX a (K + 1) ⟨#[109, 111, 110, 116, 104]⟩).2 = xe at *
      by_cases h0 : xe = 0
      · have hgt : decide (xv ≤ b) = false := decide_eq_false (by omega)
        subst h0
        clear hy
        go_wp2_with ((go_at_call 9; (with_reducible refine (HAk.out _).mono ?_); rintro e W4 ⟨rfl, hb4⟩; have HB4 := Lib.hid (HBw.out.trans (hb4.mono HBw.out.size)); clear hb4))
        go_roundw
        case rel => exact ⟨K, by go_num, Or.inl rfl, by omega, HB4.out⟩
        case measure => simp [intOf]; omega
      · have hne : (xe == 0) = false := beq_eq_false_iff_ne.2 h0
        clear hy
        go_wp2_with ((go_at_call 9; (with_reducible refine (HAk.out _).mono ?_); rintro e W4 ⟨rfl, hb4⟩; have HB4 := Lib.hid (HBw.out.trans (hb4.mono HBw.out.size)); clear hb4))
        go_roundw
        case rel => exact ⟨K, by go_num, Or.inl rfl, by omega, HB4.out⟩
        case measure => simp [intOf]; omega
set_option maxRecDepth 100000 in
set_option maxHeartbeats 2000000 in
theorem rBet_m6 {a b : Int} (hi : inT' a = true) (hj : inT' b = true) (hab : a ≤ b) (w : World) : Calls Tryz.prog 11 #[I a, I b, .string ⟨#[121, 101, 97, 114]⟩] w fun e w' => e = .returned (.tuple #[I (btI a b 6), E 0]) ∧ Below w.heap.size w w' := by
  have hi' := inB_iff.1 hi
  have hj' := inB_iff.1 hj
  have Ha := Lib.hid (fun w => right_h hi w)
  have Hb := Lib.hid (fun w => right_h hj w)
  have H28 := Lib.hid (fun w => ru_yes un_6 w)
  rw [show rlI 6 = 0 from rfl] at H28
  have pa := parts_bd hi'.1 hi'.2
  have pb := parts_bd hj'.1 hj'.2
  have HDa := Lib.hid (fun w => ref_date_any a w hi'.1 hi'.2)
  have HDb := Lib.hid (fun w => ref_date_any b w hj'.1 hj'.2)
  rw [show dateV a = D6 (dYI (a / 86400)) (dMI (a / 86400)) (dDI (a / 86400)) (a % 86400 / 3600) (a % 86400 / 60 % 60) (a % 86400 % 60) from rfl] at HDa
  rw [show dateV b = D6 (dYI (b / 86400)) (dMI (b / 86400)) (dDI (b / 86400)) (b % 86400 / 3600) (b % 86400 / 60 % 60) (b % 86400 % 60) from rfl] at HDb
  obtain ⟨k0, ⟨x, hx, hxb⟩, hmost⟩ := between_most (u := 6) (by decide) hi'.1 hj'.2 hab
  obtain ⟨n, HN⟩ : ∃ n, Hid (btN a b 6 = n) := ⟨_, Lib.hid rfl⟩
  have hn : dYI (b / 86400) - dYI (a / 86400) = n := HN.out
  have hkn : btI a b 6 = n ∨ btI a b 6 = n - 1 := by
    have hb2 : btI a b 6 = match addI a (btN a b 6) 6 with
      | some x => if b < x then btN a b 6 - 1 else btN a b 6
      | none => btN a b 6 - 1 := by unfold btI; rw [if_neg (by decide)]; rfl
    rw [hb2, HN.out]
    cases addI a n 6 with
    | none => exact Or.inr rfl
    | some y => simp only; split <;> omega
  have HX : Hid (addX a (btI a b 6) ⟨#[121, 101, 97, 114]⟩ = (x, 0)) := Lib.hid (addX_of hi un_6 hx)
  have HY : Hid ((addX a (btI a b 6 + 1) ⟨#[121, 101, 97, 114]⟩).2 ≠ 0 ∨ b < (addX a (btI a b 6 + 1) ⟨#[121, 101, 97, 114]⟩).1) := Lib.hid (by
    by_cases h0 : (addX a (btI a b 6 + 1) ⟨#[121, 101, 97, 114]⟩).2 = 0
    · obtain ⟨_, v, _, hv, hadd⟩ := addX_in h0
      rw [un_6] at hv
      cases hv
      exact Or.inr (hmost _ hadd)
    · exact Or.inl h0)
  have HA := Lib.hid (fun k w => rAdd_any a k ⟨#[121, 101, 97, 114]⟩ w)
  obtain ⟨K, HK⟩ : ∃ K, Hid (btI a b 6 = K) := ⟨_, Lib.hid rfl⟩
  rw [HK.out] at HX HY hkn k0 ⊢
  clear hi hj hx hmost HN HK
  generalize dYI (a / 86400) = Ya at *
  generalize dMI (a / 86400) = Ma at *
  generalize dDI (a / 86400) = Da at *
  generalize a % 86400 / 3600 = x3 at *
  generalize a % 86400 / 60 % 60 = x4 at *
  generalize a % 86400 % 60 = x5 at *
  generalize dYI (b / 86400) = Yb at *
  generalize dMI (b / 86400) = Mb at *
  generalize dDI (b / 86400) = Db at *
  generalize b % 86400 / 3600 = y3 at *
  generalize b % 86400 / 60 % 60 = y4 at *
  generalize b % 86400 % 60 = y5 at *
  have nb : -200000 ≤ n ∧ n ≤ 200000 := by omega
  have hd : decide (b < a) = false := decide_eq_false (by omega)
  have e1 : Yb - Ya = n := by omega
  have Kn : K ≤ n ∧ n ≤ K + 1 := by omega
  go_enter Tryz.func11, Tryz.ntmps11
  go_wp2_with (first | (go_at_call 27; (with_reducible refine (Ha.out _).mono ?_); rintro e w' ⟨rfl, rfl⟩) | (go_at_call 27; (with_reducible refine (Hb.out _).mono ?_); rintro e w' ⟨rfl, rfl⟩) | (go_at_call 28; (with_reducible refine (H28.out _).mono ?_); rintro e w' ⟨rfl, rfl⟩) | (go_at_call 30; (with_reducible refine (HDa.out _).mono ?_); rintro e W1 ⟨rfl, hb1⟩; have HB1 := Lib.hid hb1; clear hb1) | (go_at_call 30; (with_reducible refine (HDb.out _).mono ?_); rintro e W2 ⟨rfl, hb2⟩; have HB2 := Lib.hid (HB1.out.trans (hb2.mono HB1.out.size)); clear hb2))
  go_loopw [14, 15, 16] (fun v p q wr => ∃ k : Int, v = I k ∧ (k = K ∨ k = K + 1) ∧ k ≤ n ∧ Below w.heap.size w wr) (fun v _ _ _ => (intOf v).toNat)
  case atStart => exact ⟨n, rfl, by omega, by omega, (HB2.out.alloc HB2.out.size _).alloc (by have := HB2.out.size; simp; omega) _⟩
  case round =>
    obtain ⟨k, rfl, hk, hkn2, hbw⟩ := hrel
    have HBw := Lib.hid hbw
    clear hbw
    rcases hk with rfl | rfl
    · have HAk := Lib.hid (HA.out k)
      rw [HX.out] at HAk
      by_cases hk1 : 0 < k
      · go_wp2_with ((go_at_call 9; (with_reducible refine (HAk.out _).mono ?_); rintro e W4 ⟨rfl, hb4⟩; have HB4 := Lib.hid (HBw.out.trans (hb4.mono HBw.out.size)); clear hb4))
        go_ret2
        exact ⟨rfl, HB4.out⟩
      · go_wp2
        go_ret2
        exact ⟨rfl, HBw.out⟩
    · have HAk := Lib.hid (HA.out (K + 1))
      have hk1 : 0 < K + 1 := by omega
      have hy := HY.out
      clear HY HX
      generalize (addX a (K + 1) ⟨#[121, 101, 97, 114]⟩).1 = xv at *
      generalize (addX a (K + 1) ⟨#[121, 101, 97, 114]⟩).2 = xe at *
      by_cases h0 : xe = 0
      · have hgt : decide (xv ≤ b) = false := decide_eq_false (by omega)
        subst h0
        clear hy
        go_wp2_with ((go_at_call 9; (with_reducible refine (HAk.out _).mono ?_); rintro e W4 ⟨rfl, hb4⟩; have HB4 := Lib.hid (HBw.out.trans (hb4.mono HBw.out.size)); clear hb4))
        go_roundw
        case rel => exact ⟨K, by go_num, Or.inl rfl, by omega, HB4.out⟩
        case measure => simp [intOf]; omega
      · have hne : (xe == 0) = false := beq_eq_false_iff_ne.2 h0
        clear hy
        go_wp2_with ((go_at_call 9; (with_reducible refine (HAk.out _).mono ?_); rintro e W4 ⟨rfl, hb4⟩; have HB4 := Lib.hid (HBw.out.trans (hb4.mono HBw.out.size)); clear hb4))
        go_roundw
        case rel => exact ⟨K, by go_num, Or.inl rfl, by omega, HB4.out⟩
        case measure => simp [intOf]; omega
theorem rBet_le {a b : Int} {s : ByteArray} {u : Nat} (hi : inT' a = true) (hj : inT' b = true) (hu : unF s unitL 0 = some u) (hab : a ≤ b) (w : World) : Calls Tryz.prog 11 #[I a, I b, .string s] w fun e w' => e = .returned (.tuple #[I (btI a b u), E 0]) ∧ Below w.heap.size w w' := by
  have hl : u < 7 := by simpa [unitL] using unF_lt s unitL 0 u hu
  by_cases h5 : u < 5
  · exact (rBet_small hi hj hu h5 hab w).mono fun e w' ⟨he, hw⟩ => ⟨he, hw ▸ Below.refl _ _⟩
  · have : u = 5 ∨ u = 6 := by omega
    rcases this with rfl | rfl
    · rw [un_month hu]; exact rBet_m5 hi hj hab w
    · rw [un_year hu]; exact rBet_m6 hi hj hab w
set_option maxRecDepth 100000 in
theorem rBet_any (a b : Int) (s : ByteArray) (w : World) : Calls Tryz.prog 11 #[I a, I b, .string s] w fun e w' => e = .returned (.tuple #[I (btX a b s).1, E (btX a b s).2]) ∧ Below w.heap.size w w' := by
  cases hi : inT' a
  · rw [show btX a b s = (0, 7) by unfold btX; rw [if_neg (by rw [hi]; simp)]]
    exact (rBet_far s (Or.inl hi) w).mono fun e w' ⟨he, hw⟩ => ⟨he, hw ▸ Below.refl _ _⟩
  cases hj : inT' b
  · rw [show btX a b s = (0, 7) by unfold btX; rw [if_neg (by rw [hj]; simp)]]
    exact (rBet_far s (Or.inr ⟨hi, hj⟩) w).mono fun e w' ⟨he, hw⟩ => ⟨he, hw ▸ Below.refl _ _⟩
  cases hu : unF s unitL 0 with
  | none =>
    rw [show btX a b s = (0, 5) by unfold btX; rw [if_pos ⟨hi, hj⟩, hu]]
    exact (rBet_name hi hj hu w).mono fun e w' ⟨he, hw⟩ => ⟨he, hw ▸ Below.refl _ _⟩
  | some u =>
    have hl : u < 7 := by simpa [unitL] using unF_lt s unitL 0 u hu
    have a0 := inB_iff.1 hi
    have b0 := inB_iff.1 hj
    by_cases hab : b < a
    · rw [show btX a b s = (-btI b a u, 0) by unfold btX; rw [if_pos ⟨hi, hj⟩, hu]; simp only; rw [if_pos hab]]
      have H11 := Lib.hid (fun w => rBet_le hj hi hu (by omega) w)
      have hk := between_bd hl b0.1 a0.2 (by omega : b ≤ a)
      have Ha := Lib.hid (fun w => right_h hi w)
      have Hb := Lib.hid (fun w => right_h hj w)
      have H28 := Lib.hid (fun w => ru_yes hu w)
      generalize btI b a u = k at *
      generalize rlI u = z at *
      clear hi hj hu
      go_enter Tryz.func11, Tryz.ntmps11
      go_wp2_with (first | (go_at_call 27; (with_reducible refine (Ha.out _).mono ?_); rintro e w' ⟨rfl, rfl⟩) | (go_at_call 27; (with_reducible refine (Hb.out _).mono ?_); rintro e w' ⟨rfl, rfl⟩) | (go_at_call 28; (with_reducible refine (H28.out _).mono ?_); rintro e w' ⟨rfl, rfl⟩) | (go_at_call 11; (with_reducible refine (H11.out _).mono ?_); rintro e W1 ⟨rfl, hb1⟩; have HB1 := Lib.hid hb1; clear hb1))
      go_ret2
      exact ⟨rfl, HB1.out⟩
    · rw [show btX a b s = (btI a b u, 0) by unfold btX; rw [if_pos ⟨hi, hj⟩, hu]; simp only; rw [if_neg hab]]
      exact rBet_le hi hj hu (by omega) w
end Go.Proofs.YtocdabmfcbmpaaaGreatDoor
