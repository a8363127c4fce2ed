import Derived.Test.YtkpoegdcmnjedaaDoorME1
namespace Go.Proofs.YtkpoegdcmnjedaaDoor
open Go.RowKit
set_option linter.unusedVariables false
set_option linter.unusedSimpArgs false

/-! ### down -/
def lostB (l : List Nat) (k s i : Nat) : Bool := decide (V B32 l (min i k) ≠ 0 ∨ (k < i ∧ dg l k % 2 ^ s ≠ 0))
structure DoI (l : List Nat) (n k : Nat) (B : Nat) (W wr : World) (v : Value) (i : Nat) (r : List Nat) : Prop where
  len : r.length = i - k
  dig : Dig B32 r
  eq : val B32 r = val B32 l / 2 ^ n % B32 ^ (i - k)
  m : M B wr v r
  b : Below B W wr

theorem lost_low {l : List Nat} {k s i : Nat} (h : i < k) : lostB l k s (i + 1) = (lostB l k s i || decide (dg l i ≠ 0)) := by
  unfold lostB
  rw [Nat.min_eq_left (by omega), Nat.min_eq_left (by omega), V_succ]
  have hp : 0 < B32 ^ i := Nat.pow_pos (by decide)
  have hk1 : ¬ k < i + 1 := by omega
  have hk2 : ¬ k < i := by omega
  by_cases h1 : V B32 l i = 0 <;> by_cases h2 : dg l i = 0
  · simp [h1, h2, hk1, hk2]
  · have : B32 ^ i * dg l i ≠ 0 := Nat.mul_ne_zero (by omega) h2
    simp [h1, h2, hk1, hk2, this]
  · simp [h1, h2, hk1, hk2]
  · simp [h1, h2, hk1, hk2]
theorem lost_at {l : List Nat} {k s : Nat} : lostB l k s (k + 1) = (lostB l k s k || decide (dg l k % 2 ^ s ≠ 0)) := by
  unfold lostB
  rw [Nat.min_eq_right (by omega), Nat.min_eq_right (by omega)]
  simp
theorem lost_high {l : List Nat} {k s i : Nat} (h : k < i) : lostB l k s (i + 1) = lostB l k s i := by
  unfold lostB
  rw [Nat.min_eq_right (by omega), Nat.min_eq_right (by omega)]
  have : k < i + 1 := by omega
  simp [h, this]
theorem V_drop {b : Nat} {l : List Nat} {k : Nat} (h : k ≤ l.length) : val b l = V b l k + b ^ k * val b (l.drop k) := by
  induction k with
  | zero => simp [V]
  | succ k ih =>
    rw [ih (by omega), val_drop (by omega), V_succ, Nat.mul_add, Nat.pow_succ, Nat.mul_assoc]
    omega
theorem div_pow_drop {l : List Nat} {k : Nat} (hd : Dig B32 l) (h : k ≤ l.length) : val B32 l / B32 ^ k = val B32 (l.drop k) ∧ val B32 l % B32 ^ k = V B32 l k := by
  have h1 := V_lt hd k
  rw [V_drop h]
  exact ⟨by rw [Nat.add_mul_div_left _ _ (Nat.pow_pos (by decide)), Nat.div_eq_of_lt h1, Nat.zero_add], by rw [Nat.add_mul_mod_self_left, Nat.mod_eq_of_lt h1]⟩
theorem do_digit {l : List Nat} {n k s i x : Nat} (hd : Dig B32 l) (hk : n / 32 = k) (hs : n % 32 = s) (hi : i < l.length) (hik : k ≤ i) (hx : dg l i = x) :
    val B32 l / 2 ^ n / B32 ^ (i - k) % B32 = (dg l (i + 1) * B32 + x) / 2 ^ s % B32 := by
  have e1 : 2 ^ n = B32 ^ k * 2 ^ s := by
    have : n = 32 * k + s := by omega
    rw [this, Nat.pow_add, Nat.pow_mul]
  have e2 : B32 ^ i = B32 ^ k * B32 ^ (i - k) := by rw [← Nat.pow_add]; congr 1; omega
  have hsl : s ≤ 32 := by omega
  have e3 : val B32 l / 2 ^ n / B32 ^ (i - k) = val B32 (l.drop i) / 2 ^ s := by
    rw [Nat.div_div_eq_div_mul, e1, Nat.mul_right_comm, ← e2, ← Nat.div_div_eq_div_mul, (div_pow_drop hd (by omega)).1]
  rw [e3, val_drop hi, hx]
  obtain ⟨R, hR⟩ : ∃ R, val B32 (l.drop (i + 1)) = dg l (i + 1) + B32 * R := by
    by_cases h : i + 1 < l.length
    · exact ⟨_, val_drop h⟩
    · refine ⟨0, ?_⟩
      rw [dg_ge (by omega), List.drop_eq_nil_of_le (by omega)]; rfl
  rw [hR]
  have e4 : B32 = 2 ^ s * 2 ^ (32 - s) := by rw [← Nat.pow_add, Nat.add_sub_cancel' (by omega)]
  have e5 : x + B32 * (dg l (i + 1) + B32 * R) = (dg l (i + 1) * B32 + x) + 2 ^ s * (B32 * (2 ^ (32 - s) * R)) := by
    have : B32 * (B32 * R) = 2 ^ s * (B32 * (2 ^ (32 - s) * R)) := by
      rw [Nat.mul_left_comm (2 ^ s) B32, ← Nat.mul_assoc (2 ^ s), ← e4]
    rw [Nat.mul_add, this, Nat.mul_comm B32 (dg l (i + 1))]
    omega
  rw [e5, Nat.add_mul_div_left _ _ (Nat.pow_pos (by decide)), Nat.add_mul_mod_self_left]
theorem do_test {x s : Nat} (hs : s < 32) (hx : x < 4294967296) : ((x : Int) * 2 ^ (31 - s) % 4294967296 * 2 % 4294967296 != 0) = decide (x % 2 ^ s ≠ 0) := by
  have e1 : (x : Int) * 2 ^ (31 - s) % 4294967296 * 2 % 4294967296 = ((x * 2 ^ (31 - s) % 4294967296 * 2 % 4294967296 : Nat) : Int) := by
    rw [Int.natCast_emod, Int.natCast_mul, Int.natCast_emod, Int.natCast_mul, Int.natCast_pow]; rfl
  have e2 : x * 2 ^ (31 - s) % 4294967296 * 2 % 4294967296 = x % 2 ^ s * 2 ^ (32 - s) := by
    rw [Nat.mod_mul_mod]
    have h2 : x * 2 ^ (31 - s) * 2 = x * 2 ^ (32 - s) := by rw [Nat.mul_assoc, ← Nat.pow_succ]; congr 2; omega
    rw [h2]
    have := shl_low (x := x) (s := 32 - s) (by omega)
    rw [show 32 - (32 - s) = s by omega] at this
    exact this
  rw [e1, e2]
  by_cases h : x % 2 ^ s = 0
  · simp [h]
  · have : x % 2 ^ s * 2 ^ (32 - s) ≠ 0 := Nat.mul_ne_zero h (Nat.pos_iff_ne_zero.1 (Nat.pow_pos (by decide)))
    simp only [h, ne_eq, not_false_eq_true, decide_true, bne_iff_ne]
    omega
theorem down_bound {l : List Nat} {n k s : Nat} (hd : Dig B32 l) (hk : n / 32 = k) (hs : n % 32 = s) : val B32 l / 2 ^ n < B32 ^ (l.length - k) := by
  have e1 : 2 ^ n = B32 ^ k * 2 ^ s := by
    have : n = 32 * k + s := by omega
    rw [this, Nat.pow_add, Nat.pow_mul]
  have h1 := val_lt hd
  by_cases h : k ≤ l.length
  · refine Nat.div_lt_of_lt_mul (Nat.lt_of_lt_of_le h1 ?_)
    have e2 : B32 ^ l.length = B32 ^ k * B32 ^ (l.length - k) := by rw [← Nat.pow_add]; congr 1; omega
    rw [e2, e1, Nat.mul_assoc]
    exact Nat.mul_le_mul_left _ (Nat.le_mul_of_pos_left _ (Nat.pow_pos (by decide)))
  · have h2 : val B32 l < 2 ^ n := by
      rw [e1]
      exact Nat.lt_of_lt_of_le h1 (Nat.le_trans (Nat.pow_le_pow_right (by decide) (by omega : l.length ≤ k)) (Nat.le_mul_of_pos_right _ (Nat.pow_pos (by decide))))
    rw [Nat.div_eq_of_lt h2]
    exact Nat.pow_pos (by decide)
theorem down_lost {l : List Nat} {n k s : Nat} (hd : Dig B32 l) (hk : n / 32 = k) (hs : n % 32 = s) : lostB l k s l.length = decide (val B32 l % 2 ^ n ≠ 0) := by
  have e1 : 2 ^ n = B32 ^ k * 2 ^ s := by
    have : n = 32 * k + s := by omega
    rw [this, Nat.pow_add, Nat.pow_mul]
  unfold lostB
  by_cases h : k < l.length
  · rw [Nat.min_eq_right (by omega)]
    have h1 := (div_pow_drop hd (show k ≤ l.length by omega))
    rw [e1, Nat.mod_mul, h1.1, h1.2]
    have h2 : val B32 (l.drop k) % 2 ^ s = dg l k % 2 ^ s := by
      rw [val_drop h]
      have e4 : B32 = 2 ^ s * 2 ^ (32 - s) := by rw [← Nat.pow_add, Nat.add_sub_cancel' (by omega)]
      rw [e4, Nat.mul_assoc, Nat.add_mul_mod_self_left]
    rw [h2]
    have hp : 0 < B32 ^ k := Nat.pow_pos (by decide)
    by_cases c1 : V B32 l k = 0 <;> by_cases c2 : dg l k % 2 ^ s = 0
    · simp [c1, c2]
    · have : B32 ^ k * (dg l k % 2 ^ s) ≠ 0 := Nat.mul_ne_zero (by omega) c2
      simp [c1, c2, h]; omega
    · simp [c1, c2]
    · simp [c1, c2, h]
  · rw [Nat.min_eq_left (by omega)]
    have h1 : val B32 l < 2 ^ n := by
      rw [e1]
      refine Nat.lt_of_lt_of_le (val_lt hd) (Nat.le_trans (Nat.pow_le_pow_right (by decide) (by omega : l.length ≤ k)) (Nat.le_mul_of_pos_right _ (Nat.pow_pos (by decide))))
    rw [Nat.mod_eq_of_lt h1]
    have : ¬ k < l.length := h
    show decide (V B32 l l.length ≠ 0 ∨ _) = decide (V B32 l l.length ≠ 0)
    simp [this]

set_option maxRecDepth 100000 in
set_option maxHeartbeats 4000000 in
theorem down_any {B : Nat} {v : Value} {l : List Nat} {W : World} (n : Nat) (hn : n ≤ 200000) (h : M B W v l) (hd : Dig B32 l) (hl : l.length ≤ 1000000) :
    Calls Tryd.prog 120 #[v, .int .i64 n] W fun e W' => (∃ v', e = .returned (.tuple #[v', .bool (decide (val B32 l % 2 ^ n ≠ 0))]) ∧ M W.heap.size W' v' (digs B32 (val B32 l / 2 ^ n))) ∧ Below W.heap.size W W' := by
  obtain ⟨ao, cap, rfl, hc1, hc2⟩ := h.slice
  have H := Lib.hid h
  have HD := Lib.hid hd
  clear h hd
  obtain ⟨k, HK⟩ : ∃ k, Hid (n / 32 = k) := ⟨_, Lib.hid rfl⟩
  have hk : (n : Int) / 32 = (k : Int) := by rw [← HK.out]; simp
  have hkl : k ≤ 200000 := by rw [← HK.out]; omega
  obtain ⟨s, HS⟩ : ∃ s, Hid (n % 32 = s) := ⟨_, Lib.hid rfl⟩
  have hs : (n : Int) % 32 = (s : Int) := by rw [← HS.out]; simp
  have hsl : s < 32 := by rw [← HS.out]; omega
  have HI0 : Hid (DoI l n k W.heap.size W W (.slice none 0 0) 0 []) := Lib.hid ⟨by simp, Dig.nil (by decide), by simp [val_nil, Nat.mod_one], M.nil _ _, Below.refl _ _⟩
  have hb0 : lostB l k s 0 = false := by simp [lostB, V]
  go_enter Tryd.func120, Tryd.ntmps120
  go_wp2
  go_loopw [6, 7, 13] (fun bv v iv wr => ∃ (i : Nat) (r : List Nat), iv = .int .i64 i ∧ bv = .bool (lostB l k s i) ∧ i ≤ l.length ∧ Hid (DoI l n k W.heap.size W wr v i r)) (fun _ _ i _ => l.length - (intOf i).toNat)
  case atStart => exact ⟨0, _, rfl, by rw [hb0], Nat.zero_le _, HI0⟩
  case round =>
    obtain ⟨i, r, rfl, rfl, hi, hu⟩ := hrel
    obtain ⟨ao5, n5, cap5, rfl⟩ := hu.out.m.slice3
    have hBw := hu.out.b.size
    obtain ⟨bo, HBO⟩ : ∃ b, Hid (lostB l k s i = b) := ⟨_, Lib.hid rfl⟩
    rw [HBO.out]
    by_cases hlt : i < l.length
    · obtain ⟨g, rfl, _, hg⟩ := H.out.block (show 0 < l.length by omega)
      have hcell := (hu.out.b.cell (p := ⟨g, i, none⟩) hg).trans (H.out.cell hlt)
      have hx := HD.out.u32 i
      obtain ⟨x, HX⟩ : ∃ x, Hid (dg l i = x) := ⟨_, Lib.hid rfl⟩
      rw [HX.out] at hcell hx
      by_cases hik : i < k
      · have HLOW : Hid (DoI l n k W.heap.size W wr (.slice ao5 n5 cap5) (i + 1) r) := Lib.hid (by
          obtain ⟨u1, u2, u3, u4, u5⟩ := hu.out
          refine ⟨by rw [u1]; omega, u2, ?_, u4, u5⟩
          rw [u3, show i + 1 - k = i - k by omega])
        by_cases hx0 : x = 0
        · subst hx0
          cases bo
          all_goals
            go_wp2
            go_roundw
            case rel => exact ⟨i + 1, r, by go_num, by rw [lost_low hik, HBO.out, HX.out]; rfl, by omega, HLOW.out⟩
            case measure => simp [intOf] <;> omega
        · cases bo
          all_goals
            go_wp2
            go_roundw
            case rel => exact ⟨i + 1, r, by go_num, by rw [lost_low hik, HBO.out, HX.out]; simp [hx0], by omega, HLOW.out⟩
            case measure => simp [intOf] <;> omega
      · have hx2 := HD.out.u32 (i + 1)
        obtain ⟨x2, HX2⟩ : ∃ x, Hid (dg l (i + 1) = x) := ⟨_, Lib.hid rfl⟩
        rw [HX2.out] at hx2
        have hor := or_top hx2 hx
        obtain ⟨y, HY⟩ : ∃ y, Hid (x2 * 4294967296 + x = y) := ⟨_, Lib.hid rfl⟩
        rw [HY.out] at hor
        obtain ⟨p, HP⟩ : ∃ p : Nat, Hid (p = 2 ^ s) := ⟨_, Lib.hid rfl⟩
        have hp : (2 : Int) ^ s = (p : Int) := by rw [HP.out]; simp
        have hyl : y ≤ 18446744073709551615 := by rw [← HY.out]; omega
        obtain ⟨d, HDV⟩ : ∃ d : Nat, Hid (y / p % B32 = d) := ⟨_, Lib.hid rfl⟩
        have HDD : Hid ((y : Int) / (p : Int) % 4294967296 = (d : Int)) := Lib.hid (by rw [← HDV.out]; simp)
        have HLr : Hid (r.length ≤ 1000000000) := Lib.hid (by rw [hu.out.len]; omega)
        have HNEW : Hid (∀ v' w', M W.heap.size w' v' (r ++ [d]) → Below W.heap.size wr w' → Hid (DoI l n k W.heap.size W w' v' (i + 1) (r ++ [d]))) := Lib.hid (fun v' w' hm hb => Lib.hid ⟨by rw [List.length_append, hu.out.len]; simp; omega, hu.out.dig.snoc (by rw [← HDV.out]; exact Nat.mod_lt _ (by decide)), by
          rw [val_snoc, hu.out.len, hu.out.eq, ← HDV.out, ← HY.out, HP.out, show i + 1 - k = (i - k) + 1 by omega, Nat.mod_pow_succ, do_digit HD.out HK.out HS.out hlt (by omega) HX.out, HX2.out], hm, hu.out.b.trans hb⟩)
        by_cases hik2 : i = k
        · obtain ⟨bt, HBT⟩ : ∃ b, Hid (decide (x % 2 ^ s ≠ 0) = b) := ⟨_, Lib.hid rfl⟩
          have htest := do_test hsl hx
          rw [HBT.out] at htest
          have HLO : Hid (lostB l k s (i + 1) = (bo || bt)) := Lib.hid (by rw [hik2, lost_at, ← hik2, HX.out, HBT.out]; rw [← HBO.out, hik2])
          subst hik2
          by_cases hnx : i + 1 < l.length
          · have hcell2 := (hu.out.b.cell (p := ⟨g, i + 1, none⟩) hg).trans (H.out.cell hnx)
            rw [HX2.out] at hcell2
            cases bo <;> cases bt
            all_goals
              go_wp2_with (at_builtin; go_loud (refine wpList_app32 rfl _ _ rfl W.heap.size wr _ d HDD.out (.slice ao5 n5 cap5) r rfl rfl hu.out.m hBw HLr.out ?_; intro v' w' hb' hm' _; have HM := Lib.hid hm'; have HB := Lib.hid hb'; clear hm' hb'))
              go_roundw
              case rel => exact ⟨i + 1, r ++ [d], by go_num, (congrArg Value.bool HLO.out).symm, by omega, HNEW.out v' w' HM.out HB.out⟩
              case measure => simp [intOf] <;> omega
          · obtain rfl : x2 = 0 := by rw [← HX2.out]; exact dg_ge (by omega)
            have ez : ((0 : Nat) : Int) * 4294967296 = 0 := rfl
            rw [ez] at hor
            cases bo <;> cases bt
            all_goals
              go_wp2_with (at_builtin; go_loud (refine wpList_app32 rfl _ _ rfl W.heap.size wr _ d HDD.out (.slice ao5 n5 cap5) r rfl rfl hu.out.m hBw HLr.out ?_; intro v' w' hb' hm' _; have HM := Lib.hid hm'; have HB := Lib.hid hb'; clear hm' hb'))
              go_roundw
              case rel => exact ⟨i + 1, r ++ [d], by go_num, (congrArg Value.bool HLO.out).symm, by omega, HNEW.out v' w' HM.out HB.out⟩
              case measure => simp [intOf] <;> omega
        · have HLO : Hid (lostB l k s (i + 1) = bo) := Lib.hid (by rw [lost_high (by omega)]; exact HBO.out)
          have hne : ((i : Int) == (k : Int)) = false := by rw [beq_eq_false_iff_ne]; omega
          by_cases hnx : i + 1 < l.length
          · have hcell2 := (hu.out.b.cell (p := ⟨g, i + 1, none⟩) hg).trans (H.out.cell hnx)
            rw [HX2.out] at hcell2
            go_wp2_with (at_builtin; go_loud (refine wpList_app32 rfl _ _ rfl W.heap.size wr _ d HDD.out (.slice ao5 n5 cap5) r rfl rfl hu.out.m hBw HLr.out ?_; intro v' w' hb' hm' _; have HM := Lib.hid hm'; have HB := Lib.hid hb'; clear hm' hb'))
            go_roundw
            case rel => exact ⟨i + 1, r ++ [d], by go_num, (congrArg Value.bool HLO.out).symm, by omega, HNEW.out v' w' HM.out HB.out⟩
            case measure => simp [intOf] <;> omega
          · obtain rfl : x2 = 0 := by rw [← HX2.out]; exact dg_ge (by omega)
            have ez : ((0 : Nat) : Int) * 4294967296 = 0 := rfl
            rw [ez] at hor
            go_wp2_with (at_builtin; go_loud (refine wpList_app32 rfl _ _ rfl W.heap.size wr _ d HDD.out (.slice ao5 n5 cap5) r rfl rfl hu.out.m hBw HLr.out ?_; intro v' w' hb' hm' _; have HM := Lib.hid hm'; have HB := Lib.hid hb'; clear hm' hb'))
            go_roundw
            case rel => exact ⟨i + 1, r ++ [d], by go_num, (congrArg Value.bool HLO.out).symm, by omega, HNEW.out v' w' HM.out HB.out⟩
            case measure => simp [intOf] <;> omega
    · obtain rfl : i = l.length := by omega
      go_wp2_with (go_at_call 125; refine (trimmed_any hu.out.m hu.out.dig).mono ?_; rintro e w2 ⟨rfl, rfl⟩)
      go_ret2
      have h1 := hu.out.eq
      have h2 : val B32 l / 2 ^ n < B32 ^ (l.length - k) := down_bound HD.out HK.out HS.out
      rw [Nat.mod_eq_of_lt h2] at h1
      rw [← h1, ← down_lost HD.out HK.out HS.out, HBO.out]
      exact ⟨⟨_, rfl, hu.out.m.trim hu.out.dig⟩, hu.out.b⟩
end Go.Proofs.YtkpoegdcmnjedaaDoor
