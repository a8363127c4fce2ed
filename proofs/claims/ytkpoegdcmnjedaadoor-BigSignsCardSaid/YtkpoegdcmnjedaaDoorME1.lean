import Derived.Test.YtkpoegdcmnjedaaDoorMD3
namespace Go.Proofs.YtkpoegdcmnjedaaDoor
open Go.RowKit
set_option linter.unusedVariables false
set_option linter.unusedSimpArgs false

theorem val_zeros (b n : Nat) : val b (List.replicate n 0) = 0 := by
  induction n with
  | zero => rfl
  | succ n ih => rw [List.replicate_succ, val_cons, ih, Nat.mul_zero]
/-! ### up -/
structure UpI (l : List Nat) (k s : Nat) (B : Nat) (W wr : World) (v : Value) (i : Nat) (r : List Nat) (carry : Nat) : Prop where
  len : r.length = k + i
  dig : Dig B32 r
  cl : carry < 2 ^ s
  eq : val B32 r + B32 ^ (k + i) * carry = B32 ^ k * 2 ^ s * V B32 l i
  m : M B wr v r
  b : Below B W wr

theorem shl_low {x s : Nat} (hs : s ≤ 32) : x * 2 ^ s % B32 = (x % 2 ^ (32 - s)) * 2 ^ s := by
  have e : B32 = 2 ^ (32 - s) * 2 ^ s := by rw [← Nat.pow_add, Nat.sub_add_cancel hs]
  rw [e, Nat.mul_mod_mul_right]
theorem up_or {x s carry y : Nat} (hs : s ≤ 32) (hy : y = x * 2 ^ s) (hc : carry < 2 ^ s) :
    bits .or .u32 ((y : Int) % 4294967296) (carry : Int) = ((y % B32 + carry : Nat) : Int) ∧ y % B32 + carry < B32 := by
  have h1 : y % B32 = (x % 2 ^ (32 - s)) * 2 ^ s := by rw [hy]; exact shl_low hs
  have h2 : y % B32 < B32 := Nat.mod_lt _ (by decide)
  have h3 : 2 ^ s ≤ 2 ^ 32 := Nat.pow_le_pow_right (by decide) hs
  have h4 : x % 2 ^ (32 - s) + 1 ≤ 2 ^ (32 - s) := Nat.mod_lt _ (Nat.pow_pos (by decide))
  have h5 : (x % 2 ^ (32 - s) + 1) * 2 ^ s ≤ B32 := by
    have e : B32 = 2 ^ (32 - s) * 2 ^ s := by rw [← Nat.pow_add, Nat.sub_add_cancel hs]
    rw [e]; exact Nat.mul_le_mul_right _ h4
  rw [Nat.add_mul, Nat.one_mul, ← h1] at h5
  refine ⟨?_, by omega⟩
  have e2 : (y : Int) % 4294967296 = ((y % B32 : Nat) : Int) := by simp
  rw [e2, h1]
  exact or32 hc (by rw [← h1]; exact h2) (by omega)
theorem up_step {r : List Nat} {k s i x carry y Vi : Nat} (hr : r.length = k + i) (hy : y = x * 2 ^ s) (h : val B32 r + B32 ^ (k + i) * carry = B32 ^ k * 2 ^ s * Vi) :
    val B32 (r ++ [y % B32 + carry]) + B32 ^ (k + (i + 1)) * (y / B32) = B32 ^ k * 2 ^ s * (Vi + B32 ^ i * x) := by
  have h1 := Nat.mod_add_div y B32
  have h2 : B32 ^ (k + (i + 1)) * (y / B32) = B32 ^ (k + i) * (B32 * (y / B32)) := by rw [← Nat.add_assoc, Nat.pow_succ, Nat.mul_assoc]
  have h3 : B32 ^ (k + i) * (y % B32) + B32 ^ (k + i) * (B32 * (y / B32)) = B32 ^ (k + i) * y := by rw [← Nat.mul_add, h1]
  have h4 : B32 ^ k * 2 ^ s * (B32 ^ i * x) = B32 ^ (k + i) * y := by
    rw [hy, Nat.pow_add, Nat.mul_assoc, Nat.mul_left_comm (2 ^ s), Nat.mul_comm (2 ^ s) x, Nat.mul_assoc]
  rw [val_snoc, hr, h2, Nat.mul_add, Nat.mul_add, h4]
  omega

set_option maxRecDepth 100000 in
set_option maxHeartbeats 2000000 in
theorem up_any {B : Nat} {v : Value} {l : List Nat} {W : World} (n : Nat) (hn : n ≤ 200000) (h : M B W v l) (hd : Dig B32 l) (hl : l.length ≤ 1000000) :
    Calls Tryd.prog 119 #[v, .int .i64 n] W fun e W' => (∃ v', e = .returned v' ∧ M W.heap.size W' v' (digs B32 (val B32 l * 2 ^ n))) ∧ Below W.heap.size W W' := by
  obtain ⟨ao, cap, rfl, hc1, hc2⟩ := h.slice
  by_cases h0 : l.length = 0
  · have e0 : l = [] := List.length_eq_zero_iff.1 h0
    subst e0
    have e1 : digs B32 (val B32 [] * 2 ^ n) = [] := by rw [val_nil, Nat.zero_mul, digs_zero]
    rw [e1]
    clear h hd hl h0 e1
    simp only [List.length_nil]
    go_enter Tryd.func119, Tryd.ntmps119
    go_wp2
    go_ret
    exact ⟨⟨_, rfl, M.nil _ _⟩, Below.refl _ _⟩
  · obtain ⟨g, rfl, _, hg⟩ := h.block (show 0 < l.length by omega)
    have H := Lib.hid h
    have HD := Lib.hid hd
    clear h hd
    obtain ⟨W1, hmk, hm0, hb0, hs0⟩ := make32 W (n / 32) (n / 32 + l.length + 1) (by omega) (by omega)
    obtain ⟨k, HK⟩ : ∃ k, Hid (n / 32 = k) := ⟨_, Lib.hid rfl⟩
    have hk : (n : Int) / 32 = (k : Int) := by rw [← HK.out]; simp
    have hkl : k ≤ 200000 := by rw [← HK.out]; omega
    rw [HK.out] at hmk hm0
    have ec : ((k + l.length + 1 : Nat) : Int) = (k : Int) + (l.length : Int) + 1 := by omega
    rw [ec] at hmk
    obtain ⟨s, HS⟩ : ∃ s, Hid (n % 32 = s) := ⟨_, Lib.hid rfl⟩
    have hs : (n : Int) % 32 = (s : Int) := by rw [← HS.out]; simp
    have hsl : s < 32 := by rw [← HS.out]; omega
    have hlz : ((l.length : Int) == 0) = false := by rw [beq_eq_false_iff_ne]; omega
    have HI0 : Hid (UpI l k s W.heap.size W W1 (.slice (some ⟨W.heap.size, 0, none⟩) k (k + l.length + 1)) 0 (List.replicate k 0) 0) := Lib.hid ⟨by simp, Dig.mem (by decide) (by simp), Nat.pow_pos (by decide), by rw [val_zeros]; simp [V], hm0, hb0⟩
    clear hm0 hb0 ec
    go_enter Tryd.func119, Tryd.ntmps119
    go_wp2
    go_loopw [5, 6, 23] (fun v cv iv wr => ∃ (i : Nat) (r : List Nat) (carry : Nat), iv = .int .i64 i ∧ cv = .int .u32 carry ∧ i ≤ l.length ∧ Hid (UpI l k s W.heap.size W wr v i r carry)) (fun _ _ i _ => l.length - (intOf i).toNat)
    case atStart => exact ⟨0, _, 0, rfl, rfl, Nat.zero_le _, HI0⟩
    case round =>
      obtain ⟨i, r, carry, rfl, rfl, hi, hu⟩ := hrel
      obtain ⟨ao5, n5, cap5, rfl⟩ := hu.out.m.slice3
      have hBw := hu.out.b.size
      by_cases hlt : i < l.length
      · have hcell := (hu.out.b.cell (p := ⟨g, i, none⟩) hg).trans (H.out.cell hlt)
        have hx := HD.out.u32 i
        obtain ⟨x, HX⟩ : ∃ x, Hid (dg l i = x) := ⟨_, Lib.hid rfl⟩
        rw [HX.out] at hcell hx
        obtain ⟨p, HP⟩ : ∃ p : Nat, Hid (p = 2 ^ s) := ⟨_, Lib.hid rfl⟩
        have hp : (2 : Int) ^ s = (p : Int) := by rw [HP.out]; simp
        have hpl : p ≤ 2147483648 := by rw [HP.out]; exact Nat.pow_le_pow_right (n := 2) (by decide) (show s ≤ 31 by omega)
        obtain ⟨y, HY⟩ : ∃ y : Nat, Hid (y = x * p) := ⟨_, Lib.hid rfl⟩
        have hy : (x : Int) * (p : Int) = (y : Int) := by rw [HY.out]; simp
        have hyl : y ≤ 9223372036854775808 := by rw [HY.out]; exact Nat.le_trans (Nat.mul_le_mul (show x ≤ 4294967296 by omega) hpl) (by decide)
        have HYS : Hid (y = x * 2 ^ s) := Lib.hid (by rw [HY.out, HP.out])
        have hor := up_or (show s ≤ 32 by omega) HYS.out hu.out.cl
        have HDL := Lib.hid hor.2
        replace hor := hor.1
        obtain ⟨d, HDD⟩ : ∃ d : Nat, Hid (y % B32 + carry = d) := ⟨_, Lib.hid rfl⟩
        rw [HDD.out] at hor
        have E2 : Hid ((y : Int) / 4294967296 = ((y / B32 : Nat) : Int)) := Lib.hid (by simp)
        have HLr : Hid (r.length ≤ 1000000000) := Lib.hid (by rw [hu.out.len]; omega)
        go_wp2_with (at_builtin; go_loud (refine wpList_app32 rfl _ _ rfl W.heap.size wr _ d rfl (.slice ao5 n5 cap5) r rfl rfl hu.out.m hBw HLr.out ?_; intro v' w' hb' hm' _; have HM := Lib.hid hm'; have HB := Lib.hid hb'; clear hm' hb'))
        go_roundw
        case rel =>
          refine ⟨i + 1, r ++ [d], y / B32, by go_num, by rw [← E2.out], by omega, Lib.hid ⟨by rw [List.length_append, hu.out.len]; rfl, hu.out.dig.snoc (by rw [← HDD.out]; exact HDL.out), ?_, ?_, HM.out, hu.out.b.trans HB.out⟩⟩
          · rw [HYS.out]
            refine Nat.div_lt_of_lt_mul ?_
            exact Nat.mul_lt_mul_of_pos_right hx (Nat.pow_pos (by decide))
          · rw [V_succ, HX.out, ← HDD.out]
            exact up_step hu.out.len HYS.out hu.out.eq
        case measure => simp [intOf] <;> omega
      · obtain rfl : i = l.length := by omega
        have HLr : Hid (r.length ≤ 1000000000) := Lib.hid (by rw [hu.out.len]; omega)
        have hcl : carry < 4294967296 := Nat.lt_of_lt_of_le hu.out.cl (show 2 ^ s ≤ 2 ^ 32 from Nat.pow_le_pow_right (by decide) (by omega))
        go_wp2_with (at_builtin; go_loud (refine wpList_app32 rfl _ _ rfl W.heap.size wr _ carry rfl (.slice ao5 n5 cap5) r rfl rfl hu.out.m hBw HLr.out ?_; intro v' w' hb' hm' _; have HM := Lib.hid hm'; have HB := Lib.hid hb'; clear hm' hb'; obtain ⟨ao', n', cap', rfl⟩ := HM.out.slice3))
        have HDD : Hid (Dig B32 (r ++ [carry])) := Lib.hid (hu.out.dig.snoc hcl)
        refine (trimmed_any HM.out HDD.out).mono ?_
        rintro e w2 ⟨rfl, rfl⟩
        go_wp2
        go_ret
        refine ⟨⟨_, rfl, ?_⟩, hu.out.b.trans HB.out⟩
        have hE : val B32 (r ++ [carry]) = val B32 l * 2 ^ n := by
          rw [val_snoc, hu.out.len, hu.out.eq, show V B32 l l.length = val B32 l from rfl, Nat.mul_comm]
          congr 1
          have e1 : n = 32 * k + s := by have := HK.out; have := HS.out; omega
          rw [e1, Nat.pow_add, Nat.pow_mul]
        rw [← hE]
        exact HM.out.trim HDD.out
end Go.Proofs.YtkpoegdcmnjedaaDoor
