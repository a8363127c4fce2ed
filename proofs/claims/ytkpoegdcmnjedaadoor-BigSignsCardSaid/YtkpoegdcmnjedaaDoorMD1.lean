import Derived.Test.YtkpoegdcmnjedaaDoorMC5
namespace Go.Proofs.YtkpoegdcmnjedaaDoor
open Go.RowKit
set_option linter.unusedVariables false
set_option linter.unusedSimpArgs false

/-! ### times -/
theorem dg_set {l : List Nat} {k d j : Nat} (hk : k < l.length) : dg (l.set k d) j = if j = k then d else dg l j := by
  unfold dg
  by_cases e : j = k
  · subst e; simp [hk]
  · rw [if_neg e]; simp [List.getElem?_set_ne (fun h => e h.symm)]
theorem dg_zeros (n k : Nat) : dg (List.replicate n 0) k = 0 := by
  unfold dg
  by_cases h : k < n <;> simp [h, List.getElem?_replicate]
theorem V_set {b : Nat} {l : List Nat} {k d : Nat} (hk : k < l.length) : ∀ i, k < i → V b (l.set k d) i + b ^ k * dg l k = V b l i + b ^ k * d
  | 0, h => by omega
  | i + 1, h => by
    rw [V_succ, V_succ, dg_set hk]
    by_cases e : i = k
    · subst e
      rw [if_pos rfl, V_congr i (m := l) (fun j hj => by rw [dg_set hk, if_neg (by omega)])]
      omega
    · rw [if_neg e]
      have := V_set (b := b) (d := d) hk i (by omega)
      omega
theorem val_set {b : Nat} {l : List Nat} {k d : Nat} (hk : k < l.length) : val b (l.set k d) + b ^ k * dg l k = val b l + b ^ k * d := by
  unfold val
  rw [List.length_set]
  exact V_set hk _ hk

structure TiI (l m : List Nat) (g : Nat) (W wr : World) (i : Nat) (r : List Nat) : Prop where
  len : r.length = l.length + m.length
  dig : Dig B32 r
  eq : val B32 r = V B32 l i * val B32 m
  z : ∀ k, i + m.length ≤ k → dg r k = 0
  m : M W.heap.size wr (.slice (some ⟨g, 0, none⟩) (l.length + m.length) (l.length + m.length)) r
  b : Below W.heap.size W wr
structure TiJ (l m : List Nat) (g : Nat) (W wr : World) (i j : Nat) (r : List Nat) (carry : Nat) : Prop where
  len : r.length = l.length + m.length
  dig : Dig B32 r
  cl : carry < 4294967296
  eq : val B32 r + B32 ^ (i + j) * carry = V B32 l i * val B32 m + B32 ^ i * (dg l i * V B32 m j)
  z : ∀ k, i + m.length ≤ k → dg r k = 0
  m : M W.heap.size wr (.slice (some ⟨g, 0, none⟩) (l.length + m.length) (l.length + m.length)) r
  b : Below W.heap.size W wr
theorem times_carry {x y z c : Nat} (hx : x < 4294967296) (hy : y < 4294967296) (hz : z < 4294967296) (hc : c < 4294967296) : (x * y + z + c) / B32 < 4294967296 ∧ x * y + z + c ≤ 18446744073709551615 := by
  have h := mul_le32 hx hy
  show (x * y + z + c) / 4294967296 < _ ∧ _
  omega
theorem tiJ_step {l m r : List Nat} {i j x y z carry v : Nat} (hk : i + j < r.length) (hx : dg l i = x) (hy : dg m j = y) (hz : dg r (i + j) = z) (hv : v = x * y + z + carry)
    (h : val B32 r + B32 ^ (i + j) * carry = V B32 l i * val B32 m + B32 ^ i * (dg l i * V B32 m j)) :
    val B32 (r.set (i + j) (v % B32)) + B32 ^ (i + (j + 1)) * (v / B32) = V B32 l i * val B32 m + B32 ^ i * (dg l i * V B32 m (j + 1)) := by
  have h1 := Nat.mod_add_div v B32
  have h2 := val_set (b := B32) (d := v % B32) hk
  have h3 : B32 ^ (i + (j + 1)) * (v / B32) = B32 ^ (i + j) * (B32 * (v / B32)) := by rw [← Nat.add_assoc, Nat.pow_succ, Nat.mul_assoc]
  have h4 : B32 ^ (i + j) * (v % B32) + B32 ^ (i + j) * (B32 * (v / B32)) = B32 ^ (i + j) * (x * y) + B32 ^ (i + j) * z + B32 ^ (i + j) * carry := by
    rw [← Nat.mul_add, h1, hv, Nat.mul_add, Nat.mul_add]
  have h5 : B32 ^ i * (x * (V B32 m j + B32 ^ j * y)) = B32 ^ i * (x * V B32 m j) + B32 ^ (i + j) * (x * y) := by
    rw [Nat.mul_add, Nat.mul_add, Nat.pow_add, Nat.mul_left_comm x (B32 ^ j) y, Nat.mul_assoc]
  rw [hz] at h2
  rw [V_succ, hx, hy, h5, h3]
  rw [hx] at h
  omega
theorem tiI_step {l m r : List Nat} {i carry : Nat} (hk : i + m.length < r.length) (hz : dg r (i + m.length) = 0)
    (h : val B32 r + B32 ^ (i + m.length) * carry = V B32 l i * val B32 m + B32 ^ i * (dg l i * V B32 m m.length)) : val B32 (r.set (i + m.length) carry) = V B32 l (i + 1) * val B32 m := by
  have h2 := val_set (b := B32) (d := carry) hk
  rw [hz] at h2
  rw [V_succ, Nat.add_mul, Nat.mul_assoc (B32 ^ i)]
  have : V B32 m m.length = val B32 m := rfl
  rw [this] at h
  omega

set_option maxRecDepth 100000 in
set_option maxHeartbeats 2000000 in
theorem times_any {B B' : Nat} {va vb : Value} {l m : List Nat} {W : World} (ha : M B W va l) (hb : M B' W vb m) (hl : Dig B32 l) (hm : Dig B32 m) (hla : l.length ≤ 1000000) (hlb : m.length ≤ 1000000) :
    Calls Tryd.prog 116 #[va, vb] W fun e W' => (∃ v', e = .returned v' ∧ M W.heap.size W' v' (digs B32 (val B32 l * val B32 m))) ∧ Below W.heap.size W W' := by
  obtain ⟨aa, ca, rfl, hc1, hc2⟩ := ha.slice
  obtain ⟨ab, cb, rfl, hd1, hd2⟩ := hb.slice
  have HA := Lib.hid ha
  have HB := Lib.hid hb
  have HDA := Lib.hid hl
  have HDB := Lib.hid hm
  clear ha hb hl hm
  obtain ⟨W1, hmk, hm0, hb0, hs0⟩ := make32 W (l.length + m.length) (l.length + m.length) (by omega) (by omega)
  have ec : ((l.length + m.length : Nat) : Int) = (l.length : Int) + (m.length : Int) := by omega
  rw [ec] at hmk
  have HI0 : Hid (TiI l m W.heap.size W W1 0 (List.replicate (l.length + m.length) 0)) := Lib.hid ⟨by simp, Dig.mem (by decide) (by simp), by
      have : ∀ n, val B32 (List.replicate n 0) = 0 := fun n => by
        induction n with
        | zero => rfl
        | succ n ih => rw [List.replicate_succ, val_cons, ih, Nat.mul_zero]
      rw [this]; simp [V], fun k _ => dg_zeros _ _, hm0, hb0⟩
  generalize hg1 : W.heap.size = g1 at HI0 hmk hs0 ⊢
  have HG1 := Lib.hid hg1
  clear hm0 hb0 hg1 ec
  go_enter Tryd.func116, Tryd.ntmps116
  go_wp2
  go_loopw [20] (fun iv wr => ∃ (i : Nat) (r : List Nat), iv = .int .i64 i ∧ i ≤ l.length ∧ Hid (TiI l m g1 W wr i r)) (fun i _ => l.length - (intOf i).toNat)
  case atStart => exact ⟨0, _, rfl, Nat.zero_le _, HI0⟩
  case round =>
    obtain ⟨i, r, rfl, hi, hti⟩ := hrel
    by_cases hlt : i < l.length
    · obtain ⟨ga, rfl, _, hga⟩ := HA.out.block (show 0 < l.length by omega)
      have hcell := (hti.out.b.cell (p := ⟨ga, i, none⟩) hga).trans (HA.out.cell hlt)
      have hx := HDA.out.u32 i
      have HJ0 : Hid (TiJ l m g1 W wr i 0 r 0) := Lib.hid ⟨hti.out.len, hti.out.dig, by omega, by have := hti.out.eq; simp [V]; exact this, hti.out.z, hti.out.m, hti.out.b⟩
      obtain ⟨x, HX⟩ : ∃ x, Hid (dg l i = x) := ⟨_, Lib.hid rfl⟩
      rw [HX.out] at hcell hx
      obtain ⟨wo, rfl⟩ : ∃ wo : World, wo = wr := ⟨_, rfl⟩
      go_wp2
      go_loopw [8, 27] (fun cv jv wr2 => ∃ (j : Nat) (r : List Nat) (carry : Nat), jv = .int .i64 j ∧ cv = .int .u64 carry ∧ j ≤ m.length ∧ Hid (TiJ l m g1 W wr2 i j r carry)) (fun _ j _ => m.length - (intOf j).toNat)
      case atStart => exact ⟨0, r, 0, rfl, rfl, Nat.zero_le _, HJ0⟩
      case round =>
        obtain ⟨j, r2, carry, rfl, rfl, hj, htj⟩ := hrel
        have hcl := htj.out.cl
        have hR := htj.out.len
        by_cases hjt : j < m.length
        · obtain ⟨gb, rfl, _, hgb⟩ := HB.out.block (show 0 < m.length by omega)
          have hcb := (htj.out.b.cell (p := ⟨gb, j, none⟩) hgb).trans (HB.out.cell hjt)
          have hy := HDB.out.u32 j
          have hcr := htj.out.m.cell (show i + j < r2.length by omega)
          have hfr := htj.out.m.free (i + j)
          have hz := htj.out.dig.u32 (i + j)
          obtain ⟨y, HY⟩ : ∃ y, Hid (dg m j = y) := ⟨_, Lib.hid rfl⟩
          rw [HY.out] at hcb hy
          obtain ⟨z, HZ⟩ : ∃ z, Hid (dg r2 (i + j) = z) := ⟨_, Lib.hid rfl⟩
          rw [HZ.out] at hcr hz
          obtain ⟨v, HV⟩ : ∃ v, Hid (v = x * y + z + carry) := ⟨_, Lib.hid rfl⟩
          have hb1 := (times_carry hx hy hz hcl)
          rw [← HV.out] at hb1
          obtain ⟨hb2, hb3⟩ := hb1
          have p0 : 0 ≤ (x : Int) * (y : Int) := by rw [← Int.natCast_mul]; omega
          have p1 : (x : Int) * (y : Int) ≤ 18446744073709551615 - z - carry := by have := HV.out; rw [← Int.natCast_mul]; omega
          have HIJ : Hid (i + j < r2.length) := Lib.hid (by omega)
          clear hR
          have E1 : Hid (((x : Int) * (y : Int) + (z : Int) + (carry : Int)) % 4294967296 = ((v % B32 : Nat) : Int)) := Lib.hid (by rw [HV.out]; simp)
          have E2 : Hid (((x : Int) * (y : Int) + (z : Int) + (carry : Int)) / 4294967296 = ((v / B32 : Nat) : Int)) := Lib.hid (by rw [HV.out]; simp)
          go_wp2
          go_roundw
          case rel =>
            refine ⟨j + 1, r2.set (i + j) (v % B32), v / B32, by go_num, by rw [← E2.out], by omega, ?_⟩
            rw [E1.out]
            exact Lib.hid ⟨by rw [List.length_set]; exact htj.out.len, htj.out.dig.set (Nat.mod_lt _ (by decide)) _, hb2, tiJ_step HIJ.out HX.out HY.out HZ.out HV.out htj.out.eq,
              fun k hk => by rw [dg_set HIJ.out, if_neg (by omega)]; exact htj.out.z k hk, htj.out.m.set HIJ.out _, htj.out.b.setCell (by have := HG1.out; simp; omega) _⟩
          case measure => simp [intOf] <;> omega
        · obtain rfl : j = m.length := by omega
          have hz := htj.out.z (i + m.length) (Nat.le_refl _)
          have hcr := htj.out.m.cell (show i + m.length < r2.length by omega)
          have hfr := htj.out.m.free (i + m.length)
          have HZ := Lib.hid hz
          have HR := Lib.hid hR
          rw [hz] at hcr
          clear hz hR
          go_wp2
          go_roundw
          case rel =>
            refine ⟨i + 1, r2.set (i + m.length) carry, by go_num, by omega, ?_⟩
            have hlen : i + m.length < r2.length := by rw [HR.out]; omega
            exact Lib.hid ⟨by rw [List.length_set]; exact htj.out.len, htj.out.dig.set hcl _, tiI_step hlen HZ.out htj.out.eq,
              fun k hk => by rw [dg_set hlen, if_neg (by omega)]; exact htj.out.z k (by omega), htj.out.m.set hlen _, htj.out.b.setCell (by have := HG1.out; simp; omega) _⟩
          case measure => simp [intOf] <;> omega
    · obtain rfl : i = l.length := by omega
      go_wp2_with (go_at_call 125; refine (trimmed_any hti.out.m hti.out.dig).mono ?_; rintro e w2 ⟨rfl, rfl⟩)
      go_ret
      have hle : g1 ≤ W.heap.size := by rw [HG1.out]; exact Nat.le_refl _
      have hE : val B32 r = val B32 l * val B32 m := hti.out.eq
      rw [← hE]
      exact ⟨⟨_, rfl, (hti.out.m.trim hti.out.dig).mono hle⟩, hti.out.b.mono hle⟩
end Go.Proofs.YtkpoegdcmnjedaaDoor
