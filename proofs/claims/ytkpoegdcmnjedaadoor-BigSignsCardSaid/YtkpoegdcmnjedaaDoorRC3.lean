import Derived.Test.YtkpoegdcmnjedaaDoorRC2
import Derived.Test.YtkpoegdcmnjedaaDoorMD1
namespace Go.Proofs.YtkpoegdcmnjedaaDoor
open Go.RowKit
set_option linter.unusedVariables false
set_option linter.unusedSimpArgs false

structure NoI (n : Nat) (W wr : World) (v : Value) (u i : Nat) (r : List Nat) : Prop where
  len : r.length = i
  dig : Dig 10 r
  eq : n = val 10 r + 10 ^ i * u
  low : r = [] ∨ 10 ^ (i - 1) ≤ n
  m : N W.heap.size wr v r
  b : Below W.heap.size W wr
set_option maxHeartbeats 1000000 in
theorem ref_natOf_any (n : Nat) (W : World) (hn : n ≤ 1000000000) :
    Calls Tryd.prog 84 #[.int .i64 n] W fun e W' => (∃ v', e = .returned v' ∧ N W.heap.size W' v' (digs 10 n)) ∧ Below W.heap.size W W' := by
  have HI0 : Hid (NoI n W W (.slice none 0 0) n 0 []) := Lib.hid ⟨rfl, Dig.nil (by decide), by simp [val_nil], Or.inl rfl, N.nil _ _, Below.refl _ _⟩
  go_enter Tryd.func84, Tryd.ntmps84
  go_wp2
  go_loopw [0, 3] (fun nv v wr => ∃ (u i : Nat) (r : List Nat), nv = .int .i64 u ∧ u ≤ 1000000000 ∧ i + u ≤ 1000000000 ∧ Hid (NoI n W wr v u i r)) (fun nv _ _ => (intOf nv).toNat)
  case atStart => exact ⟨n, 0, [], rfl, hn, by omega, HI0⟩
  case round =>
    obtain ⟨u, i, r, rfl, hu, hiu, hp⟩ := hrel
    have hBw := hp.out.b.size
    by_cases h0 : 0 < u
    · have E1 : Hid ((u : Int) % 10 = ((u % 10 : Nat) : Int)) := Lib.hid (by omega)
      have E2 : Hid ((u : Int) / 10 = ((u / 10 : Nat) : Int)) := Lib.hid (by omega)
      have HLL : Hid (r.length ≤ 1000000000) := Lib.hid (by rw [hp.out.len]; omega)
      have HST : Hid (n = val 10 (r ++ [u % 10]) + 10 ^ (i + 1) * (u / 10) ∧ 10 ^ i ≤ n) := Lib.hid (by
        have h1 := hp.out.eq
        have h2 := Nat.mod_add_div u 10
        have h3 : 10 ^ i * (u % 10 + 10 * (u / 10)) = 10 ^ i * u := by rw [h2]
        have h4 : 10 ^ i * 1 ≤ 10 ^ i * u := Nat.mul_le_mul_left _ h0
        rw [Nat.mul_add] at h3
        rw [val_snoc, hp.out.len, Nat.pow_succ, Nat.mul_assoc]
        omega)
      go_wp2_with (at_builtin; go_loud (refine wpList_app64 rfl _ _ rfl W.heap.size wr _ (u % 10) E1.out u3 r rfl rfl hp.out.m hBw HLL.out ?_; intro v' w' hb' hm' _; have HNN := Lib.hid hm'; have HBB := Lib.hid hb'; clear hm' hb'))
      go_roundw
      case rel => exact ⟨u / 10, i + 1, r ++ [u % 10], by rw [← E2.out], by omega, by omega, Lib.hid ⟨by rw [List.length_append, hp.out.len]; rfl, hp.out.dig.snoc (Nat.mod_lt _ (by decide)), HST.out.1, Or.inr HST.out.2, HNN.out, hp.out.b.trans HBB.out⟩⟩
      case measure => simp [intOf] <;> omega
    · obtain rfl : u = 0 := by omega
      go_wp2
      go_ret
      have he : val 10 r = n := by have := hp.out.eq; omega
      refine ⟨⟨_, rfl, ?_⟩, hp.out.b⟩
      have hf : digs 10 (val 10 r) = r := full_digs (by decide) hp.out.dig (by
        rcases hp.out.low with h | h
        · exact Or.inl h
        · right; rw [hp.out.len, he]; exact h)
      rw [he] at hf
      rw [hf]
      exact hp.out.m

structure RiI (l m : List Nat) (g : Nat) (W wr : World) (i : Nat) (r : List Nat) : Prop where
  len : r.length = l.length + m.length
  dig : Dig 10 r
  eq : val 10 r = V 10 l i * val 10 m
  z : ∀ k, i + m.length ≤ k → dg r k = 0
  m : N W.heap.size wr (.slice (some ⟨g, 0, none⟩) (l.length + m.length) (l.length + m.length)) r
  b : Below W.heap.size W wr
structure RiJ (l m : List Nat) (g : Nat) (W wr : World) (i j : Nat) (r : List Nat) (carry : Nat) : Prop where
  len : r.length = l.length + m.length
  dig : Dig 10 r
  cl : carry < 10
  eq : val 10 r + 10 ^ (i + j) * carry = V 10 l i * val 10 m + 10 ^ i * (dg l i * V 10 m j)
  z : ∀ k, i + max j m.length ≤ k → dg r k = 0
  top : j ≤ m.length ∨ (j = m.length + 1 ∧ carry = 0)
  m : N W.heap.size wr (.slice (some ⟨g, 0, none⟩) (l.length + m.length) (l.length + m.length)) r
  b : Below W.heap.size W wr
theorem riJ_step {b : Nat} {l m r : List Nat} {i j x y z carry v : Nat} (hk : i + j < r.length) (hx : dg l i = x) (hy : dg m j = y) (hz : dg r (i + j) = z) (hv : v = z + x * y + carry)
    (h : val b r + b ^ (i + j) * carry = V b l i * val b m + b ^ i * (dg l i * V b m j)) :
    val b (r.set (i + j) (v % b)) + b ^ (i + (j + 1)) * (v / b) = V b l i * val b m + b ^ i * (dg l i * V b m (j + 1)) := by
  have h1 := Nat.mod_add_div v b
  have h2 := val_set (b := b) (d := v % b) hk
  have h3 : b ^ (i + (j + 1)) * (v / b) = b ^ (i + j) * (b * (v / b)) := by rw [← Nat.add_assoc, Nat.pow_succ, Nat.mul_assoc]
  have h4 : b ^ (i + j) * (v % b) + b ^ (i + j) * (b * (v / b)) = b ^ (i + j) * z + b ^ (i + j) * (x * y) + b ^ (i + j) * carry := by
    rw [← Nat.mul_add, h1, hv, Nat.mul_add, Nat.mul_add]
  have h5 : b ^ i * (x * (V b m j + b ^ j * y)) = b ^ i * (x * V b m j) + b ^ (i + j) * (x * y) := by
    rw [Nat.mul_add, Nat.mul_add, Nat.pow_add, Nat.mul_left_comm x (b ^ j) y, Nat.mul_assoc]
  rw [hz] at h2
  rw [V_succ, hx, hy, h5, h3]
  rw [hx] at h
  omega

set_option maxRecDepth 100000 in
set_option maxHeartbeats 2000000 in
theorem ref_times_any {B B' : Nat} {va vb : Value} {x y : Nat} {W : World} (ha : N B W va (digs 10 x)) (hb : N B' W vb (digs 10 y)) (hla : nt x ≤ 1000000) (hlb : nt y ≤ 1000000) :
    Calls Tryd.prog 94 #[va, vb] W fun e W' => (∃ v', e = .returned v' ∧ N W.heap.size W' v' (digs 10 (x * y))) ∧ Below W.heap.size W W' := by
  obtain ⟨aa, ca, rfl, _, _⟩ := ha.slice
  obtain ⟨ab, cb, rfl, _, _⟩ := hb.slice
  obtain ⟨l, HL⟩ : ∃ l, Hid (digs 10 x = l) := ⟨_, Lib.hid rfl⟩
  obtain ⟨m, HM⟩ : ∃ m, Hid (digs 10 y = m) := ⟨_, Lib.hid rfl⟩
  rw [HL.out] at ha ⊢
  rw [HM.out] at hb ⊢
  have HA := Lib.hid ha
  have HB := Lib.hid hb
  have hll : l.length ≤ 1000000 := by rw [← HL.out]; exact hla
  have hlm : m.length ≤ 1000000 := by rw [← HM.out]; exact hlb
  have DL : Hid (Dig 10 l) := Lib.hid (by rw [← HL.out]; exact digs_dig (by decide) _)
  have DM : Hid (Dig 10 m) := Lib.hid (by rw [← HM.out]; exact digs_dig (by decide) _)
  have HV : Hid (val 10 l = x ∧ val 10 m = y) := Lib.hid ⟨by rw [← HL.out, val_digs (by decide)], by rw [← HM.out, val_digs (by decide)]⟩
  clear ha hb hla hlb
  obtain ⟨W1, hmk, hm0, hb0, hs0⟩ := make64 W (l.length + m.length) (l.length + m.length) (by omega) (by omega)
  have ec : ((l.length + m.length : Nat) : Int) = (l.length : Int) + (m.length : Int) := by omega
  rw [ec] at hmk
  have HI0 : Hid (RiI l m W.heap.size W W1 0 (List.replicate (l.length + m.length) 0)) := Lib.hid ⟨by simp, Dig.mem (by decide) (by simp), by
      have : ∀ n, val 10 (List.replicate n 0) = 0 := fun n => by
        induction n with
        | zero => rfl
        | succ n ih => rw [List.replicate_succ, val_cons, ih, Nat.mul_zero]
      rw [this]; simp [V], fun k _ => dg_zeros _ _, hm0, hb0⟩
  generalize hg1 : W.heap.size = g1 at HI0 hmk hs0 ⊢
  have HG1 := Lib.hid hg1
  clear hm0 hb0 hg1 ec
  go_enter Tryd.func94, Tryd.ntmps94
  go_wp2
  go_loopw [18] (fun iv wr => ∃ (i : Nat) (r : List Nat), iv = .int .i64 i ∧ i ≤ l.length ∧ Hid (RiI l m g1 W wr i r)) (fun i _ => l.length - (intOf i).toNat)
  case atStart => exact ⟨0, _, rfl, Nat.zero_le _, HI0⟩
  case round =>
    obtain ⟨i, r, rfl, hi, hti⟩ := hrel
    by_cases hlt : i < l.length
    · obtain ⟨ga, rfl, _, hga⟩ := HA.out.block (show 0 < l.length by omega)
      have hx := DL.out i
      have HJ0 : Hid (RiJ l m g1 W wr i 0 r 0) := Lib.hid ⟨hti.out.len, hti.out.dig, by omega, by have := hti.out.eq; simp [V]; exact this, fun k hk => hti.out.z k (by omega), Or.inl (Nat.zero_le _), hti.out.m, hti.out.b⟩
      obtain ⟨x1, HX⟩ : ∃ x, Hid (dg l i = x) := ⟨_, Lib.hid rfl⟩
      rw [HX.out] at hx
      obtain ⟨wo, rfl⟩ : ∃ wo : World, wo = wr := ⟨_, rfl⟩
      go_wp2
      go_loopw [7, 8] (fun cv jv wr2 => ∃ (j : Nat) (r : List Nat) (carry : Nat), jv = .int .i64 j ∧ cv = .int .i64 carry ∧ j ≤ 1000001 ∧ Hid (RiJ l m g1 W wr2 i j r carry)) (fun _ j _ => 1000002 - (intOf j).toNat)
      case atStart => exact ⟨0, r, 0, rfl, rfl, Nat.zero_le _, HJ0⟩
      case round =>
        obtain ⟨j, r2, carry, rfl, rfl, hj, htj⟩ := hrel
        have hcl := htj.out.cl
        have hR := htj.out.len
        have hgo : ((j < m.length ∨ (decide (j < m.length) = false ∧ 0 < carry)) ∧ j ≤ m.length) ∨ (m.length ≤ j ∧ carry = 0) := by
          have := htj.out.top
          by_cases h : j < m.length
          · exact Or.inl ⟨Or.inl h, by omega⟩
          · by_cases h2 : 0 < carry
            · exact Or.inl ⟨Or.inr ⟨by simpa using h, h2⟩, by omega⟩
            · exact Or.inr ⟨by omega, by omega⟩
        rcases hgo with ⟨hgo, hjm⟩ | ⟨hjt, rfl⟩
        · have hcr := htj.out.m.cell (show i + j < r2.length by omega)
          have hfr := htj.out.m.free (i + j)
          have hz := htj.out.dig (i + j)
          have hcell := (htj.out.b.cell (p := ⟨ga, i, none⟩) hga).trans (HA.out.cell hlt)
          rw [HX.out] at hcell
          have hy := DM.out j
          obtain ⟨y1, HY⟩ : ∃ y, Hid (dg m j = y) := ⟨_, Lib.hid rfl⟩
          have HD2 : Hid (∀ n, Calls Tryd.prog 105 #[.slice ab m.length cb, .int .i64 j] (wr.drewN n) fun e w' => e = .returned (.int .i64 (y1 : Int)) ∧ w' = wr.drewN n) := Lib.hid fun n => by
            have := ref_digit_any ((HB.out.later htj.out.b (Nat.le_refl _)).later (below_drewN _ _ n) (Nat.le_refl _)) j (by omega)
            rw [HY.out] at this
            exact turned this
          rw [HY.out] at hy
          obtain ⟨z, HZ⟩ : ∃ z, Hid (dg r2 (i + j) = z) := ⟨_, Lib.hid rfl⟩
          rw [HZ.out] at hcr hz
          obtain ⟨v, HVV⟩ : ∃ v, Hid (v = z + x1 * y1 + carry) := ⟨_, Lib.hid rfl⟩
          have hp81 : x1 * y1 ≤ 9 * 9 := Nat.mul_le_mul (by omega) (by omega)
          obtain ⟨p, HP⟩ : ∃ p, Hid (x1 * y1 = p) := ⟨_, Lib.hid rfl⟩
          rw [HP.out] at hp81
          have hm0 : IntKind.i64.wrap ((x1 : Int) * (y1 : Int)) = (p : Int) := by
            rw [← Int.natCast_mul, HP.out]; exact IntWalk.i64_in _ (by omega)
          have hm1 : IntKind.i64.wrap ((z : Int) + (p : Int)) = (z : Int) + (p : Int) := IntWalk.i64_in _ (by omega)
          have hm2 : IntKind.i64.wrap ((z : Int) + (p : Int) + (carry : Int)) = (z : Int) + (p : Int) + (carry : Int) := IntWalk.i64_in _ (by omega)
          have hm3 : IntKind.i64.wrap ((i : Int) + (j : Int)) = (i : Int) + (j : Int) := IntWalk.i64_in _ (by omega)
          have hm4 : ((i : Int) + (j : Int)).toNat = i + j := by omega
          have hi0 : (0 : Int) ≤ (i : Int) + (j : Int) := by omega
          have hi1 : (i : Int) + (j : Int) < (l.length : Int) + (m.length : Int) := by omega
          have hi2 : (0 : Int) ≤ (i : Int) := by omega
          have hi3 : (i : Int) < (l.length : Int) := by omega
          have HIJ : Hid (i + j < r2.length) := Lib.hid (by omega)
          clear hR
          rcases hgo with hgo | ⟨hgo, hgo2⟩
          all_goals
            go_wp2_with fail
            go_quiet ((go_at_call 105; exact Calls.quiet_of_same (HD2.out _)))
            clear hm0 hm1 hm2 hm3 hm4 hi0 hi1 hi2 hi3
            have HBN := Lib.hid (below_drewN wr.heap.size wr nq)
            have hcr2 := cell_after HBN.out hcr
            have hfr2 := free_after (a := ⟨g1, i + j, none⟩) HBN.out (World.block_lt_of_cell? wr ⟨g1, i + j, none⟩ hcr) hfr
            have HN2 := Lib.hid (htj.out.m.later HBN.out (Nat.le_refl _))
            have HB2 := Lib.hid (htj.out.b.trans (HBN.out.mono htj.out.b.size))
            clear hcr hfr
            have E1 : Hid (((z : Int) + (p : Int) + (carry : Int)) % 10 = ((v % 10 : Nat) : Int)) := Lib.hid (by rw [HVV.out, HP.out]; simp)
            have E2 : Hid (((z : Int) + (p : Int) + (carry : Int)) / 10 = ((v / 10 : Nat) : Int)) := Lib.hid (by rw [HVV.out, HP.out]; simp)
            have HTOP : Hid (j + 1 ≤ m.length ∨ (j + 1 = m.length + 1 ∧ v / 10 = 0)) := Lib.hid (by
              by_cases hj1 : j < m.length
              · exact Or.inl (by omega)
              · right
                have hjl : j = m.length := by omega
                have h1 := htj.out.z (i + j) (by omega)
                have h2 : dg m j = 0 := dg_ge (by omega)
                rw [HZ.out] at h1
                rw [HY.out] at h2
                refine ⟨by omega, ?_⟩
                rw [HVV.out, h1, h2]; omega)
            have HVL : Hid (v / 10 < 10) := Lib.hid (by rw [HVV.out, HP.out]; omega)
            generalize hwn : wr.drewN nq = wn at hcr2 hfr2 HN2 HB2 ⊢
            go_wp2
            go_roundw
            case rel =>
              refine ⟨j + 1, r2.set (i + j) (v % 10), v / 10, by go_num, by rw [← E2.out], by omega, ?_⟩
              rw [E1.out]
              exact Lib.hid ⟨by rw [List.length_set]; exact htj.out.len, htj.out.dig.set (Nat.mod_lt _ (by decide)) _, HVL.out, riJ_step HIJ.out HX.out HY.out HZ.out HVV.out htj.out.eq,
                fun k hk => by rw [dg_set HIJ.out, if_neg (by omega)]; exact htj.out.z k (by omega), HTOP.out, HN2.out.set HIJ.out _, HB2.out.setCell (by have := HG1.out; simp; omega) _⟩
            case measure => simp [intOf] <;> omega
        · have hjf : decide (j < m.length) = false := by rw [decide_eq_false_iff_not]; omega
          have HRI : Hid (RiI l m g1 W wr (i + 1) r2) := Lib.hid ⟨htj.out.len, htj.out.dig, by
            have h1 := htj.out.eq
            rw [V_stop j hjt, Nat.mul_zero, Nat.add_zero] at h1
            rw [V_succ, Nat.add_mul, Nat.mul_assoc]; exact h1, fun k hk => htj.out.z k (by have := htj.out.top; omega), htj.out.m, htj.out.b⟩
          clear hR
          go_wp2
          go_roundw
          case rel => exact ⟨i + 1, r2, by go_num, by omega, HRI⟩
          case measure => simp [intOf] <;> omega
    · obtain rfl : i = l.length := by omega
      go_wp2_with (go_at_call 95; refine (ref_trimmed_any hti.out.m hti.out.dig).mono ?_; rintro e w2 ⟨rfl, rfl⟩)
      go_ret
      have hE : val 10 r = x * y := by rw [hti.out.eq, HV.out.2]; congr 1; exact HV.out.1
      rw [← hE]
      have hle : g1 ≤ W.heap.size := by rw [HG1.out]; exact Nat.le_refl _
      exact ⟨⟨_, rfl, (hti.out.m.trim hti.out.dig).mono hle⟩, hti.out.b.mono hle⟩
end Go.Proofs.YtkpoegdcmnjedaaDoor
