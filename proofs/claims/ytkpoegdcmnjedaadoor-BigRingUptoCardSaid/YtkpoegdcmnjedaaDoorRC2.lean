import Derived.Test.YtkpoegdcmnjedaaDoorRC1
import Derived.Deep.QuietTactic
import Derived.BigQuiet
namespace Go.Proofs.YtkpoegdcmnjedaaDoor
open Go.RowKit
set_option linter.unusedVariables false
set_option linter.unusedSimpArgs false

theorem turned {f : Nat} {args : Array Value} {W : World} {r : Value} (h : Calls Tryd.prog f args W fun e w' => e = .returned r ∧ W = w') : Calls Tryd.prog f args W fun e w' => e = .returned r ∧ w' = W :=
  h.mono fun _ _ ⟨h1, h2⟩ => ⟨h1, h2.symm⟩
theorem below_drewN (B : Nat) (W : World) (n : Nat) : Below B W (W.drewN n) := ⟨rfl, rfl, rfl, Nat.le_refl _, fun _ _ => rfl⟩

/-- a difference's digit and its borrow. -/
def mdg (x y c : Nat) : Nat := if x < y + c then x + 10 - y - c else x - y - c
def mbr (x y c : Nat) : Nat := if x < y + c then 1 else 0
structure MiI (l m : List Nat) (W wr : World) (v : Value) (i : Nat) (r : List Nat) (c : Nat) : Prop where
  len : r.length = i
  dig : Dig 10 r
  cl : c ≤ 1
  eq : val 10 r + V 10 m i = V 10 l i + 10 ^ i * c
  m : N W.heap.size wr v r
  b : Below W.heap.size W wr
theorem mi_eq {l m r : List Nat} {i x y c : Nat} (hr : r.length = i) (h1 : dg l i = x) (h2 : dg m i = y) (hx : x < 10) (hy : y < 10) (hc : c ≤ 1) (h : val 10 r + V 10 m i = V 10 l i + 10 ^ i * c) :
    val 10 (r ++ [mdg x y c]) + V 10 m (i + 1) = V 10 l (i + 1) + 10 ^ (i + 1) * mbr x y c := by
  have h3 : mdg x y c + y + c = x + 10 * mbr x y c := by unfold mdg mbr; split <;> omega
  rw [V_succ, V_succ, val_snoc, hr, h1, h2, Nat.pow_succ, Nat.mul_assoc]
  have h4 : 10 ^ i * (mdg x y c + y + c) = 10 ^ i * (x + 10 * mbr x y c) := by rw [h3]
  rw [Nat.mul_add, Nat.mul_add, Nat.mul_add] at h4
  omega
set_option maxRecDepth 100000 in
set_option maxHeartbeats 1000000 in
theorem ref_minus_any {B B' : Nat} {va vb : Value} {x y : Nat} {W : World} (ha : N B W va (digs 10 x)) (hb : N B' W vb (digs 10 y)) (hla : nt x ≤ 1000000) (hlb : nt y ≤ 1000000) (hle : y ≤ x) :
    Calls Tryd.prog 115 #[va, vb] W fun e W' => (∃ v', e = .returned v' ∧ N W.heap.size W' v' (digs 10 (x - y))) ∧ Below W.heap.size W W' := by
  obtain ⟨aa, ca, rfl, _, _⟩ := ha.slice
  obtain ⟨ab, cb, rfl, _, _⟩ := hb.slice
  have hlm0 : (digs 10 y).length ≤ (digs 10 x).length := (digs_length_le (by decide)).2 (Nat.lt_of_le_of_lt hle ((digs_length_le (by decide)).1 (Nat.le_refl _)))
  obtain ⟨l, HL⟩ : ∃ l, Hid (digs 10 x = l) := ⟨_, Lib.hid rfl⟩
  obtain ⟨m, HM⟩ : ∃ m, Hid (digs 10 y = m) := ⟨_, Lib.hid rfl⟩
  rw [HL.out] at ha hlm0 ⊢
  rw [HM.out] at hb hlm0 ⊢
  have HA := Lib.hid ha
  have HB := Lib.hid hb
  have HLM := Lib.hid hlm0
  have hll : l.length ≤ 1000000 := by rw [← HL.out]; exact hla
  have DL : Hid (Dig 10 l) := Lib.hid (by rw [← HL.out]; exact digs_dig (by decide) _)
  have DM : Hid (Dig 10 m) := Lib.hid (by rw [← HM.out]; exact digs_dig (by decide) _)
  have HV : Hid (val 10 l = x ∧ val 10 m = y) := Lib.hid ⟨by rw [← HL.out, val_digs (by decide)], by rw [← HM.out, val_digs (by decide)]⟩
  clear ha hb hla hlb hlm0
  have HI0 : Hid (MiI l m W W (.slice none 0 0) 0 [] 0) := Lib.hid ⟨rfl, Dig.nil (by decide), by omega, by simp [V, val_nil], N.nil _ _, Below.refl _ _⟩
  go_enter Tryd.func115, Tryd.ntmps115
  go_wp2
  go_loopw [5, 6, 11] (fun v cv iv wr => ∃ (i : Nat) (r : List Nat) (c : Nat), iv = .int .i64 i ∧ cv = .int .i64 c ∧ i ≤ l.length ∧ Hid (MiI l m W wr v i r c)) (fun _ _ i _ => l.length - (intOf i).toNat)
  case atStart => exact ⟨0, [], 0, rfl, rfl, Nat.zero_le _, HI0⟩
  case round =>
    obtain ⟨i, r, c, rfl, rfl, hi, hp⟩ := hrel
    have hcl := hp.out.cl
    have hBw := hp.out.b.size
    by_cases hlt : i < l.length
    · obtain ⟨g, rfl, _, hg⟩ := HA.out.block (show 0 < l.length by omega)
      have hcell := (hp.out.b.cell (p := ⟨g, i, none⟩) hg).trans (HA.out.cell hlt)
      have hB := Lib.hid (HB.out.later hp.out.b (Nat.le_refl _))
      have hl1 := DL.out i
      have hl2 := DM.out i
      obtain ⟨d1, HX⟩ : ∃ x, Hid (dg l i = x) := ⟨_, Lib.hid rfl⟩
      obtain ⟨d2, HY⟩ : ∃ y, Hid (dg m i = y) := ⟨_, Lib.hid rfl⟩
      have HD2 : Hid (∀ n, Calls Tryd.prog 105 #[.slice ab m.length cb, .int .i64 i] (wr.drewN n) fun e w' => e = .returned (.int .i64 (d2 : Int)) ∧ w' = wr.drewN n) := Lib.hid fun n => by
        have := ref_digit_any (hB.out.later (below_drewN _ _ n) (Nat.le_refl _)) i (by omega)
        rw [HY.out] at this
        exact turned this
      rw [HX.out] at hcell hl1
      rw [HY.out] at hl2
      have hs1 : IntKind.i64.wrap ((d1 : Int) - (d2 : Int)) = (d1 : Int) - (d2 : Int) := IntWalk.i64_in _ (by omega)
      have hs2 : IntKind.i64.wrap ((d1 : Int) - (d2 : Int) - (c : Int)) = (d1 : Int) - (d2 : Int) - (c : Int) := IntWalk.i64_in _ (by omega)
      have hi0 : (0 : Int) ≤ (i : Int) := by omega
      have hi1 : (i : Int) < (l.length : Int) := by omega
      go_wp2_with fail
      go_quiet ((go_at_call 105; exact Calls.quiet_of_same (HD2.out _)))
      clear hs1 hs2 hi0 hi1
      have HBN := Lib.hid (below_drewN wr.heap.size wr nq)
      have HLL : Hid (r.length ≤ 1000000000) := Lib.hid (by rw [hp.out.len]; omega)
      have HMR := Lib.hid (hp.out.m.later HBN.out (Nat.le_refl _))
      have HBW : Hid (W.heap.size ≤ (wr.drewN nq).heap.size) := Lib.hid (Nat.le_trans hBw HBN.out.size)
      by_cases hbr : d1 < d2 + c
      · have hn : (d1 : Int) - (d2 : Int) - (c : Int) < 0 := by omega
        have E1 : Hid ((d1 : Int) - (d2 : Int) - (c : Int) + 10 = ((mdg d1 d2 c : Nat) : Int)) := Lib.hid (by unfold mdg; rw [if_pos hbr]; omega)
        have E2 : Hid (1 = mbr d1 d2 c) := Lib.hid (by unfold mbr; rw [if_pos hbr])
        have E3 : Hid (mdg d1 d2 c < 10) := Lib.hid (by unfold mdg; rw [if_pos hbr]; omega)
        clear hbr
        go_wp2_with (at_builtin; go_loud (refine wpList_app64 rfl _ _ rfl W.heap.size (wr.drewN nq) _ (mdg d1 d2 c) E1.out u5 r rfl rfl HMR.out HBW.out HLL.out ?_; intro v' w' hb' hm' _; have HNN := Lib.hid hm'; have HBB := Lib.hid hb'; clear hm' hb'))
        go_roundw
        case rel => exact ⟨i + 1, r ++ [mdg d1 d2 c], mbr d1 d2 c, by go_num, by rw [← E2.out]; rfl, by omega, Lib.hid ⟨by rw [List.length_append, hp.out.len]; rfl, hp.out.dig.snoc E3.out, by rw [← E2.out]; omega, mi_eq hp.out.len HX.out HY.out hl1 hl2 hcl hp.out.eq, HNN.out, hp.out.b.trans ((HBN.out.mono hBw).trans HBB.out)⟩⟩
        case measure => simp [intOf] <;> omega
      · have hn : decide ((d1 : Int) - (d2 : Int) - (c : Int) < 0) = false := by rw [decide_eq_false_iff_not]; omega
        have E1 : Hid ((d1 : Int) - (d2 : Int) - (c : Int) = ((mdg d1 d2 c : Nat) : Int)) := Lib.hid (by unfold mdg; rw [if_neg hbr]; omega)
        have E2 : Hid (0 = mbr d1 d2 c) := Lib.hid (by unfold mbr; rw [if_neg hbr])
        have E3 : Hid (mdg d1 d2 c < 10) := Lib.hid (by unfold mdg; rw [if_neg hbr]; omega)
        have hn2 : 0 ≤ (d1 : Int) - (d2 : Int) - (c : Int) := by omega
        clear hbr
        go_wp2_with (at_builtin; go_loud (refine wpList_app64 rfl _ _ rfl W.heap.size (wr.drewN nq) _ (mdg d1 d2 c) E1.out u5 r rfl rfl HMR.out HBW.out HLL.out ?_; intro v' w' hb' hm' _; have HNN := Lib.hid hm'; have HBB := Lib.hid hb'; clear hm' hb'))
        go_roundw
        case rel => exact ⟨i + 1, r ++ [mdg d1 d2 c], mbr d1 d2 c, by go_num, by rw [← E2.out]; rfl, by omega, Lib.hid ⟨by rw [List.length_append, hp.out.len]; rfl, hp.out.dig.snoc E3.out, by rw [← E2.out]; omega, mi_eq hp.out.len HX.out HY.out hl1 hl2 hcl hp.out.eq, HNN.out, hp.out.b.trans ((HBN.out.mono hBw).trans HBB.out)⟩⟩
        case measure => simp [intOf] <;> omega
    · obtain rfl : i = l.length := by omega
      obtain ⟨ao, n, cap, rfl⟩ := hp.out.m.slice3
      go_wp2_with (go_at_call 95; refine (ref_trimmed_any hp.out.m hp.out.dig).mono ?_; rintro e w2 ⟨rfl, rfl⟩)
      go_ret
      have hc0 : c = 0 ∧ val 10 r = x - y := by
        have h1 := hp.out.eq
        have h2 : V 10 l l.length = x := HV.out.1
        have h3 : V 10 m l.length = y := by rw [V_stop _ HLM.out]; exact HV.out.2
        have h4 := val_lt hp.out.dig
        rw [hp.out.len] at h4
        rw [h2, h3] at h1
        by_cases hc : c = 0
        · subst hc; exact ⟨rfl, by omega⟩
        · obtain rfl : c = 1 := by omega
          omega
      rw [← hc0.2]
      exact ⟨⟨_, rfl, hp.out.m.trim hp.out.dig⟩, hp.out.b⟩
end Go.Proofs.YtkpoegdcmnjedaaDoor
