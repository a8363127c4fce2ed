import Derived.Test.YtkpoegdcmnjedaaDoorRD5
import Derived.Laws.AppendOwnNone
namespace Go.Proofs.YtkpoegdcmnjedaaDoor
open Go.RowKit
set_option linter.unusedVariables false
set_option linter.unusedSimpArgs false

/-- a row put behind one digit of the call's own. -/
theorem wpList_front64 {ops : Array Oper} {rest : List Oper} {o : Oper} {a : Act} {Q : Exit → Act → World → Prop} (hgd : o.guard = none) (s x : Operand)
    (ho : o.op = .call { callee := .builtin .append, args := #[s, x], argTypes := #[49, 49] }) (β : Nat) (V : World) (z : Int) (d : Nat) (hz : z = d)
    (ao : Option Addr) (n cap : Nat) (l : List Nat) (B : Nat) (hs : a.eval s = .slice (some ⟨V.heap.size, 0, none⟩) 1 1) (hx : a.eval x = .slice ao n cap) (hm : N B V (.slice ao n cap) l) (hβ : β ≤ V.heap.size) (hn : l.length ≤ 1000000000)
    (h : ∀ v' w', Below V.heap.size V w' → N β w' v' (d :: l) → wpList Tryd.prog ops Q rest (a.put o.dst v') w') :
    wpList Tryd.prog ops Q (o :: rest) a (V.alloc (Obj.cells #[.int .i64 z] 3)) := by
  subst hz
  obtain ⟨i0, hi, hinf⟩ := Option.map_eq_some_iff.1 info3
  simp only [Prod.mk.injEq] at hinf
  obtain ⟨hz0, hz1, hz2⟩ := hinf
  have hone : (V.alloc (Obj.cells #[.int .i64 (d : Int)] 3)).ownsRow V.heap.size 3 1 (.slice (some ⟨V.heap.size, 0, none⟩) 1 1) 1 (I64s [d]) :=
    ⟨by simp [I64s], Or.inr ⟨V.heap.size, 1, _, rfl, Nat.le_refl _, heap_alloc_new V _, by simp, by simp [maxLen], by simp, by simp [I64s]⟩⟩
  have hl : n = l.length := hm.len
  rcases hm.2 with ⟨e, h0⟩ | ⟨g, cap', cur, e, h0, h1, h2, h3, h4, h5⟩
  · cases e
    have hnil : l = [] := List.length_eq_zero_iff.1 hl.symm
    subst hnil
    refine wpList_append_own_none hgd s x 49 ho V.heap.size 3 i0 1 Tryd.underlying49 hi _ 1 (I64s [d]) hs hone hx ?_
    exact h _ _ ((Below.refl _ _).alloc (Nat.le_refl _) _) (owns_mono hone hβ)
  · cases e
    have hx0 : (V.alloc (Obj.cells #[.int .i64 (d : Int)] 3)).heap[g]? = V.heap[g]? := heap_alloc_old V _ (lt_of_block h1)
    refine wpList_append_own _ hgd s x 49 ho V.heap.size 3 i0 (.int .i64 0) 1 8 Tryd.underlying49 hi hz0 hz1 hz2 rfl (by decide) _ 1 (I64s [d]) hs hone ⟨g, 0, none⟩ l.length cap (I64s l) hx (by simp [I64s]) ?c1 ?c2 (by unfold maxLen; omega) (by omega) (by simp) ?_
    case c1 =>
      intro j u hj
      have hadd : (⟨g, 0, none⟩ : Addr).add j = ⟨g, j, none⟩ := by unfold Addr.add; split <;> simp_all
      rw [hadd]
      have hlt : j < l.length := by
        have := (List.getElem?_eq_some_iff.1 hj).1
        simpa [I64s] using this
      have hc := hm.cell hlt
      rw [World.cell?_of_block (a := ⟨g, j, none⟩) hx0, hc]
      rw [I64s_get hlt] at hj
      exact hj
    case c2 =>
      intro u hu
      obtain ⟨x, _, rfl⟩ := List.mem_map.1 hu
      rfl
    intro v' w' hown hg _
    have hb : Below V.heap.size V w' := ((Below.refl V.heap.size V).alloc (Nat.le_refl _) _).grown hg (by simp) (fun k e => (hone.lt k e).1)
    refine h v' w' hb (owns_mono ?_ hβ)
    have e2 : (d :: l).length = 1 + l.length := by rw [List.length_cons, Nat.add_comm]
    have e3 : I64s (d :: l) = I64s [d] ++ I64s l := rfl
    rw [e2, e3]
    exact hown
end Go.Proofs.YtkpoegdcmnjedaaDoor
namespace Go.Proofs.YtkpoegdcmnjedaaDoor
open Go.RowKit
set_option linter.unusedVariables false
set_option linter.unusedSimpArgs false

/-- what is left to go in a digit of the quotient. -/
def mea (g k : Nat) (w : World) : Nat := match w.cell? ⟨g, k, none⟩ with | some v => 10 - (intOf v).toNat | none => 0
theorem mea_eq {B g n cap k : Nat} {w : World} {r : List Nat} (h : N B w (.slice (some ⟨g, 0, none⟩) n cap) r) (hk : k < r.length) : mea g k w = 10 - dg r k := by
  unfold mea
  rw [h.cell hk]
  simp [intOf]
structure DvI (x y : Nat) (l : List Nat) (g : Nat) (W wr : World) (lv : Value) (k : Nat) (r : List Nat) (R : Nat) : Prop where
  len : r.length = l.length
  dig : Dig 10 r
  eq : x = val 10 r * y + 10 ^ k * R + V 10 l k
  lt : R < y
  z : ∀ j, j < k → dg r j = 0
  q : N W.heap.size wr (.slice (some ⟨g, 0, none⟩) l.length l.length) r
  m : N (g + 1) wr lv (digs 10 R)
  b : Below W.heap.size W wr
structure DvJ (x y : Nat) (l : List Nat) (g : Nat) (W wr : World) (lv : Value) (k T : Nat) (r : List Nat) (R : Nat) : Prop where
  len : r.length = l.length
  dig : Dig 10 r
  eq : x = val 10 r * y + 10 ^ k * R + V 10 l k
  tq : dg r k * y + R = T
  z : ∀ j, j < k → dg r j = 0
  q : N W.heap.size wr (.slice (some ⟨g, 0, none⟩) l.length l.length) r
  m : N (g + 1) wr lv (digs 10 R)
  b : Below W.heap.size W wr
theorem dv_open {x y k R d : Nat} {l r : List Nat} (hd : dg l k = d) (h : x = val 10 r * y + 10 ^ (k + 1) * R + V 10 l (k + 1)) :
    x = val 10 r * y + 10 ^ k * (d + 10 * R) + V 10 l k := by
  rw [V_succ, hd, Nat.pow_succ, Nat.mul_assoc] at h
  rw [Nat.mul_add]
  omega
theorem dv_step {x y k R : Nat} {l r : List Nat} (hk : k < r.length) (hy : y ≤ R) (h : x = val 10 r * y + 10 ^ k * R + V 10 l k) :
    x = val 10 (r.set k (dg r k + 1)) * y + 10 ^ k * (R - y) + V 10 l k := by
  have h1 := val_set (b := 10) (d := dg r k + 1) hk
  have h2 : val 10 (r.set k (dg r k + 1)) = val 10 r + 10 ^ k := by rw [Nat.mul_add, Nat.mul_one] at h1; omega
  rw [h2, Nat.add_mul, Nat.mul_sub]
  have h3 : 10 ^ k * y ≤ 10 ^ k * R := Nat.mul_le_mul_left _ hy
  omega
theorem digCons {d : Nat} {l : List Nat} (hd : d < 10) (h : Dig 10 l) : Dig 10 (d :: l) := Dig.mem (by decide) (by
  intro u hu
  rcases List.mem_cons.1 hu with rfl | hu
  · exact hd
  · exact h.of u hu)
theorem nt_up {y R : Nat} (h : R < 10 * y) : nt R ≤ nt y + 1 := by
  unfold nt
  refine (digs_length_le (by decide)).2 ?_
  have h1 : y < 10 ^ (digs 10 y).length := (digs_length_le (by decide)).1 (Nat.le_refl _)
  rw [Nat.pow_succ]
  omega

set_option maxRecDepth 100000 in
set_option maxHeartbeats 2000000 in
theorem ref_divided_any {B B' : Nat} {va vb : Value} {x y : Nat} {W : World} (ha : N B W va (digs 10 x)) (hb : N B' W vb (digs 10 y)) (hla : nt x ≤ 900000) (hlb : nt y ≤ 900000) (hy : 0 < y) :
    Calls Tryd.prog 88 #[va, vb] W fun e W' => (∃ v1 v2, e = .returned (.tuple #[v1, v2]) ∧ N W.heap.size W' v1 (digs 10 (x / y)) ∧ N W.heap.size W' v2 (digs 10 (x % y))) ∧ Below W.heap.size W W' := by
  obtain ⟨aa, ca, rfl, _, _⟩ := ha.slice
  obtain ⟨ab, ny, cb, rfl⟩ := hb.slice3
  obtain ⟨l, HL⟩ : ∃ l, Hid (digs 10 x = l) := ⟨_, Lib.hid rfl⟩
  rw [HL.out] at ha ⊢
  have HB := Lib.hid hb
  have HA := Lib.hid ha
  have hll : l.length ≤ 900000 := by rw [← HL.out]; exact hla
  have HY := Lib.hid hy
  have HLB := Lib.hid hlb
  have DL : Hid (Dig 10 l) := Lib.hid (by rw [← HL.out]; exact digs_dig (by decide) _)
  have HV : Hid (V 10 l l.length = x) := Lib.hid (by show val 10 l = x; rw [← HL.out, val_digs (by decide)])
  clear ha hb hla hlb hy
  obtain ⟨W1, hmk, hm0, hb0, hs0⟩ := make64 W l.length l.length (Nat.le_refl _) (by omega)
  have hz0 : ∀ n, val 10 (List.replicate n 0) = 0 := fun n => by
    induction n with
    | zero => rfl
    | succ n ih => rw [List.replicate_succ, val_cons, ih, Nat.mul_zero]
  have HI0 : Hid (DvI x y l W.heap.size W W1 (.slice none 0 0) l.length (List.replicate l.length 0) 0) := Lib.hid ⟨by simp, Dig.mem (by decide) (by simp), by
      rw [hz0, HV.out]; simp, HY.out, fun j _ => dg_zeros _ _, hm0, by rw [digs_zero]; exact N.nil _ _, hb0⟩
  generalize hg1 : W.heap.size = g1 at HI0 hmk hs0 ⊢
  have HG1 := Lib.hid hg1
  clear hm0 hb0 hg1 hz0
  go_enter Tryd.func88, Tryd.ntmps88
  go_wp2
  go_loopw [7, 8] (fun lv iv wr => ∃ (k : Nat) (r : List Nat) (R : Nat), iv = .int .i64 ((k : Int) - 1) ∧ k ≤ l.length ∧ Hid (DvI x y l g1 W wr lv k r R)) (fun _ i _ => (intOf i + 1).toNat)
  case atStart => exact ⟨l.length, _, 0, rfl, Nat.le_refl _, HI0⟩
  case round =>
    obtain ⟨k1, r, R, rfl, hk, hti⟩ := hrel
    by_cases h0 : k1 = 0
    · subst h0
      go_wp2_with (go_at_call 95; refine (ref_trimmed_any hti.out.q hti.out.dig).mono ?_; rintro e w2 ⟨rfl, rfl⟩)
      go_ret2
      have hE := hti.out.eq
      have hR := hti.out.lt
      simp only [V, Nat.pow_zero, Nat.one_mul, Nat.add_zero] at hE
      have h1 : x / y = val 10 r := by
        rw [hE, Nat.mul_comm, Nat.mul_add_div HY.out, Nat.div_eq_of_lt hR, Nat.add_zero]
      have h2 : x % y = R := by
        rw [hE, Nat.mul_comm, Nat.mul_add_mod, Nat.mod_eq_of_lt hR]
      rw [h1, h2]
      have hle : g1 ≤ W.heap.size := by rw [HG1.out]; exact Nat.le_refl _
      exact ⟨⟨_, _, rfl, (hti.out.q.trim hti.out.dig).mono hle, hti.out.m.mono (Nat.le_succ _)⟩, hti.out.b.mono hle⟩
    · obtain ⟨k, rfl⟩ : ∃ k, k1 = k + 1 := ⟨k1 - 1, by omega⟩
      obtain ⟨ga, rfl, _, hga⟩ := HA.out.block (show 0 < l.length by omega)
      have hcell := (hti.out.b.cell (p := ⟨ga, k, none⟩) hga).trans (HA.out.cell (show k < l.length by omega))
      have hd9 := DL.out k
      obtain ⟨d, HD⟩ : ∃ d, Hid (dg l k = d) := ⟨_, Lib.hid rfl⟩
      rw [HD.out] at hcell hd9
      have e1 : ((k + 1 : Nat) : Int) - 1 = (k : Int) := by omega
      rw [e1]
      obtain ⟨al, nl, cl, rfl⟩ := hti.out.m.slice3
      have hgs : g1 < wr.heap.size := by
        obtain ⟨g', e, _, h⟩ := hti.out.q.block (show 0 < l.length by omega)
        cases e; exact h
      have hRl : nt R ≤ nt y := by
        have h1 := hti.out.lt
        exact (digs_length_le (by decide)).2 (Nat.lt_trans h1 ((digs_length_le (by decide)).1 (Nat.le_refl _)))
      have hRl2 : (digs 10 R).length ≤ 1000000000 := by have := HLB.out; unfold nt at hRl this; omega
      go_wp2_with (at_builtin; go_loud (refine wpList_front64 rfl _ _ rfl (g1 + 1) wr _ d rfl al nl cl (digs 10 R) (g1 + 1) rfl rfl hti.out.m hgs hRl2 ?_; intro v' w' hb' hm'; obtain ⟨ao2, n2, cap2, rfl⟩ := hm'.slice3; have HNN := Lib.hid hm'; have HBB := Lib.hid hb'; clear hm' hb'))
      have HDD : Hid (Dig 10 (d :: digs 10 R)) := Lib.hid (digCons hd9 (digs_dig (by decide) _))
      go_wp2_with (go_at_call 95; refine (ref_trimmed_any HNN.out HDD.out).mono ?_; rintro e w2 ⟨rfl, rfl⟩)
      have hvc : val 10 (d :: digs 10 R) = d + 10 * R := by rw [val_cons, val_digs (by decide)]
      have hT : d + 10 * R < 10 * y := by have := hti.out.lt; omega
      have hq0 : dg r k = 0 := hti.out.z k (by omega)
      have HJ0 : Hid (DvJ x y l g1 W w' (.slice ao2 (nt (val 10 (d :: digs 10 R))) cap2) k (d + 10 * R) r (d + 10 * R)) := Lib.hid ⟨hti.out.len, hti.out.dig, dv_open HD.out hti.out.eq, by rw [hq0]; omega, fun j hj => hti.out.z j (by omega), hti.out.q.later HBB.out (Nat.le_refl _), by rw [← hvc]; exact HNN.out.trim HDD.out, hti.out.b.trans (HBB.out.mono hti.out.b.size)⟩
      generalize nt (val 10 (d :: digs 10 R)) = n3 at HJ0 ⊢
      generalize hTT : d + 10 * R = T at HJ0 hT
      clear hq0 hRl hRl2 hcell hvc
      go_wp2
      go_loopw [7] (fun lv wr2 => ∃ (r : List Nat) (R : Nat), Hid (DvJ x y l g1 W wr2 lv k T r R)) (fun _ w => mea g1 k w)
      case atStart => exact ⟨r, T, HJ0⟩
      case round =>
        obtain ⟨r2, R2, hj⟩ := hrel
        have hkl : k < r2.length := by have := hj.out.len; omega
        have hR2 : R2 < 10 * y := by have := hj.out.tq; omega
        have hn2 := nt_up hR2
        have HO : Hid (Calls Tryd.prog 82 #[u7, .slice ab ny cb] wr fun e W' => e = .returned (.int .i64 (cmpI R2 y)) ∧ wr = W') := Lib.hid (by
          have := ref_order_any hj.out.m (HB.out.later hj.out.b (Nat.le_refl _)) (digs_dig (by decide) _) (digs_dig (by decide) _) (by have := HLB.out; unfold nt at hn2 this; omega) (by have := HLB.out; unfold nt at this; omega)
          rwa [val_digs (by decide), val_digs (by decide)] at this)
        have hbs := hj.out.b.size
        obtain ⟨c, HC⟩ : ∃ c, Hid (cmpI R2 y = c) := ⟨_, Lib.hid rfl⟩
        rw [HC.out] at HO
        by_cases hle : y ≤ R2
        · have hc : (0 : Int) ≤ c := by rw [← HC.out]; unfold cmpI; (repeat' split) <;> omega
          go_wp2_with fail
          refine HO.out.mono ?_
          rintro e w3 ⟨rfl, rfl⟩
          go_wp2_with fail
          refine (ref_minus_any hj.out.m (HB.out.later hj.out.b (Nat.le_refl _)) (by have := HLB.out; omega) (by have := HLB.out; omega) hle).mono ?_
          rintro e w4 ⟨⟨v4, rfl, hm4⟩, hb4⟩
          obtain ⟨a4, n4, c4, rfl⟩ := hm4.slice3
          have HQ4 := Lib.hid (hj.out.q.later hb4 (Nat.le_refl _))
          have HM4 := Lib.hid hm4
          have HB4 := Lib.hid hb4
          clear hm4 hb4
          have hcell4 := HQ4.out.cell hkl
          have hfree4 := HQ4.out.free k
          have hgw : g1 < wr.heap.size := by
            obtain ⟨g', e, _, h⟩ := hj.out.q.block (show 0 < l.length by omega)
            cases e; exact h
          obtain ⟨q, HQ⟩ : ∃ q, Hid (dg r2 k = q) := ⟨_, Lib.hid rfl⟩
          have hq9 : q + 1 < 10 := by
            have h1 := hj.out.tq
            rw [HQ.out] at h1
            have h2 : (q + 1) * y ≤ T := by rw [Nat.add_mul, Nat.one_mul]; omega
            have h3 : (q + 1) * y < 10 * y := by omega
            exact Nat.lt_of_mul_lt_mul_right h3
          rw [HQ.out] at hcell4
          have HKL := Lib.hid hkl
          have HGW := Lib.hid hgw
          have HR2 := Lib.hid hR2
          have HBS := Lib.hid hbs
          have HLE := Lib.hid hle
          clear hbs hkl hgw hn2 hR2 hle
          go_wp2
          have e5 : ((q : Int) + 1) = ((q + 1 : Nat) : Int) := by omega
          rw [e5]
          have HQ5 := Lib.hid (HQ4.out.set HKL.out (q + 1))
          go_roundw
          case rel =>
            refine ⟨r2.set k (q + 1), R2 - y, Lib.hid ⟨by rw [List.length_set]; exact hj.out.len, hj.out.dig.set hq9 _, ?_, ?_, fun j hjj => by rw [dg_set HKL.out, if_neg (by omega)]; exact hj.out.z j hjj, HQ5.out, (HM4.out.mono (by have := HGW.out; omega)).setOther (Nat.lt_succ_self _) _ _, ?_⟩⟩
            · rw [← HQ.out]; exact dv_step HKL.out HLE.out hj.out.eq
            · have h1 := hj.out.tq
              have h2 := HLE.out
              rw [HQ.out] at h1
              rw [dg_set HKL.out, if_pos rfl, Nat.add_mul, Nat.one_mul]
              omega
            · exact (hj.out.b.trans (HB4.out.mono HBS.out)).setCell (by have := HG1.out; simp; omega) _
          case measure =>
            rw [mea_eq hj.out.q HKL.out, mea_eq HQ5.out (by rw [List.length_set]; exact HKL.out), dg_set HKL.out, if_pos rfl, HQ.out]
            omega
        · have hc : decide ((0 : Int) ≤ c) = false := by rw [decide_eq_false_iff_not, ← HC.out]; unfold cmpI; (repeat' split) <;> omega
          go_wp2_with fail
          refine HO.out.mono ?_
          rintro e w3 ⟨rfl, rfl⟩
          go_wp2
          go_roundw
          case rel => exact ⟨k, r2, R2, by go_num, by omega, Lib.hid ⟨hj.out.len, hj.out.dig, hj.out.eq, by omega, hj.out.z, hj.out.q, hj.out.m, hj.out.b⟩⟩
          case measure => simp [intOf] <;> omega
end Go.Proofs.YtkpoegdcmnjedaaDoor
