import Derived.Test.YtkpoegdcmnjedaaDoorMB3
import Derived.RangeFuncNested
import Derived.RangeFuncBound
import Derived.RangeFuncCalls
import Derived.RangeFuncLeaves
import Derived.RangeFuncFrom
import Derived.Shelf.Abstract
import Derived.Shelf.RegionOpen
import Derived.OwnWalkIn
import Derived.TacticsInMore
import Derived.LoopNIn
import Derived.LoopIn
import Derived.RegionIn
import Derived.Sort.QuietIn
namespace Go.Proofs.YtkpoegdcmnjedaaDoor
open Go.RowKit Go.Shelf
set_option linter.unusedVariables false
set_option linter.unusedSimpArgs false
attribute [local go_sem] Oper.semAt_some

/-- a digit of 32 bits. -/
abbrev U : Type := {n : Nat // n < 4294967296}
abbrev encP (x : U × U) : Array Value := #[.int .u32 ((x.1.val : Nat) : Int), .int .u32 ((x.2.val : Nat) : Int)]
def uOf (l : List Nat) (h : Dig B32 l) (i : Nat) : U := ⟨dg l i, h.u32 i⟩
/-- the digits of two rows, side by side. -/
def pairsF (l m : List Nat) (hl : Dig B32 l) (hm : Dig B32 m) : List (U × U) := (List.range (max l.length m.length)).map fun i => (uOf l hl i, uOf m hm i)
theorem pairsF_length (l m : List Nat) (hl : Dig B32 l) (hm : Dig B32 m) : (pairsF l m hl hm).length = max l.length m.length := by simp [pairsF]
theorem pairsF_take {l m : List Nat} {hl : Dig B32 l} {hm : Dig B32 m} {k : Nat} (hk : k < max l.length m.length) : (pairsF l m hl hm).take (k + 1) = (pairsF l m hl hm).take k ++ [(uOf l hl k, uOf m hm k)] := by
  rw [List.take_add_one]
  simp [pairsF, hk]

/-- what the iterator reads in round k. -/
structure Reads (Ba Bb : Nat) (va vb : Value) (l m : List Nat) (k : Nat) (W : World) : Prop where
  ba : W.cell? ⟨Ba, 0, none⟩ = some va
  bb : W.cell? ⟨Bb, 0, none⟩ = some vb
  ca : k < l.length → ∃ g off cap, va = .slice (some ⟨g, off, none⟩) l.length cap ∧ W.cell? ⟨g, off + k, none⟩ = some (.int .u32 (dg l k : Int))
  cb : k < m.length → ∃ g off cap, vb = .slice (some ⟨g, off, none⟩) m.length cap ∧ W.cell? ⟨g, off + k, none⟩ = some (.int .u32 (dg m k : Int))

set_option maxRecDepth 100000 in
set_option maxHeartbeats 4000000 in
theorem pairs_core (n : Nat) (hn : 1 ≤ n) (Ba Bb : Nat) (aa ab : Option Addr) (ca cb : Nat) (l m : List Nat) (hl : Dig B32 l) (hm : Dig B32 m) (hla : l.length ≤ 1000000) (hlb : m.length ≤ 1000000)
    (lp : Nat) (J Jx : List (U × U) → World → Prop) (W : World)
    (hY : ∀ pre x W1, J pre W1 → pre.length < max l.length m.length → YieldAt Fence.wide (n - 1) Tryd.prog lp (encP x) W1 fun e W' => (e = .returned (.bool true) ∧ J (pre ++ [x]) W') ∨ (e = .returned (.bool false) ∧ Jx (pre ++ [x]) W'))
    (hR : ∀ pre W1, J pre W1 → pre.length ≤ max l.length m.length → Reads Ba Bb (.slice aa l.length ca) (.slice ab m.length cb) l m pre.length W1) (h0 : J [] W) :
    CallsIn Fence.wide n Tryd.prog 142 (#[.func (.yield lp) #[] #[]] ++ #[.pointer (some ⟨Ba, 0, none⟩), .pointer (some ⟨Bb, 0, none⟩)]) W fun e W' => (∃ v, e = .returned v) ∧ ((∃ xs, xs = pairsF l m hl hm ∧ J xs W') ∨ (∃ pre, Jx pre W')) := by
  have HY := Lib.hid hY
  have HR := Lib.hid hR
  have R0 := hR [] W h0 (Nat.zero_le _)
  have rba := R0.ba
  have rbb := R0.bb
  have HJ := Lib.hid h0
  clear hY hR R0 h0
  refine callsIn_of_wp Tryd.func142 rfl trivial ?_ rfl
  simp only [Tryd.ntmps142, List.size_toArray, List.length_cons, List.length_nil, Nat.reduceAdd, Nat.reduceSub, Array.replicate_succ, Array.replicate_zero, List.push_toArray, List.append_toArray, List.nil_append, List.cons_append]
  gi_wp2
  gi_loopw [12] (fun i wr => ∃ pre : List (U × U), i = .int .i64 (pre.length : Nat) ∧ pre.length ≤ max l.length m.length ∧ Hid (pre = (pairsF l m hl hm).take pre.length) ∧ Hid (J pre wr)) (fun i _ => max l.length m.length - (intOf i).toNat)
  case atStart => exact ⟨[], rfl, Nat.zero_le _, Lib.hid (by simp), HJ⟩
  case round =>
    obtain ⟨pre, rfl, hk, hpre, hj⟩ := hrel
    obtain ⟨rba, rbb, rca, rcb⟩ := HR.out pre wr hj.out hk
    by_cases hlt : pre.length < max l.length m.length
    · by_cases hka : pre.length < l.length
      · by_cases hkb : pre.length < m.length
        · obtain ⟨ga, oa, c1, e1, r1⟩ := rca hka
          obtain ⟨gb, ob, c2, e2, r2⟩ := rcb hkb
          cases e1
          cases e2
          obtain ⟨f0, t0, a0, b0, hy0, hR0⟩ := HY.out pre (uOf l hl pre.length, uOf m hm pre.length) wr hj.out hlt
          rw [show encP (uOf l hl pre.length, uOf m hm pre.length) = #[.int .u32 ((dg l pre.length : Nat) : Int), .int .u32 ((dg m pre.length : Nat) : Int)] from rfl] at hy0
          have HP := Lib.hid hR0
          clear rca rcb hR0
          gi_wp2
          refine HP.out.mono ?_
          rintro e W0 (⟨rfl, hJ0⟩ | ⟨rfl, hx0⟩)
          rotate_left
          · gi_wp2
            refine bodyPost_ret (results_none rfl _ _ _) rfl ?_
            exact ⟨⟨_, rfl⟩, .inr ⟨_, hx0⟩⟩
          have HJ0 := Lib.hid hJ0
          obtain ⟨rba2, rbb2, _, _⟩ := HR.out _ W0 hJ0 (by simp; omega)
          clear hy0 hJ0
          gi_wp2
          go_roundw
          case rel => exact ⟨pre ++ [(uOf l hl pre.length, uOf m hm pre.length)], by simp, by simp; omega, Lib.hid (by rw [List.length_append]; exact (congrArg (· ++ _) hpre.out).trans (pairsF_take hlt).symm), HJ0.out⟩
          case measure => simp [intOf]; omega
        · obtain ⟨ga, oa, c1, e1, r1⟩ := rca hka
          cases e1
          obtain ⟨f0, t0, a0, b0, hy0, hR0⟩ := HY.out pre (uOf l hl pre.length, uOf m hm pre.length) wr hj.out hlt
          rw [show encP (uOf l hl pre.length, uOf m hm pre.length) = #[.int .u32 ((dg l pre.length : Nat) : Int), .int .u32 0] from by simp [encP, uOf, dg_ge (show m.length ≤ pre.length by omega)]] at hy0
          have HP := Lib.hid hR0
          clear rca rcb hR0
          gi_wp2
          refine HP.out.mono ?_
          rintro e W0 (⟨rfl, hJ0⟩ | ⟨rfl, hx0⟩)
          rotate_left
          · gi_wp2
            refine bodyPost_ret (results_none rfl _ _ _) rfl ?_
            exact ⟨⟨_, rfl⟩, .inr ⟨_, hx0⟩⟩
          have HJ0 := Lib.hid hJ0
          obtain ⟨rba2, rbb2, _, _⟩ := HR.out _ W0 hJ0 (by simp; omega)
          clear hy0 hJ0
          gi_wp2
          go_roundw
          case rel => exact ⟨pre ++ [(uOf l hl pre.length, uOf m hm pre.length)], by simp, by simp; omega, Lib.hid (by rw [List.length_append]; exact (congrArg (· ++ _) hpre.out).trans (pairsF_take hlt).symm), HJ0.out⟩
          case measure => simp [intOf]; omega
      · obtain ⟨gb, ob, c2, e2, r2⟩ := rcb (by omega)
        cases e2
        obtain ⟨f0, t0, a0, b0, hy0, hR0⟩ := HY.out pre (uOf l hl pre.length, uOf m hm pre.length) wr hj.out hlt
        rw [show encP (uOf l hl pre.length, uOf m hm pre.length) = #[.int .u32 0, .int .u32 ((dg m pre.length : Nat) : Int)] from by simp [encP, uOf, dg_ge (show l.length ≤ pre.length by omega)]] at hy0
        have HP := Lib.hid hR0
        clear rca rcb hR0
        gi_wp2
        refine HP.out.mono ?_
        rintro e W0 (⟨rfl, hJ0⟩ | ⟨rfl, hx0⟩)
        rotate_left
        · gi_wp2
          refine bodyPost_ret (results_none rfl _ _ _) rfl ?_
          exact ⟨⟨_, rfl⟩, .inr ⟨_, hx0⟩⟩
        have HJ0 := Lib.hid hJ0
        obtain ⟨rba2, rbb2, _, _⟩ := HR.out _ W0 hJ0 (by simp; omega)
        clear hy0 hJ0
        gi_wp2
        go_roundw
        case rel => exact ⟨pre ++ [(uOf l hl pre.length, uOf m hm pre.length)], by simp, by simp; omega, Lib.hid (by rw [List.length_append]; exact (congrArg (· ++ _) hpre.out).trans (pairsF_take hlt).symm), HJ0.out⟩
        case measure => simp [intOf]; omega
    · have HE : Hid (pre = pairsF l m hl hm) := Lib.hid (by rw [hpre.out]; exact List.take_of_length_le (by rw [pairsF_length]; omega))
      gi_wp2
      go_end0
      exact ⟨⟨_, rfl⟩, .inl ⟨_, HE.out, hj.out⟩⟩
end Go.Proofs.YtkpoegdcmnjedaaDoor
