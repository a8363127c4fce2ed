import Derived.Test.YtkpoegdcmnjedaaDoorMB3
import Derived.RangeFuncNested
import Derived.RangeFuncBound
import Derived.RangeFuncCalls
import Derived.RangeFuncLeaves
import Derived.RangeFuncFrom
import Derived.Shelf.Abstract
import Derived.Shelf.RegionOpen
import Derived.OwnWalkIn
import Derived.TacticsInMore
import Derived.LoopNIn
import Derived.LoopIn
import Derived.RegionIn
import Derived.Sort.QuietIn
namespace Go.Proofs.YtkpoegdcmnjedaaDoor
open Go.RowKit Go.Shelf
set_option linter.unusedVariables false
set_option linter.unusedSimpArgs false
attribute [local go_sem] Oper.semAt_some

/-- a digit of 32 bits. -/
abbrev U : Type := {n : Nat // n < 4294967296}
abbrev encP (x : U × U) : Array Value := #[.int .u32 ((x.1.val : Nat) : Int), .int .u32 ((x.2.val : Nat) : Int)]
def uOf (l : List Nat) (h : Dig B32 l) (i : Nat) : U := ⟨dg l i, h.u32 i⟩
/-- the digits of two rows, side by side. -/
def pairsF (l m : List Nat) (hl : Dig B32 l) (hm : Dig B32 m) : List (U × U) := (List.range (max l.length m.length)).map fun i => (uOf l hl i, uOf m hm i)
theorem pairsF_length (l m : List Nat) (hl : Dig B32 l) (hm : Dig B32 m) : (pairsF l m hl hm).length = max l.length m.length := by simp [pairsF]
theorem pairsF_take {l m : List Nat} {hl : Dig B32 l} {hm : Dig B32 m} {k : Nat} (hk : k < max l.length m.length) : (pairsF l m hl hm).take (k + 1) = (pairsF l m hl hm).take k ++ [(uOf l hl k, uOf m hm k)] := by
  rw [List.take_add_one]
  simp [pairsF, hk]

/-- what the iterator reads in round k. -/
structure Reads (Ba Bb : Nat) (va vb : Value) (l m : List Nat) (k : Nat) (W : World) : Prop where
  ba : W.cell? ⟨Ba, 0, none⟩ = some va
  bb : W.cell? ⟨Bb, 0, none⟩ = some vb
  ca : k < l.length → ∃ g off cap, va = .slice (some ⟨g, off, none⟩) l.length cap ∧ W.cell? ⟨g, off + k, none⟩ = some (.int .u32 (dg l k : Int))
  cb : k < m.length → ∃ g off cap, vb = .slice (some ⟨g, off, none⟩) m.length cap ∧ W.cell? ⟨g, off + k, none⟩ = some (.int .u32 (dg m k : Int))

set_option maxRecDepth 100000 in
set_option maxHeartbeats 4000000 in
theorem pairs_core (n : Nat) (hn : 1 ≤ n) (Ba Bb : Nat) (aa ab : Option Addr) (ca cb : Nat) (l m : List Nat) (hl : Dig B32 l) (hm : Dig B32 m) (hla : l.length ≤ 1000000) (hlb : m.length ≤ 1000000)
    (lp : Nat) (J Jx : List (U × U) → World → Prop) (W : World)
    (hY : ∀ pre x W1, J pre W1 → pre.length < max l.length m.length → YieldAt Fence.wide (n - 1) Tryd.prog lp (encP x) W1 fun e W' => (e = .returned (.bool true) ∧ J (pre ++ [x]) W') ∨ (e = .returned (.bool false) ∧ Jx (pre ++ [x]) W'))
    (hR : ∀ pre W1, J pre W1 → pre.length ≤ max l.length m.length → Reads Ba Bb (.slice aa l.length ca) (.slice ab m.length cb) l m pre.length W1) (h0 : J [] W) :
    CallsIn Fence.wide n Tryd.prog 142 (#[.func (.yield lp) #[] #[]] ++ #[.pointer (some ⟨Ba, 0, none⟩), .pointer (some ⟨Bb, 0, none⟩)]) W fun e W' => (∃ v, e = .returned v) ∧ ((∃ xs, xs = pairsF l m hl hm ∧ J xs W') ∨ (∃ pre, Jx pre W')) := by
  have HY := Lib.hid hY
  have HR := Lib.hid hR
  have R0 := hR [] W h0 (Nat.zero_le _)
  have rba := R0.ba
  have rbb := R0.bb
  have HJ := Lib.hid h0
  clear hY hR R0 h0
  refine callsIn_of_wp Tryd.func142 rfl trivial ?_ rfl
  simp only [Tryd.ntmps142, List.size_toArray, List.length_cons, List.length_nil, Nat.reduceAdd, Nat.reduceSub, Array.replicate_succ, Array.replicate_zero, List.push_toArray, List.append_toArray, List.nil_append, List.cons_append]
  gi_wp2
  gi_loopw [12] (fun i wr => ∃ pre : List (U × U), i = .int .i64 (pre.length : Nat) ∧ pre.length ≤ max l.length m.length ∧ Hid (pre = (pairsF l m hl hm).take pre.length) ∧ Hid (J pre wr)) (fun i _ => max l.length m.length - (intOf i).toNat)
  case atStart => exact ⟨[], rfl, Nat.zero_le _, Lib.hid (by simp), HJ⟩
  case round =>
    obtain ⟨pre, rfl, hk, hpre, hj⟩ := hrel
    obtain ⟨rba, rbb, rca, rcb⟩ := HR.out pre wr hj.out hk
    by_cases hlt : pre.length < max l.length m.length
    · by_cases hka : pre.length < l.length
      · by_cases hkb : pre.length < m.length
        · obtain ⟨ga, oa, c1, e1, r1⟩ := rca hka
          obtain ⟨gb, ob, c2, e2, r2⟩ := rcb hkb
          cases e1
          cases e2
          obtain ⟨f0, t0, a0, b0, hy0, hR0⟩ := HY.out pre (uOf l hl pre.length, uOf m hm pre.length) wr hj.out hlt
          rw [show encP (uOf l hl pre.length, uOf m hm pre.length) = #[.int .u32 ((dg l pre.length : Nat) : Int), .int .u32 ((dg m pre.length : Nat) : Int)] from rfl] at hy0
          have HP := Lib.hid hR0
          clear rca rcb hR0
          gi_wp2
          refine HP.out.mono ?_
          rintro e W0 (⟨rfl, hJ0⟩ | ⟨rfl, hx0⟩)
          rotate_left
          · gi_wp2
            refine bodyPost_ret (results_none rfl _ _ _) rfl ?_
            exact ⟨⟨_, rfl⟩, .inr ⟨_, hx0⟩⟩
          have HJ0 := Lib.hid hJ0
          obtain ⟨rba2, rbb2, _, _⟩ := HR.out _ W0 hJ0 (by simp; omega)
          clear hy0 hJ0
          gi_wp2
          go_roundw
          case rel => exact ⟨pre ++ [(uOf l hl pre.length, uOf m hm pre.length)], by simp, by simp; omega, Lib.hid (by rw [List.length_append]; exact (congrArg (· ++ _) hpre.out).trans (pairsF_take hlt).symm), HJ0.out⟩
          case measure => simp [intOf]; omega
        · obtain ⟨ga, oa, c1, e1, r1⟩ := rca hka
          cases e1
          obtain ⟨f0, t0, a0, b0, hy0, hR0⟩ := HY.out pre (uOf l hl pre.length, uOf m hm pre.length) wr hj.out hlt
          rw [show encP (uOf l hl pre.length, uOf m hm pre.length) = #[.int .u32 ((dg l pre.length : Nat) : Int), .int .u32 0] from by simp [encP, uOf, dg_ge (show m.length ≤ pre.length by omega)]] at hy0
          have HP := Lib.hid hR0
          clear rca rcb hR0
          gi_wp2
          refine HP.out.mono ?_
          rintro e W0 (⟨rfl, hJ0⟩ | ⟨rfl, hx0⟩)
          rotate_left
          · gi_wp2
            refine bodyPost_ret (results_none rfl _ _ _) rfl ?_
            exact ⟨⟨_, rfl⟩, .inr ⟨_, hx0⟩⟩
          have HJ0 := Lib.hid hJ0
          obtain ⟨rba2, rbb2, _, _⟩ := HR.out _ W0 hJ0 (by simp; omega)
          clear hy0 hJ0
          gi_wp2
          go_roundw
          case rel => exact ⟨pre ++ [(uOf l hl pre.length, uOf m hm pre.length)], by simp, by simp; omega, Lib.hid (by rw [List.length_append]; exact (congrArg (· ++ _) hpre.out).trans (pairsF_take hlt).symm), HJ0.out⟩
          case measure => simp [intOf]; omega
      · obtain ⟨gb, ob, c2, e2, r2⟩ := rcb (by omega)
        cases e2
        obtain ⟨f0, t0, a0, b0, hy0, hR0⟩ := HY.out pre (uOf l hl pre.length, uOf m hm pre.length) wr hj.out hlt
        rw [show encP (uOf l hl pre.length, uOf m hm pre.length) = #[.int .u32 0, .int .u32 ((dg m pre.length : Nat) : Int)] from by simp [encP, uOf, dg_ge (show l.length ≤ pre.length by omega)]] at hy0
        have HP := Lib.hid hR0
        clear rca rcb hR0
        gi_wp2
        refine HP.out.mono ?_
        rintro e W0 (⟨rfl, hJ0⟩ | ⟨rfl, hx0⟩)
        rotate_left
        · gi_wp2
          refine bodyPost_ret (results_none rfl _ _ _) rfl ?_
          exact ⟨⟨_, rfl⟩, .inr ⟨_, hx0⟩⟩
        have HJ0 := Lib.hid hJ0
        obtain ⟨rba2, rbb2, _, _⟩ := HR.out _ W0 hJ0 (by simp; omega)
        clear hy0 hJ0
        gi_wp2
        go_roundw
        case rel => exact ⟨pre ++ [(uOf l hl pre.length, uOf m hm pre.length)], by simp, by simp; omega, Lib.hid (by rw [List.length_append]; exact (congrArg (· ++ _) hpre.out).trans (pairsF_take hlt).symm), HJ0.out⟩
        case measure => simp [intOf]; omega
    · have HE : Hid (pre = pairsF l m hl hm) := Lib.hid (by rw [hpre.out]; exact List.take_of_length_le (by rw [pairsF_length]; omega))
      gi_wp2
      go_end0
      exact ⟨⟨_, rfl⟩, .inl ⟨_, HE.out, hj.out⟩⟩
end Go.Proofs.YtkpoegdcmnjedaaDoor
namespace Go.Proofs.YtkpoegdcmnjedaaDoor
open Go.RowKit Go.Shelf
set_option linter.unusedVariables false
set_option linter.unusedSimpArgs false
attribute [local go_sem] Oper.semAt_some

/-- digits that lie in memory. -/
def Rd (W : World) (g off : Nat) (ao : Option Addr) (l : List Nat) : Prop :=
  (l ≠ [] → ao = some ⟨g, off, none⟩ ∧ g < W.heap.size) ∧ ∀ i, i < l.length → W.cell? ⟨g, off + i, none⟩ = some (.int .u32 (dg l i : Int))
theorem M.rd {B : Nat} {W : World} {ao : Option Addr} {n cap : Nat} {l : List Nat} (h : M B W (.slice ao n cap) l) : ∃ g, Rd W g 0 ao l := by
  by_cases e : l = []
  · subst e; exact ⟨0, fun h => absurd rfl h, fun i hi => by simp at hi⟩
  · have hp : 0 < l.length := List.length_pos_iff.2 e
    obtain ⟨g, rfl, _, h2⟩ := h.block (by rw [h.len]; exact hp)
    exact ⟨g, fun _ => ⟨rfl, h2⟩, fun i hi => by rw [Nat.zero_add]; exact h.cell hi⟩
def KpB (bs : List Nat) (A B : World) : Prop := ∀ b ∈ bs, B.heap[b]? = A.heap[b]?
theorem KpB.trans {bs : List Nat} {A B C : World} (h : KpB bs A B) (k : KpB bs B C) : KpB bs A C := fun b hb => (k b hb).trans (h b hb)
theorem Rd.keep {W V : World} {g off : Nat} {ao : Option Addr} {l : List Nat} (h : Rd W g off ao l) (hk : l ≠ [] → V.heap[g]? = W.heap[g]?) {k : Nat} (hlt : k < l.length) :
    ∃ g' off' , ao = some ⟨g', off', none⟩ ∧ V.cell? ⟨g', off' + k, none⟩ = some (.int .u32 (dg l k : Int)) := by
  have hne : l ≠ [] := by intro e; subst e; simp at hlt
  obtain ⟨e, _⟩ := h.1 hne
  exact ⟨g, off, e, (World.cell?_of_block (a := ⟨g, off + k, none⟩) (hk hne)).trans (h.2 k hlt)⟩

theorem pairs_stops (n : Nat) (hn : 1 ≤ n) (Ba Bb ga oa gb ob : Nat) (aa ab : Option Addr) (ca cb : Nat) (l m : List Nat) (hl : Dig B32 l) (hm : Dig B32 m) (hla : l.length ≤ 1000000) (hlb : m.length ≤ 1000000) (w : World)
    (hBa : Ba < w.heap.size) (hBb : Bb < w.heap.size) (ba : w.cell? ⟨Ba, 0, none⟩ = some (.slice aa l.length ca)) (bb : w.cell? ⟨Bb, 0, none⟩ = some (.slice ab m.length cb)) (ra : Rd w ga oa aa l) (rb : Rd w gb ob ab m)
    (bs : List Nat) (hbs : Ba ∈ bs ∧ Bb ∈ bs ∧ (l ≠ [] → ga ∈ bs) ∧ (m ≠ [] → gb ∈ bs)) :
    SeqStopsK Fence.wide n Tryd.prog 142 #[.pointer (some ⟨Ba, 0, none⟩), .pointer (some ⟨Bb, 0, none⟩)] encP (KpB bs) (fun xs => xs = pairsF l m hl hm) (fun _ => True) (max l.length m.length) w := fun lp J Jx W hW hJ hJx hY h0 => by
  refine (pairs_core n hn Ba Bb aa ab ca cb l m hl hm hla hlb lp (fun pre V => J pre V ∧ KpB bs W V) Jx W ?_ ?_ ⟨h0, fun _ _ => rfl⟩).mono ?_
  · rintro pre x W1 ⟨hj, hk⟩ hlt
    refine (hY pre x W1 hj hlt).mono ?_
    rintro e W2 (⟨rfl, h1, h2⟩ | ⟨rfl, h1⟩)
    · exact Or.inl ⟨rfl, h1, hk.trans h2⟩
    · exact Or.inr ⟨rfl, h1⟩
  · rintro pre W1 ⟨hj, hk⟩ hle
    have hb : ∀ b ∈ bs, b < w.heap.size → W1.heap[b]? = w.heap[b]? := fun b hb hlt => (hk b hb).trans (hW.block b hlt)
    refine ⟨?_, ?_, ?_, ?_⟩
    · exact (World.cell?_of_block (a := ⟨Ba, 0, none⟩) (hb Ba hbs.1 hBa)).trans ba
    · exact (World.cell?_of_block (a := ⟨Bb, 0, none⟩) (hb Bb hbs.2.1 hBb)).trans bb
    · intro hlt
      obtain ⟨g, off, rfl, h⟩ := ra.keep (V := W1) (fun hne => hb ga (hbs.2.2.1 hne) (ra.1 hne).2) hlt
      exact ⟨g, off, ca, rfl, h⟩
    · intro hlt
      obtain ⟨g, off, rfl, h⟩ := rb.keep (V := W1) (fun hne => hb gb (hbs.2.2.2 hne) (rb.1 hne).2) hlt
      exact ⟨g, off, cb, rfl, h⟩
  · rintro e W2 ⟨h1, (⟨xs, rfl, h2, _⟩ | ⟨pre, h2⟩)⟩
    · exact ⟨h1, Or.inl ⟨_, rfl, h2⟩⟩
    · exact ⟨h1, Or.inr ⟨pre, trivial, h2⟩⟩

theorem pairs_any (aa ab : Option Addr) (na nb ca cb : Nat) (w : World) : Calls Tryd.prog 134 #[.slice aa na ca, .slice ab nb cb] w fun e w' => e = .returned (.func (.func 142) #[] #[.pointer (some ⟨w.heap.size, 0, none⟩), .pointer (some ⟨w.heap.size + 1, 0, none⟩)]) ∧ w' = (w.alloc (.cells #[.slice aa na ca] 44)).alloc (.cells #[.slice ab nb cb] 44) := by
  go_enter Tryd.func134, Tryd.ntmps134
  go_wp2
  go_ret
  exact ⟨rfl, rfl⟩
end Go.Proofs.YtkpoegdcmnjedaaDoor
