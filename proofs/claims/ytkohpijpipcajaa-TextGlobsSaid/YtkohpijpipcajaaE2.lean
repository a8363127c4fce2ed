import Derived.Test.YtkohpijpipcajaaA1
import Derived.RangeFuncNested
import Derived.RangeFuncBound
import Derived.RangeFuncCalls
import Derived.RangeFuncLeaves
import Derived.RangeFuncFrom
import Derived.Shelf.Abstract
import Derived.Shelf.RegionOpen
import Derived.WalkKit
import Derived.OwnWalkIn
import Derived.TacticsInMore
import Derived.LoopNIn
import Derived.LoopIn
import Derived.RegionIn
import Derived.Sort.QuietIn
namespace Go.Proofs.Ytkohpijpipcajaa
open Go.RowKit Go.Shelf
set_option linter.unusedVariables false
set_option linter.unusedSimpArgs false
attribute [local go_sem] Oper.semAt_some

abbrev encB (x : Fin 256) : Array Value := #[.int .u8 ((x.val : Nat) : Int)]

set_option maxRecDepth 100000 in
set_option maxHeartbeats 1000000 in
theorem members_stops (n : Nat) (hn : 1 ≤ n) (Bs : Nat) (w : World) (hB : Bs < w.heap.size)
    (hcell : w.cell? ⟨Bs, 0, none⟩ = some (.string ⟨#[120, 45, 122]⟩)) :
    SeqStopsK Fence.wide n Try.prog 104 #[.pointer (some ⟨Bs, 0, none⟩)] encB (fun A B => B.heap[Bs]? = A.heap[Bs]?) (fun xs => xs = [120, 121, 122]) (fun _ => True) 3 w := fun l J Jx W hW hJ hJx hY h0 => by
  have g0 := (hW.cell (p := ⟨Bs, 0, none⟩) hB).trans hcell
  refine callsIn_of_wp Try.func104 rfl trivial ?_ rfl
  simp only [Try.ntmps104, List.size_toArray, List.length_cons, List.length_nil, Nat.reduceAdd, Nat.reduceSub, Array.replicate_succ, Array.replicate_zero, List.push_toArray, List.append_toArray, List.nil_append, List.cons_append]
  have HC := Lib.hid hcell
  clear hcell
  gi_wp2
  refine wpIn_loop_rounds 2 ?_
  rw [roundsIn_succ]
  gi_wp2
  have e0 : ((⟨#[120, 45, 122]⟩ : ByteArray)[0]).toNat = 120 := rfl
  have e1 : ((⟨#[120, 45, 122]⟩ : ByteArray)[1]).toNat = 45 := rfl
  have e2 : ((⟨#[120, 45, 122]⟩ : ByteArray)[2]).toNat = 122 := rfl
  gi_quiet (fail)
  all_goals gi_wp2
  refine wpIn_loop_rounds 4 ?_
  have hj : J [] (W.drewN nq) := hJ [] W _ none h0 ⟨rfl, rfl, rfl, Nat.le_refl _, fun _ _ _ => rfl⟩ (fun r e => by cases e)
  have gd : (W.drewN nq).cell? ⟨Bs, 0, none⟩ = some (Value.string { data := #[120, 45, 122] }) := g0
  rw [roundsIn_succ]
  obtain ⟨f0, t0, a0, b0, hy0, hR0⟩ := hY [] 120 (W.drewN nq) hj (by simp)
  rw [show encB 120 = #[.int .u8 120] from rfl] at hy0
  gi_wp2
  refine hR0.mono ?_
  rintro e W0 (⟨rfl, hJ0, hk0⟩ | ⟨rfl, hx0⟩)
  rotate_left
  · gi_wp2
    refine bodyPost_ret (results_none rfl _ _ _) rfl ?_
    exact ⟨⟨_, rfl⟩, .inr ⟨[] ++ [120], trivial, hx0⟩⟩
  clear hy0 hR0
  gi_wp2
  rw [roundsIn_succ]
  obtain ⟨f1, t1, a1, b1, hy1, hR1⟩ := hY ([] ++ [120]) 121 W0 hJ0 (by simp)
  rw [show encB 121 = #[.int .u8 121] from rfl] at hy1
  gi_wp2
  refine hR1.mono ?_
  rintro e W1 (⟨rfl, hJ1, hk1⟩ | ⟨rfl, hx1⟩)
  rotate_left
  · gi_wp2
    refine bodyPost_ret (results_none rfl _ _ _) rfl ?_
    exact ⟨⟨_, rfl⟩, .inr ⟨([] ++ [120]) ++ [121], trivial, hx1⟩⟩
  clear hy1 hR1
  gi_wp2
  rw [roundsIn_succ]
  obtain ⟨f2, t2, a2, b2, hy2, hR2⟩ := hY ([] ++ [120] ++ [121]) 122 W1 hJ1 (by simp)
  rw [show encB 122 = #[.int .u8 122] from rfl] at hy2
  gi_wp2
  refine hR2.mono ?_
  rintro e W2 (⟨rfl, hJ2, hk2⟩ | ⟨rfl, hx2⟩)
  rotate_left
  · gi_wp2
    refine bodyPost_ret (results_none rfl _ _ _) rfl ?_
    exact ⟨⟨_, rfl⟩, .inr ⟨([] ++ [120] ++ [121]) ++ [122], trivial, hx2⟩⟩
  clear hy2 hR2
  gi_wp2
  rw [roundsIn_succ]
  gi_wp2
  have g2 := (World.cell?_of_block (a := ⟨Bs, 0, none⟩) (hk2.trans (hk1.trans hk0))).trans gd
  clear hk0 hk1 hk2
  rw [roundsIn_succ]
  gi_wp2
  go_end0
  exact ⟨⟨_, rfl⟩, .inl ⟨_, rfl, hJ2⟩⟩
end Go.Proofs.Ytkohpijpipcajaa
