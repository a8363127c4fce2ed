import Derived.Test.YtkpoegdcmnjedaaDoorME2
import Derived.StillTailTactics
namespace Go.Proofs.YtkpoegdcmnjedaaDoor
open Go.RowKit Go.Shelf
set_option linter.unusedVariables false
set_option linter.unusedSimpArgs false
attribute [local go_sem] Oper.semAt_some

/-- how a round of ours ends: it goes on. -/
def OnlyOn {α : Type} (I : List α → World → Prop) (xs : List α) (W : World) : Exit → Act → World → Prop
  | .normal, _, W' => KeepsOthers W W' ∧ I xs W'
  | _, _, _ => False

/-- a range over a function whose rounds all go on; the iterator may lean on the caller's invariant itself. -/
theorem wp_range_on {α : Type} {n N : Nat} (h1 : 1 ≤ n) {g : Operand} {ps : Array Tmp} {assign body : Code} {Q : Exit → Act → World → Prop} {a : Act} {w : World} {gf : Nat} {lb : Array Value}
    (hg : a.eval g = .func (.func gf) #[] lb) (eg : ∀ args w, (callFunc gf args).run Tryd.prog w = .ok (.enter gf args) w) {encs : α → Array Value} {S : List α → Prop} (hps : ∀ x, (encs x).size = ps.size)
    (I : List α → World → Prop) (hI : OwnFrom w.heap.size I) (h0 : I [] w) (a₁ : α → Act)
    (hit : ∀ (l : Nat) (J Jx : List α → World → Prop) (W : World),
      (∀ pre x W1, J pre W1 → pre.length < N → YieldAt Fence.wide (n - 1 - 1) Tryd.prog l (encs x) W1 fun e W' => (e = .returned (.bool true) ∧ J (pre ++ [x]) W') ∨ (e = .returned (.bool false) ∧ Jx (pre ++ [x]) W')) →
      (∀ pre W1, J pre W1 → I pre W1) → J [] W →
      CallsIn Fence.wide (n - 1) Tryd.prog gf (#[.func (.yield l) #[] #[]] ++ lb) W fun e W' => (∃ v, e = .returned v) ∧ ((∃ xs, S xs ∧ J xs W') ∨ ∃ pre, Jx pre W'))
    (hassign : ∀ (l : Nat) (x : α) (W : World) (K : Act → World → Prop), K (a₁ x) W →
      assign.wpIn (Fence.wide.inRound l) (n - 1 - 1) Tryd.prog (Exit.then K (fun _ _ _ => False)) { tmps := (ps.zip (encs x)).foldl (fun t (p, v) => t.setIfInBounds p v) a.tmps, defers := [] } W)
    (hbody : ∀ (l : Nat) (pre : List α) (x : α) (W : World), I pre W → pre.length < N → body.wpIn (Fence.wide.inRound l) (n - 1 - 1) Tryd.prog (OnlyOn I (pre ++ [x]) W) (a₁ x) W)
    (hdone : ∀ (D : Nat) (xs : List α) (W : World), w.heap.size ≤ D → S xs → I xs W → W.heap[D]? = some (.deferred (some [])) → Q .normal { a with defers := { target := .collected D, args := #[] } :: a.defers } W) :
    (Code.rangeFunc g ps assign body).wpIn Fence.wide n Tryd.prog Q a w := by
  refine wpIn_rangeFunc fun fn hfn => ?_
  have hnone : (Fence.wide).round = none := rfl
  rw [hnone]
  let d := w.heap.size
  let mk (st : LoopState) (pe : Option Code) : Obj := .loop { state := st, pending := pe, fn := fn, tmps := a.tmps, params := ps, assign := assign, body := body, defers := d }
  obtain ⟨V, hV⟩ : ∃ V, (w.alloc (.deferred (some []))).alloc (mk .ready none) = V := ⟨_, rfl⟩
  have q1 : V.heap[d + 1]? = some (mk .ready none) := by
    rw [← hV]
    have := World.alloc_heap_new (w.alloc (.deferred (some []))) (mk .ready none)
    rwa [World.size_alloc] at this
  have q0 : V.heap[d]? = some (.deferred (some [])) := by
    rw [← hV]; exact (Below.heap_alloc _ _ _ (by simp [d])).trans (World.alloc_heap_new w _)
  have qI : I [] V := by rw [← hV]; exact hI.alloc _ (hI.alloc _ h0)
  refine ⟨d + 1, [{ target := .collected d, args := #[] }], V, { target := .fn (.func gf) lb, args := #[.func (.yield (d + 1)) #[] #[]] }, V, gf, #[.func (.yield (d + 1)) #[] #[]] ++ lb, V, ?_, ?_, ?_, ?_, fun _ => h1, ?_⟩
  · rw [← hV]; exact run_enterLoop_outer _ _ _ _ _
  · simp only [resolve, hg]
    simp [go_sem]
  · intro f' hf'; simp [Target.leads] at hf'; subst hf'; trivial
  · simp [invoke, go_sem, eg]
  refine (hit (d + 1) (fun pre U => I pre U ∧ U.heap[d + 1]? = some (mk .ready none) ∧ U.heap[d]? = some (.deferred (some []))) (fun _ _ => False) V ?_ (fun _ _ h => h.1) ⟨qI, q1, q0⟩).mono ?_
  · rintro pre x U ⟨uI, u1, u0⟩ hlen
    have hlt : d + 1 < U.heap.size := lt_of_block u1
    have hy := run_yield (P := Tryd.prog) (args := encs x) u1 (hps x)
    refine ⟨fn, _, assign, body, hy, roundIn_of_wpIn hfn (hassign _ x U _ ⟨_, run_beginRound u1 rfl, ?_⟩)⟩
    have b1 : (U.putObj (d + 1) (mk .busy none)).heap[d + 1]? = some (mk .busy none) := World.putObj_heap_same hlt
    have b0 : (U.putObj (d + 1) (mk .busy none)).heap[d]? = some (.deferred (some [])) := (World.putObj_heap_other (by omega)).trans u0
    refine wpIn_mono (hbody _ pre x _ (hI.putObj _ uI (by omega) u1 rfl) hlen) ?_
    rintro e a3 U3 hp
    cases e with
    | normal =>
      obtain ⟨k3, i3⟩ := hp
      have c1 := k3.same _ _ b1 rfl
      refine ⟨_, _, run_endRound (P := Tryd.prog) none c1, .inl ⟨rfl, hI.putObj _ i3 (by omega) c1 rfl, World.putObj_heap_same (lt_of_block c1), (World.putObj_heap_other (by omega)).trans (k3.same _ _ b0 rfl)⟩⟩
    | ret => exact hp.elim
    | exit id => exact hp.elim
    | goto t => exact hp.elim
    | panic ch => exact hp.elim
    | outgrown => exact hp.elim
  · rintro e U2 ⟨⟨v, rfl⟩, (⟨xs, hS, iu, u1, u0⟩ | ⟨_, hf⟩)⟩
    · exact ⟨none, _, run_endLoop (P := Tryd.prog) u1 (by simp), hdone _ xs _ (Nat.le_refl _) hS (hI.putObj _ iu (by omega) u1 rfl) ((World.putObj_heap_other (by omega)).trans u0)⟩
    · exact hf.elim
end Go.Proofs.YtkpoegdcmnjedaaDoor
namespace Go.Proofs.YtkpoegdcmnjedaaDoor
open Go.RowKit Go.Shelf
set_option linter.unusedVariables false
set_option linter.unusedSimpArgs false

/-- an operation that was walked plainly, in a round. -/
theorem opIn_of {lr n : Nat} {o : Oper} {a : Act} {w : World} {next next' : Act → World → Prop} {Q : Exit → Act → World → Prop} (hd : ∀ c, o.op ≠ .defer c) (hn : ∀ a w, next a w → next' a w)
    (hQ : ∀ a w, ¬ Q .outgrown a w) (h : o.wp Tryd.prog a w next Q) : o.wpIn (Fence.wide.inRound lr) n Tryd.prog a w next' Q := by
  refine ⟨fun _ _ => trivial, ?_⟩
  have hr : (Fence.wide.inRound lr).round = some lr := rfl
  rw [hr, Oper.semAt_some lr a.eval o hd]
  unfold Oper.wp at h
  generalize (execOp a.eval o).run Tryd.prog w = R at h ⊢
  cases R with
  | ok x w' =>
    cases x with
    | value v => exact hn _ _ h
    | skip => exact hn _ _ h
    | defer d => exact hn _ _ h
    | enter f args =>
      refine ⟨(fun h => by cases h), CallsIn.inRound lr (callsIn_wide.2 (Calls.mono h fun e w'' he => ?_))⟩
      cases e with
      | returned v => exact hn _ _ he
      | panicked ch => exact he
      | outgrown => exact he
    | row r args =>
      refine ⟨(fun h => by cases h), fun c cs _ => ?_⟩
      obtain ⟨v, w'', r1, s⟩ := h c cs
      exact ⟨v, w'', hn _ _ r1, stepsIn_wide.2 s⟩
    | round l f tmps assign body => exact h.elim
    | _ => exact h.elim
  | halt x w' =>
    cases x <;> exact h

theorem anyIn_of {lr n : Nat} {ops : Array Oper} {Q : Exit → Act → World → Prop} (hd : ∀ (i : Nat) (o : Oper), ops[i]? = some o → ∀ c, o.op ≠ .defer c) (hQ : ∀ a w, ¬ Q .outgrown a w) :
    ∀ (fuel : Nat) (listed : Array Bool) (a : Act) (w : World), wpAny Tryd.prog .any ops Q fuel listed a w → wpAnyIn (Fence.wide.inRound lr) n Tryd.prog .any ops Q fuel listed a w
  | 0, _, _, _, h => h
  | fuel + 1, listed, a, w, h => by
    refine ⟨h.1, fun i hi => ?_⟩
    have h2 := h.2 i hi
    unfold wpOp at h2
    unfold wpOpIn
    cases ho : ops[i]? with
    | none => rw [ho] at h2; exact anyIn_of hd hQ fuel _ _ _ h2
    | some o =>
      rw [ho] at h2
      dsimp only at h2 ⊢
      split
      · rename_i hw
        rw [if_pos hw] at h2
        rcases h2 with h2 | ⟨_, a', w', h2⟩
        · exact opIn_of (hd i o ho) (fun a w h3 => anyIn_of hd hQ fuel _ a w h3) hQ h2
        · exact (hQ _ _ h2).elim
      · rename_i hw
        rw [if_neg hw] at h2
        exact ⟨fun _ _ => trivial, anyIn_of hd hQ fuel _ _ _ h2⟩

/-- a region of reads and quiet calls with stores behind them, in a round. -/
theorem wpIn_region_tail {lr m id : Nat} {Q : Exit → Act → World → Prop} {a : Act} {w : World} {l : List Oper} (n : Nat) (hm : Tryd.prog.follows .mixedOrders = true) (hB : Region.lexTailB .any l.toArray n = true)
    (hdB : (l.all fun o => match o.op with | .defer _ => false | _ => true) = true) (hQ : ∀ a w, ¬ Q .outgrown a w)
    (h : wpStill Tryd.prog l.toArray { w with drawn := w.drawn + 1 } (fun a' => wpList Tryd.prog l.toArray Q (l.drop n) a' { w with drawn := w.drawn + 1 }) (l.take n) a) : (Code.region id l.toArray true).wpIn (Fence.wide.inRound lr) m Tryd.prog Q a w := by
  have hd : ∀ (i : Nat) (o : Oper), l.toArray[i]? = some o → ∀ c, o.op ≠ .defer c := by
    intro i o ho c hc
    have h1 : o ∈ l := List.mem_of_getElem? (by simpa using ho)
    have h2 := List.all_eq_true.1 hdB o h1
    rw [hc] at h2; cases h2
  refine wpIn_region_any hm (anyIn_of hd hQ _ _ _ _ ?_)
  simp only [Region.lexTailB, Bool.and_eq_true, decide_eq_true_eq] at hB
  obtain ⟨⟨⟨⟨b1, b2⟩, b3⟩, b4⟩, b5⟩ := hB
  have k1 : (l.take n).length = n := by simp at b2 ⊢; omega
  have k2 : (l.drop n).length = l.toArray.size - n := by simp
  have st : HeadInv .any l.toArray n (Array.replicate l.toArray.size false) :=
    ⟨by simp, fun j oj _ hl => (by rw [getD_replicate_false] at hl; cases hl), fun t _ ht => getD_in (by simpa using ht) (getD_replicate_false _ _)⟩
  have H := wpAnyL_lex (md := .any) (g := l.toArray.size - n) b1 b3 b4 b2 (l.take n) 0 _ a (fun j hj => by
    rw [k1] at hj
    simp [hj]) (by simpa using k1) st (by rw [k1]; exact b5) h
  have R := wpAny_of_head (Q' := Q) (g := l.toArray.size - n) (fun listed a' hL => by
    have := wpAny_of_seq (md := .any) (Q' := Q) (l.drop n) n listed a' { w with drawn := w.drawn + 1 } (fun j => by simp [List.getElem?_drop]) (by rw [k2]; exact hL.1) hL.2
    rwa [k2] at this) _ _ _ H
  rw [k1, show n + (l.toArray.size - n) = l.toArray.size by simp at b2 ⊢; omega] at R
  exact R
end Go.Proofs.YtkpoegdcmnjedaaDoor
