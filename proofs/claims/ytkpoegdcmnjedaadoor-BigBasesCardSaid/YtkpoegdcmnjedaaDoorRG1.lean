import Derived.Test.YtkpoegdcmnjedaaDoorRD5
import Derived.Laws.AppendOwnNone
namespace Go.Proofs.YtkpoegdcmnjedaaDoor
open Go.RowKit
set_option linter.unusedVariables false
set_option linter.unusedSimpArgs false

/-- a row put behind one digit of the call's own. -/
theorem wpList_front64 {ops : Array Oper} {rest : List Oper} {o : Oper} {a : Act} {Q : Exit → Act → World → Prop} (hgd : o.guard = none) (s x : Operand)
    (ho : o.op = .call { callee := .builtin .append, args := #[s, x], argTypes := #[49, 49] }) (β : Nat) (V : World) (z : Int) (d : Nat) (hz : z = d)
    (ao : Option Addr) (n cap : Nat) (l : List Nat) (B : Nat) (hs : a.eval s = .slice (some ⟨V.heap.size, 0, none⟩) 1 1) (hx : a.eval x = .slice ao n cap) (hm : N B V (.slice ao n cap) l) (hβ : β ≤ V.heap.size) (hn : l.length ≤ 1000000000)
    (h : ∀ v' w', Below V.heap.size V w' → N β w' v' (d :: l) → wpList Tryd.prog ops Q rest (a.put o.dst v') w') :
    wpList Tryd.prog ops Q (o :: rest) a (V.alloc (Obj.cells #[.int .i64 z] 3)) := by
  subst hz
  obtain ⟨i0, hi, hinf⟩ := Option.map_eq_some_iff.1 info3
  simp only [Prod.mk.injEq] at hinf
  obtain ⟨hz0, hz1, hz2⟩ := hinf
  have hone : (V.alloc (Obj.cells #[.int .i64 (d : Int)] 3)).ownsRow V.heap.size 3 1 (.slice (some ⟨V.heap.size, 0, none⟩) 1 1) 1 (I64s [d]) :=
    ⟨by simp [I64s], Or.inr ⟨V.heap.size, 1, _, rfl, Nat.le_refl _, heap_alloc_new V _, by simp, by simp [maxLen], by simp, by simp [I64s]⟩⟩
  have hl : n = l.length := hm.len
  rcases hm.2 with ⟨e, h0⟩ | ⟨g, cap', cur, e, h0, h1, h2, h3, h4, h5⟩
  · cases e
    have hnil : l = [] := List.length_eq_zero_iff.1 hl.symm
    subst hnil
    refine wpList_append_own_none hgd s x 49 ho V.heap.size 3 i0 1 Tryd.underlying49 hi _ 1 (I64s [d]) hs hone hx ?_
    exact h _ _ ((Below.refl _ _).alloc (Nat.le_refl _) _) (owns_mono hone hβ)
  · cases e
    have hx0 : (V.alloc (Obj.cells #[.int .i64 (d : Int)] 3)).heap[g]? = V.heap[g]? := heap_alloc_old V _ (lt_of_block h1)
    refine wpList_append_own _ hgd s x 49 ho V.heap.size 3 i0 (.int .i64 0) 1 8 Tryd.underlying49 hi hz0 hz1 hz2 rfl (by decide) _ 1 (I64s [d]) hs hone ⟨g, 0, none⟩ l.length cap (I64s l) hx (by simp [I64s]) ?c1 ?c2 (by unfold maxLen; omega) (by omega) (by simp) ?_
    case c1 =>
      intro j u hj
      have hadd : (⟨g, 0, none⟩ : Addr).add j = ⟨g, j, none⟩ := by unfold Addr.add; split <;> simp_all
      rw [hadd]
      have hlt : j < l.length := by
        have := (List.getElem?_eq_some_iff.1 hj).1
        simpa [I64s] using this
      have hc := hm.cell hlt
      rw [World.cell?_of_block (a := ⟨g, j, none⟩) hx0, hc]
      rw [I64s_get hlt] at hj
      exact hj
    case c2 =>
      intro u hu
      obtain ⟨x, _, rfl⟩ := List.mem_map.1 hu
      rfl
    intro v' w' hown hg _
    have hb : Below V.heap.size V w' := ((Below.refl V.heap.size V).alloc (Nat.le_refl _) _).grown hg (by simp) (fun k e => (hone.lt k e).1)
    refine h v' w' hb (owns_mono ?_ hβ)
    have e2 : (d :: l).length = 1 + l.length := by rw [List.length_cons, Nat.add_comm]
    have e3 : I64s (d :: l) = I64s [d] ++ I64s l := rfl
    rw [e2, e3]
    exact hown
end Go.Proofs.YtkpoegdcmnjedaaDoor
