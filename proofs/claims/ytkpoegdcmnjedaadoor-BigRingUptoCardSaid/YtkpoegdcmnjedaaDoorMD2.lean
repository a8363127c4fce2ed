import Derived.Test.YtkpoegdcmnjedaaDoorMD1
import Derived.Laws.BytesArg
import Derived.Maps.AppendAt
namespace Go.Proofs.YtkpoegdcmnjedaaDoor
open Go.RowKit
set_option linter.unusedVariables false
set_option linter.unusedSimpArgs false

/-! ### rows of bytes, as numbers -/
theorem info5 : (Tryd.prog.info? 5).map (fun i => (i.zero, i.size, i.bytes)) = some (some (.int .u8 0), 1, 1) := by kernel_rfl
def U8s (l : List Nat) : List Value := l.map fun d : Nat => Value.int .u8 (d : Int)
theorem U8s_length (l : List Nat) : (U8s l).length = l.length := by simp [U8s]
theorem U8s_get {l : List Nat} {i : Nat} (h : i < l.length) : (U8s l)[i]? = some (.int .u8 (dg l i : Int)) := by simp [U8s, dg, h]
theorem U8s_snoc (l : List Nat) (d : Nat) : U8s l ++ [.int .u8 (d : Int)] = U8s (l ++ [d]) := by simp [U8s]
def Bs (B : Nat) (W : World) (v : Value) (l : List Nat) : Prop := W.ownsRow B 5 1 v l.length (U8s l)
theorem Bs.slice {B : Nat} {W : World} {v : Value} {l : List Nat} (h : Bs B W v l) : ∃ ao cap, v = .slice ao l.length cap ∧ l.length ≤ cap ∧ cap ≤ maxLen := by
  rcases h.2 with ⟨rfl, h0⟩ | ⟨g, cap, cur, rfl, _, _, h1, h2, _⟩
  · exact ⟨none, 0, by rw [h0], by omega, by simp⟩
  · exact ⟨_, cap, rfl, h1, h2⟩
theorem Bs.slice3 {B : Nat} {W : World} {v : Value} {l : List Nat} (h : Bs B W v l) : ∃ ao n cap, v = .slice ao n cap ∧ n = l.length := by
  obtain ⟨ao, cap, h, _⟩ := h.slice
  exact ⟨ao, _, cap, h, rfl⟩
theorem Bs.len {B : Nat} {W : World} {ao : Option Addr} {n cap : Nat} {l : List Nat} (h : Bs B W (.slice ao n cap) l) : n = l.length := by
  rcases h.2 with ⟨e, h0⟩ | ⟨g, cap, cur, e, h0, h1, h2, h3, h4, h5⟩ <;> cases e
  · exact h0.symm
  · rfl
theorem Bs.block {B : Nat} {W : World} {ao : Option Addr} {n cap : Nat} {l : List Nat} (h : Bs B W (.slice ao n cap) l) (hl : 0 < n) : ∃ g, ao = some ⟨g, 0, none⟩ ∧ B ≤ g ∧ g < W.heap.size := by
  rcases h.2 with ⟨e, h⟩ | ⟨g, cap, cur, e, h0, h3, h1, h2, _⟩
  · cases e; omega
  · cases e
    exact ⟨g, rfl, h0, (Array.getElem?_eq_some_iff.1 h3).1⟩
theorem Bs.cell {B : Nat} {W : World} {g n cap : Nat} {l : List Nat} (h : Bs B W (.slice (some ⟨g, 0, none⟩) n cap) l) {i : Nat} (hi : i < l.length) : W.cell? ⟨g, i, none⟩ = some (.int .u8 (dg l i : Int)) := by
  rcases h.2 with ⟨e, _⟩ | ⟨g, cap, cur, e, _⟩
  · cases e
  · cases e
    rw [World.ownsRow.cellAt h i (by omega), U8s_get hi]
theorem Bs.free {B : Nat} {W : World} {g n cap : Nat} {l : List Nat} (h : Bs B W (.slice (some ⟨g, 0, none⟩) n cap) l) (i : Nat) : W.frozen? ⟨g, i, none⟩ = false := by
  obtain rfl := h.len
  exact World.ownsRow.frozenAt h i
theorem Bs.set {B : Nat} {W : World} {g n cap : Nat} {l : List Nat} (h : Bs B W (.slice (some ⟨g, 0, none⟩) n cap) l) (i d : Nat) :
    Bs B (W.setCell ⟨g, i, none⟩ (.int .u8 (d : Int))) (.slice (some ⟨g, 0, none⟩) n cap) (l.set i d) := by
  obtain rfl := h.len
  have h2 := (World.ownsRow.stored h i (.int .u8 (d : Int))).1
  unfold Bs
  rw [List.length_set]
  have e : U8s (l.set i d) = (U8s l).set i (.int .u8 (d : Int)) := by simp [U8s, List.map_set]
  rw [e]
  exact h2
theorem Bs.later {B k : Nat} {W W' : World} {v : Value} {l : List Nat} (h : Bs B W v l) (hb : Below k W W') (hk : W.heap.size ≤ k) : Bs B W' v l := owns_below h (hb.mono hk)
/-- one byte appended; what lay elsewhere lies as it lay. -/
theorem wpList_app8 {ops : Array Oper} {rest : List Oper} {o : Oper} {a : Act} {Q : Exit → Act → World → Prop} (hgd : o.guard = none) (s x : Operand)
    (ho : o.op = .call { callee := .builtin .append, args := #[s, x], argTypes := #[118, 118] }) (β : Nat) (V : World) (z : Int) (d : Nat) (hz : z = d)
    (v : Value) (l : List Nat) (hs : a.eval s = v) (hx : a.eval x = .slice (some ⟨V.heap.size, 0, none⟩) 1 1) (hown : Bs β V v l) (hβ : β ≤ V.heap.size) (hn : l.length ≤ 1000000000)
    (h : ∀ v' w', Below β V w' → Bs β w' v' (l ++ [d]) → (∀ (k : Nat) (ob : Obj), V.heap[k]? = some ob → some k ≠ v.ownBlock → w'.heap[k]? = some ob) → (v'.ownBlock = v.ownBlock ∨ v'.ownBlock = some (V.heap.size + 1)) → wpList Tryd.prog ops Q rest (a.put o.dst v') w') :
    wpList Tryd.prog ops Q (o :: rest) a (V.alloc (Obj.cells #[.int .u8 z] 5)) := by
  subst hz
  obtain ⟨i0, hi, hinf⟩ := Option.map_eq_some_iff.1 info5
  simp only [Prod.mk.injEq] at hinf
  obtain ⟨hz0, hz1, hz2⟩ := hinf
  refine wpList_append_own_at _ hgd s x 118 ho β 5 i0 _ 1 1 Tryd.underlying118 hi hz0 hz1 hz2 rfl (by decide) _ _ _ hs (hown.alloc _) ⟨V.heap.size, 0, none⟩ 1 1 [.int .u8 (d : Int)] hx rfl (cell_one_new _ _ _) (by simp [Value.oneCell']) (by unfold maxLen; omega) (by omega) (by simp; omega) ?_
  intro v' w' hown' hg _ hat
  have hb : Below β V w' := ((Below.refl β V).alloc hβ _).grown hg (by simp; omega) (fun k e => (hown.lt k e).1)
  refine h v' w' hb ?_ ?_ ?_
  · unfold Bs
    rw [List.length_append, ← U8s_snoc]
    exact hown'
  · intro k ob hk hne
    have hlt : k < V.heap.size := lt_of_block hk
    rw [hg.block k (by simp; omega) hne, heap_alloc_old V _ hlt]
    exact hk
  · simpa using hat
/-- the one's block is not the other's. -/
def Apart (v u : Value) : Prop := ∀ k, v.ownBlock = some k → u.ownBlock ≠ some k
theorem owns_kept {β : Nat} {e : TypeId} {size : Nat} {V w' : World} {va v : Value} {n : Nat} {xs : List Value} (h : V.ownsRow β e size va n xs) (hk : ∀ (k : Nat) (ob : Obj), V.heap[k]? = some ob → some k ≠ v.ownBlock → w'.heap[k]? = some ob) (ha : Apart va v) : w'.ownsRow β e size va n xs := by
  refine ⟨h.1, ?_⟩
  rcases h.2 with h0 | ⟨g, cap, cur, rfl, h1, h2, h3⟩
  · exact Or.inl h0
  · exact Or.inr ⟨g, cap, cur, rfl, h1, hk g _ h2 (fun e => ha g rfl e.symm), h3⟩
/-- a row of bytes as a text. -/
def txt (l : List Nat) : ByteArray := strOfNums (l.map fun d : Nat => (d : Int))
theorem Bs.text {B : Nat} {W : World} {ao : Option Addr} {n cap : Nat} {l : List Nat} (h : Bs B W (.slice ao n cap) l) : (convert 118 9 (.slice ao n cap)).run Tryd.prog W = .ok (.string (txt l)) W := by
  obtain rfl := h.len
  by_cases e : l = []
  · subst e
    rcases h.2 with ⟨e, _⟩ | ⟨g, cap', cur, e, _⟩
    · cases e
      exact run_convert_bytes_nil W 118 5 Tryd.underlying118 Tryd.underlying5 0 0 9 Tryd.underlying9
    · cases e
      exact run_convert_bytes_arg (P := Tryd.prog) W 118 5 Tryd.underlying118 Tryd.underlying5 g 0 0 cap [] rfl (fun i hi => by omega) 9 Tryd.underlying9
  · obtain ⟨g, rfl, _, _⟩ := h.block (List.length_pos_iff.2 e)
    exact run_convert_bytes_arg (P := Tryd.prog) W 118 5 Tryd.underlying118 Tryd.underlying5 g 0 l.length cap (l.map fun d : Nat => (d : Int)) (by simp) (fun i hi => by
      rw [Nat.zero_add, h.cell hi]
      simp [dg, hi]) 9 Tryd.underlying9

/-! ### the digits' signs, turned -/
def digCh (d : Nat) : Nat := if d < 10 then 48 + d else 87 + d
def revS (l : List Nat) (i : Nat) : List Nat := (List.range l.length).map fun k => if k < i ∨ l.length - i ≤ k then dg l (l.length - 1 - k) else dg l k
theorem revS_length (l : List Nat) (i : Nat) : (revS l i).length = l.length := by simp [revS]
theorem dg_revS {l : List Nat} {i k : Nat} (hk : k < l.length) : dg (revS l i) k = if k < i ∨ l.length - i ≤ k then dg l (l.length - 1 - k) else dg l k := by
  simp [revS, dg, hk]
theorem dg_ext {l m : List Nat} (hl : l.length = m.length) (h : ∀ k, k < l.length → dg l k = dg m k) : l = m := by
  apply List.ext_getElem hl
  intro k h1 h2
  have := h k h1
  simpa [dg, h1, h2] using this
theorem revS_zero (l : List Nat) : revS l 0 = l := by
  refine dg_ext (revS_length l 0) fun k hk => ?_
  rw [revS_length] at hk
  rw [dg_revS hk, if_neg (by omega)]
theorem revS_step {l : List Nat} {i : Nat} (h : 2 * i + 1 < l.length) : ((revS l i).set i (dg l (l.length - 1 - i))).set (l.length - 1 - i) (dg l i) = revS l (i + 1) := by
  refine dg_ext (by simp [revS_length]) fun k hk => ?_
  simp only [List.length_set, revS_length] at hk
  rw [dg_set (by simp [revS_length]; omega), dg_set (by rw [revS_length]; omega), dg_revS hk, dg_revS hk]
  by_cases e1 : k = l.length - 1 - i
  · rw [if_pos e1, if_pos (by omega)]
    congr 1; omega
  · rw [if_neg e1]
    by_cases e2 : k = i
    · rw [if_pos e2, if_pos (by omega), e2]
    · rw [if_neg e2]
      by_cases e3 : k < i ∨ l.length - i ≤ k
      · rw [if_pos e3, if_pos (by omega)]
      · rw [if_neg e3, if_neg (by omega)]
theorem revS_end {l : List Nat} {i : Nat} (h : l.length ≤ 2 * i + 1) : revS l i = l.reverse := by
  refine dg_ext (by simp [revS_length]) fun k hk => ?_
  rw [revS_length] at hk
  have hr : dg l.reverse k = dg l (l.length - 1 - k) := by
    simp only [dg, List.getD_eq_getElem?_getD, List.getElem?_reverse hk]
  rw [dg_revS hk, hr]
  split
  · rfl
  · congr 1; omega
end Go.Proofs.YtkpoegdcmnjedaaDoor
