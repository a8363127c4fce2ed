import Derived.Test.YtkpoegdcmnjedaaDoorMG1
namespace Go.Proofs.YtkpoegdcmnjedaaDoor
open Go.RowKit
set_option linter.unusedVariables false
set_option linter.unusedSimpArgs false

/-! ### the reference: digits with base ten, an int each -/
def I64s (l : List Nat) : List Value := l.map fun d : Nat => Value.int .i64 (d : Int)
theorem I64s_length (l : List Nat) : (I64s l).length = l.length := by simp [I64s]
theorem I64s_get {l : List Nat} {i : Nat} (h : i < l.length) : (I64s l)[i]? = some (.int .i64 (dg l i : Int)) := by simp [I64s, dg, h]
theorem I64s_snoc (l : List Nat) (d : Nat) : I64s l ++ [.int .i64 (d : Int)] = I64s (l ++ [d]) := by simp [I64s]
/-- a slice of digits in a block of its own. -/
def N (B : Nat) (W : World) (v : Value) (l : List Nat) : Prop := W.ownsRow B 3 1 v l.length (I64s l)
theorem N.below {B : Nat} {W W' : World} {v : Value} {l : List Nat} (h : N B W v l) (hb : Below W.heap.size W W') : N B W' v l := owns_below h hb
theorem N.later {B k : Nat} {W W' : World} {v : Value} {l : List Nat} (h : N B W v l) (hb : Below k W W') (hk : W.heap.size ≤ k) : N B W' v l := owns_below h (hb.mono hk)
theorem N.mono {B B' : Nat} {W : World} {v : Value} {l : List Nat} (h : N B W v l) (hb : B' ≤ B) : N B' W v l := owns_mono h hb
theorem N.slice {B : Nat} {W : World} {v : Value} {l : List Nat} (h : N B W v l) : ∃ ao cap, v = .slice ao l.length cap ∧ l.length ≤ cap ∧ cap ≤ maxLen := by
  rcases h.2 with ⟨rfl, h0⟩ | ⟨g, cap, cur, rfl, _, _, h1, h2, _⟩
  · exact ⟨none, 0, by rw [h0], by omega, by simp⟩
  · exact ⟨_, cap, rfl, h1, h2⟩
theorem N.block {B : Nat} {W : World} {ao : Option Addr} {n cap : Nat} {l : List Nat} (h : N B W (.slice ao n cap) l) (hl : 0 < n) : ∃ g, ao = some ⟨g, 0, none⟩ ∧ B ≤ g ∧ g < W.heap.size := by
  rcases h.2 with ⟨e, h⟩ | ⟨g, cap, cur, e, h0, h3, h1, h2, _⟩
  · cases e; omega
  · cases e
    exact ⟨g, rfl, h0, (Array.getElem?_eq_some_iff.1 h3).1⟩
theorem N.cell {B : Nat} {W : World} {g n cap : Nat} {l : List Nat} (h : N B W (.slice (some ⟨g, 0, none⟩) n cap) l) {i : Nat} (hi : i < l.length) : W.cell? ⟨g, i, none⟩ = some (.int .i64 (dg l i : Int)) := by
  rcases h.2 with ⟨e, _⟩ | ⟨g, cap, cur, e, _⟩
  · cases e
  · cases e
    rw [World.ownsRow.cellAt h i (by omega), I64s_get hi]
theorem N.nil (B : Nat) (W : World) : N B W (.slice none 0 0) [] := World.ownsRow_nil W B 3 1
theorem N.take {B : Nat} {W : World} {ao : Option Addr} {n cap : Nat} {l : List Nat} (h : N B W (.slice ao n cap) l) {k : Nat} (hk : k ≤ l.length) : N B W (.slice ao k cap) (l.take k) := by
  have hk' : (l.take k).length = k := by rw [List.length_take, Nat.min_eq_left hk]
  unfold N
  rw [hk']
  refine ⟨by rw [I64s_length, hk']; omega, ?_⟩
  rcases h.2 with ⟨e, h0⟩ | ⟨g, cap, cur, e, h0, h1, h2, h3, h4, h5⟩
  · cases e
    have : k = 0 := by omega
    subst this
    exact Or.inl ⟨rfl, rfl⟩
  · cases e
    refine Or.inr ⟨g, cap, cur, rfl, h0, h1, by omega, h3, h4, ?_⟩
    have : I64s (l.take k) = (I64s l).take k := by simp [I64s, List.map_take]
    rw [this, ← h5, List.take_take, Nat.mul_one, Nat.mul_one, Nat.min_eq_left hk]
theorem N.len {B : Nat} {W : World} {ao : Option Addr} {n cap : Nat} {l : List Nat} (h : N B W (.slice ao n cap) l) : n = l.length := by
  rcases h.2 with ⟨e, h0⟩ | ⟨g, cap, cur, e, h0, h1, h2, h3, h4, h5⟩ <;> cases e
  · exact h0.symm
  · rfl

/-- how many decimal digits a number has. -/
def nt (n : Nat) : Nat := (digs 10 n).length
theorem nt_take {l : List Nat} {k : Nat} (h : Dig 10 l) (hk : k ≤ l.length) (hz : ∀ j, k ≤ j → dg l j = 0) (ht : k = 0 ∨ dg l (k - 1) ≠ 0) : k = nt (val 10 l) := by
  have := trim_take (by decide) h hk hz ht
  unfold nt
  rw [← this, List.length_take, Nat.min_eq_left hk]
theorem nt_le {l : List Nat} (h : Dig 10 l) : nt (val 10 l) ≤ l.length := (digs_length_le (by decide)).2 (val_lt h)
theorem take_nt {l : List Nat} (h : Dig 10 l) : l.take (nt (val 10 l)) = digs 10 (val 10 l) := by
  obtain ⟨k, h1, h2, h3⟩ := top_of l
  rw [← nt_take h h1 h2 h3]
  exact trim_take (by decide) h h1 h2 h3
theorem N.trim {B : Nat} {W : World} {ao : Option Addr} {n cap : Nat} {l : List Nat} (h : N B W (.slice ao n cap) l) (hd : Dig 10 l) : N B W (.slice ao (nt (val 10 l)) cap) (digs 10 (val 10 l)) := by
  rw [← take_nt hd]
  exact h.take (nt_le hd)
theorem N.slice3 {B : Nat} {W : World} {v : Value} {l : List Nat} (h : N B W v l) : ∃ ao n cap, v = .slice ao n cap := by
  obtain ⟨ao, cap, h, _⟩ := h.slice
  exact ⟨ao, _, cap, h⟩
theorem N.set {B : Nat} {W : World} {g n cap : Nat} {l : List Nat} (h : N B W (.slice (some ⟨g, 0, none⟩) n cap) l) {i : Nat} (hi : i < l.length) (d : Nat) :
    N B (W.setCell ⟨g, i, none⟩ (.int .i64 (d : Int))) (.slice (some ⟨g, 0, none⟩) n cap) (l.set i d) := by
  obtain rfl := h.len
  have h2 := (World.ownsRow.stored h i (.int .i64 (d : Int))).1
  unfold N
  rw [List.length_set]
  have e : I64s (l.set i d) = (I64s l).set i (.int .i64 (d : Int)) := by simp [I64s, List.map_set]
  rw [e]
  exact h2
theorem N.free {B : Nat} {W : World} {g n cap : Nat} {l : List Nat} (h : N B W (.slice (some ⟨g, 0, none⟩) n cap) l) (i : Nat) : W.frozen? ⟨g, i, none⟩ = false := by
  obtain rfl := h.len
  exact World.ownsRow.frozenAt h i


/-- a row made by make([]int, k, n). -/
theorem make64 (W : World) (k n : Nat) (hk : k ≤ n) (hn : n ≤ 1000000000) : ∃ W1, (Instr.makeSlice 49 (.int .i64 (k : Int)) (.int .i64 (n : Int))).run Tryd.prog W = .ok (.slice (some ⟨W.heap.size, 0, none⟩) k n) W1 ∧
    N W.heap.size W1 (.slice (some ⟨W.heap.size, 0, none⟩) k n) (List.replicate k 0) ∧ Below W.heap.size W W1 ∧ W.heap.size < W1.heap.size := by
  obtain ⟨i0, hi, hinf⟩ := Option.map_eq_some_iff.1 info3
  simp only [Prod.mk.injEq] at hinf
  obtain ⟨hz0, hz1, hz2⟩ := hinf
  have hr := run_make (P := Tryd.prog) W 49 3 i0 _ Tryd.underlying49 hi hz0 .i64 .i64 (k : Int) (n : Int) (by omega) (by omega) (by rw [hz2]; omega) (by omega)
  refine ⟨_, hr, ?_, (Below.refl _ _).alloc (Nat.le_refl _) _, by simp⟩
  unfold N
  rw [List.length_replicate]
  refine ⟨by simp [I64s], Or.inr ⟨W.heap.size, n, _, rfl, Nat.le_refl _, heap_alloc_new W _, hk, by unfold maxLen; omega, ?_, ?_⟩⟩
  · rw [size_madeCells, hz1]; simp
  · have : (Value.int IntKind.i64 0).cells = #[.int .i64 0] := rfl
    rw [this, toList_madeCells_one, hz1]
    simp [I64s, List.take_replicate]
    omega
theorem wpList_app64 {ops : Array Oper} {rest : List Oper} {o : Oper} {a : Act} {Q : Exit → Act → World → Prop} (hgd : o.guard = none) (s x : Operand)
    (ho : o.op = .call { callee := .builtin .append, args := #[s, x], argTypes := #[49, 49] }) (β : Nat) (V : World) (z : Int) (d : Nat) (hz : z = d)
    (v : Value) (l : List Nat) (hs : a.eval s = v) (hx : a.eval x = .slice (some ⟨V.heap.size, 0, none⟩) 1 1) (hm : N β V v l) (hβ : β ≤ V.heap.size) (hn : l.length ≤ 1000000000)
    (h : ∀ v' w', Below β V w' → N β w' v' (l ++ [d]) → (∀ (k : Nat) (ob : Obj), V.heap[k]? = some ob → some k ≠ v.ownBlock → w'.heap[k]? = some ob) → wpList Tryd.prog ops Q rest (a.put o.dst v') w') :
    wpList Tryd.prog ops Q (o :: rest) a (V.alloc (Obj.cells #[.int .i64 z] 3)) := by
  subst hz
  refine wpList_app1 hgd s x 49 3 _ 8 Tryd.underlying49 info3 rfl (by decide) ho β V _ rfl v l.length (I64s l) hs hx hm hβ hn ?_
  intro v' w' hb hown hk
  refine h v' w' hb ?_ hk
  unfold N
  rw [List.length_append, ← I64s_snoc]
  exact hown

set_option maxHeartbeats 400000 in
theorem ref_trimmed_any {B : Nat} {ao : Option Addr} {n cap : Nat} {l : List Nat} {W : World} (h : N B W (.slice ao n cap) l) (hd : Dig 10 l) :
    Calls Tryd.prog 95 #[.slice ao n cap] W fun e W' => e = .returned (.slice ao (nt (val 10 l)) cap) ∧ W = W' := by
  obtain rfl := h.len
  obtain ⟨ao', cap', e, hc1, hc2⟩ := h.slice
  cases e
  unfold maxLen at hc2
  have H := Lib.hid h
  have HD := Lib.hid hd
  clear h hd
  go_enter Tryd.func95, Tryd.ntmps95
  go_wp2
  go_loop [0] (fun v => ∃ k : Nat, k ≤ l.length ∧ v = .slice ao k cap ∧ Hid (∀ j, k ≤ j → dg l j = 0)) (fun v => match v with | .slice _ k _ => k | _ => 0)
  case atStart => exact ⟨_, Nat.le_refl _, rfl, Lib.hid fun j hj => dg_ge hj⟩
  case round =>
    obtain ⟨k, hk, rfl, hz⟩ := hrel
    by_cases hp : 0 < k
    · obtain ⟨g, rfl, _, _⟩ := H.out.block (show 0 < l.length by omega)
      have hcell := H.out.cell (show k - 1 < l.length by omega)
      have e1 : ((k : Int) - 1).toNat = k - 1 := by omega
      by_cases h0 : dg l (k - 1) = 0
      · have HZ : Hid (∀ j, k - 1 ≤ j → dg l j = 0) := Lib.hid fun j hj => by
          by_cases e : j = k - 1
          · rw [e]; exact h0
          · exact hz.out j (by omega)
        rw [h0] at hcell
        clear h0
        go_wp2
        go_round
        case rel => exact ⟨k - 1, by omega, rfl, HZ⟩
        case measure => simp; omega
      · have hne : ((dg l (k - 1) : Int) == 0) = false := by rw [beq_eq_false_iff_ne]; omega
        have HK := Lib.hid (nt_take HD.out hk hz.out (Or.inr h0))
        go_wp2
        go_ret
        exact ⟨by rw [← HK.out]; rfl, rfl⟩
    · obtain rfl : k = 0 := by omega
      have HK := Lib.hid (nt_take HD.out hk hz.out (Or.inl rfl))
      go_wp2
      go_ret
      exact ⟨by rw [← HK.out]; rfl, rfl⟩
end Go.Proofs.YtkpoegdcmnjedaaDoor
