import Derived.Test.YtkpoegdcmnjedaaDoorMD1
import Derived.Laws.BytesArg
import Derived.Maps.AppendAt
namespace Go.Proofs.YtkpoegdcmnjedaaDoor
open Go.RowKit
set_option linter.unusedVariables false
set_option linter.unusedSimpArgs false

/-! ### rows of bytes, as numbers -/
theorem info5 : (Tryd.prog.info? 5).map (fun i => (i.zero, i.size, i.bytes)) = some (some (.int .u8 0), 1, 1) := by kernel_rfl
def U8s (l : List Nat) : List Value := l.map fun d : Nat => Value.int .u8 (d : Int)
theorem U8s_length (l : List Nat) : (U8s l).length = l.length := by simp [U8s]
theorem U8s_get {l : List Nat} {i : Nat} (h : i < l.length) : (U8s l)[i]? = some (.int .u8 (dg l i : Int)) := by simp [U8s, dg, h]
theorem U8s_snoc (l : List Nat) (d : Nat) : U8s l ++ [.int .u8 (d : Int)] = U8s (l ++ [d]) := by simp [U8s]
def Bs (B : Nat) (W : World) (v : Value) (l : List Nat) : Prop := W.ownsRow B 5 1 v l.length (U8s l)
theorem Bs.slice {B : Nat} {W : World} {v : Value} {l : List Nat} (h : Bs B W v l) : ∃ ao cap, v = .slice ao l.length cap ∧ l.length ≤ cap ∧ cap ≤ maxLen := by
  rcases h.2 with ⟨rfl, h0⟩ | ⟨g, cap, cur, rfl, _, _, h1, h2, _⟩
  · exact ⟨none, 0, by rw [h0], by omega, by simp⟩
  · exact ⟨_, cap, rfl, h1, h2⟩
theorem Bs.slice3 {B : Nat} {W : World} {v : Value} {l : List Nat} (h : Bs B W v l) : ∃ ao n cap, v = .slice ao n cap ∧ n = l.length := by
  obtain ⟨ao, cap, h, _⟩ := h.slice
  exact ⟨ao, _, cap, h, rfl⟩
theorem Bs.len {B : Nat} {W : World} {ao : Option Addr} {n cap : Nat} {l : List Nat} (h : Bs B W (.slice ao n cap) l) : n = l.length := by
  rcases h.2 with ⟨e, h0⟩ | ⟨g, cap, cur, e, h0, h1, h2, h3, h4, h5⟩ <;> cases e
  · exact h0.symm
  · rfl
theorem Bs.block {B : Nat} {W : World} {ao : Option Addr} {n cap : Nat} {l : List Nat} (h : Bs B W (.slice ao n cap) l) (hl : 0 < n) : ∃ g, ao = some ⟨g, 0, none⟩ ∧ B ≤ g ∧ g < W.heap.size := by
  rcases h.2 with ⟨e, h⟩ | ⟨g, cap, cur, e, h0, h3, h1, h2, _⟩
  · cases e; omega
  · cases e
    exact ⟨g, rfl, h0, (Array.getElem?_eq_some_iff.1 h3).1⟩
theorem Bs.cell {B : Nat} {W : World} {g n cap : Nat} {l : List Nat} (h : Bs B W (.slice (some ⟨g, 0, none⟩) n cap) l) {i : Nat} (hi : i < l.length) : W.cell? ⟨g, i, none⟩ = some (.int .u8 (dg l i : Int)) := by
  rcases h.2 with ⟨e, _⟩ | ⟨g, cap, cur, e, _⟩
  · cases e
  · cases e
    rw [World.ownsRow.cellAt h i (by omega), U8s_get hi]
theorem Bs.free {B : Nat} {W : World} {g n cap : Nat} {l : List Nat} (h : Bs B W (.slice (some ⟨g, 0, none⟩) n cap) l) (i : Nat) : W.frozen? ⟨g, i, none⟩ = false := by
  obtain rfl := h.len
  exact World.ownsRow.frozenAt h i
theorem Bs.set {B : Nat} {W : World} {g n cap : Nat} {l : List Nat} (h : Bs B W (.slice (some ⟨g, 0, none⟩) n cap) l) (i d : Nat) :
    Bs B (W.setCell ⟨g, i, none⟩ (.int .u8 (d : Int))) (.slice (some ⟨g, 0, none⟩) n cap) (l.set i d) := by
  obtain rfl := h.len
  have h2 := (World.ownsRow.stored h i (.int .u8 (d : Int))).1
  unfold Bs
  rw [List.length_set]
  have e : U8s (l.set i d) = (U8s l).set i (.int .u8 (d : Int)) := by simp [U8s, List.map_set]
  rw [e]
  exact h2
theorem Bs.later {B k : Nat} {W W' : World} {v : Value} {l : List Nat} (h : Bs B W v l) (hb : Below k W W') (hk : W.heap.size ≤ k) : Bs B W' v l := owns_below h (hb.mono hk)
/-- one byte appended; what lay elsewhere lies as it lay. -/
theorem wpList_app8 {ops : Array Oper} {rest : List Oper} {o : Oper} {a : Act} {Q : Exit → Act → World → Prop} (hgd : o.guard = none) (s x : Operand)
    (ho : o.op = .call { callee := .builtin .append, args := #[s, x], argTypes := #[118, 118] }) (β : Nat) (V : World) (z : Int) (d : Nat) (hz : z = d)
    (v : Value) (l : List Nat) (hs : a.eval s = v) (hx : a.eval x = .slice (some ⟨V.heap.size, 0, none⟩) 1 1) (hown : Bs β V v l) (hβ : β ≤ V.heap.size) (hn : l.length ≤ 1000000000)
    (h : ∀ v' w', Below β V w' → Bs β w' v' (l ++ [d]) → (∀ (k : Nat) (ob : Obj), V.heap[k]? = some ob → some k ≠ v.ownBlock → w'.heap[k]? = some ob) → (v'.ownBlock = v.ownBlock ∨ v'.ownBlock = some (V.heap.size + 1)) → wpList Tryd.prog ops Q rest (a.put o.dst v') w') :
    wpList Tryd.prog ops Q (o :: rest) a (V.alloc (Obj.cells #[.int .u8 z] 5)) := by
  subst hz
  obtain ⟨i0, hi, hinf⟩ := Option.map_eq_some_iff.1 info5
  simp only [Prod.mk.injEq] at hinf
  obtain ⟨hz0, hz1, hz2⟩ := hinf
  refine wpList_append_own_at _ hgd s x 118 ho β 5 i0 _ 1 1 Tryd.underlying118 hi hz0 hz1 hz2 rfl (by decide) _ _ _ hs (hown.alloc _) ⟨V.heap.size, 0, none⟩ 1 1 [.int .u8 (d : Int)] hx rfl (cell_one_new _ _ _) (by simp [Value.oneCell']) (by unfold maxLen; omega) (by omega) (by simp; omega) ?_
  intro v' w' hown' hg _ hat
  have hb : Below β V w' := ((Below.refl β V).alloc hβ _).grown hg (by simp; omega) (fun k e => (hown.lt k e).1)
  refine h v' w' hb ?_ ?_ ?_
  · unfold Bs
    rw [List.length_append, ← U8s_snoc]
    exact hown'
  · intro k ob hk hne
    have hlt : k < V.heap.size := lt_of_block hk
    rw [hg.block k (by simp; omega) hne, heap_alloc_old V _ hlt]
    exact hk
  · simpa using hat
/-- the one's block is not the other's. -/
def Apart (v u : Value) : Prop := ∀ k, v.ownBlock = some k → u.ownBlock ≠ some k
theorem owns_kept {β : Nat} {e : TypeId} {size : Nat} {V w' : World} {va v : Value} {n : Nat} {xs : List Value} (h : V.ownsRow β e size va n xs) (hk : ∀ (k : Nat) (ob : Obj), V.heap[k]? = some ob → some k ≠ v.ownBlock → w'.heap[k]? = some ob) (ha : Apart va v) : w'.ownsRow β e size va n xs := by
  refine ⟨h.1, ?_⟩
  rcases h.2 with h0 | ⟨g, cap, cur, rfl, h1, h2, h3⟩
  · exact Or.inl h0
  · exact Or.inr ⟨g, cap, cur, rfl, h1, hk g _ h2 (fun e => ha g rfl e.symm), h3⟩
/-- a row of bytes as a text. -/
def txt (l : List Nat) : ByteArray := strOfNums (l.map fun d : Nat => (d : Int))
theorem Bs.text {B : Nat} {W : World} {ao : Option Addr} {n cap : Nat} {l : List Nat} (h : Bs B W (.slice ao n cap) l) : (convert 118 9 (.slice ao n cap)).run Tryd.prog W = .ok (.string (txt l)) W := by
  obtain rfl := h.len
  by_cases e : l = []
  · subst e
    rcases h.2 with ⟨e, _⟩ | ⟨g, cap', cur, e, _⟩
    · cases e
      exact run_convert_bytes_nil W 118 5 Tryd.underlying118 Tryd.underlying5 0 0 9 Tryd.underlying9
    · cases e
      exact run_convert_bytes_arg (P := Tryd.prog) W 118 5 Tryd.underlying118 Tryd.underlying5 g 0 0 cap [] rfl (fun i hi => by omega) 9 Tryd.underlying9
  · obtain ⟨g, rfl, _, _⟩ := h.block (List.length_pos_iff.2 e)
    exact run_convert_bytes_arg (P := Tryd.prog) W 118 5 Tryd.underlying118 Tryd.underlying5 g 0 l.length cap (l.map fun d : Nat => (d : Int)) (by simp) (fun i hi => by
      rw [Nat.zero_add, h.cell hi]
      simp [dg, hi]) 9 Tryd.underlying9

/-! ### the digits' signs, turned -/
def digCh (d : Nat) : Nat := if d < 10 then 48 + d else 87 + d
def revS (l : List Nat) (i : Nat) : List Nat := (List.range l.length).map fun k => if k < i ∨ l.length - i ≤ k then dg l (l.length - 1 - k) else dg l k
theorem revS_length (l : List Nat) (i : Nat) : (revS l i).length = l.length := by simp [revS]
theorem dg_revS {l : List Nat} {i k : Nat} (hk : k < l.length) : dg (revS l i) k = if k < i ∨ l.length - i ≤ k then dg l (l.length - 1 - k) else dg l k := by
  simp [revS, dg, hk]
theorem dg_ext {l m : List Nat} (hl : l.length = m.length) (h : ∀ k, k < l.length → dg l k = dg m k) : l = m := by
  apply List.ext_getElem hl
  intro k h1 h2
  have := h k h1
  simpa [dg, h1, h2] using this
theorem revS_zero (l : List Nat) : revS l 0 = l := by
  refine dg_ext (revS_length l 0) fun k hk => ?_
  rw [revS_length] at hk
  rw [dg_revS hk, if_neg (by omega)]
theorem revS_step {l : List Nat} {i : Nat} (h : 2 * i + 1 < l.length) : ((revS l i).set i (dg l (l.length - 1 - i))).set (l.length - 1 - i) (dg l i) = revS l (i + 1) := by
  refine dg_ext (by simp [revS_length]) fun k hk => ?_
  simp only [List.length_set, revS_length] at hk
  rw [dg_set (by simp [revS_length]; omega), dg_set (by rw [revS_length]; omega), dg_revS hk, dg_revS hk]
  by_cases e1 : k = l.length - 1 - i
  · rw [if_pos e1, if_pos (by omega)]
    congr 1; omega
  · rw [if_neg e1]
    by_cases e2 : k = i
    · rw [if_pos e2, if_pos (by omega), e2]
    · rw [if_neg e2]
      by_cases e3 : k < i ∨ l.length - i ≤ k
      · rw [if_pos e3, if_pos (by omega)]
      · rw [if_neg e3, if_neg (by omega)]
theorem revS_end {l : List Nat} {i : Nat} (h : l.length ≤ 2 * i + 1) : revS l i = l.reverse := by
  refine dg_ext (by simp [revS_length]) fun k hk => ?_
  rw [revS_length] at hk
  have hr : dg l.reverse k = dg l (l.length - 1 - k) := by
    simp only [dg, List.getD_eq_getElem?_getD, List.getElem?_reverse hk]
  rw [dg_revS hk, hr]
  split
  · rfl
  · congr 1; omega
end Go.Proofs.YtkpoegdcmnjedaaDoor
namespace Go.Proofs.YtkpoegdcmnjedaaDoor
open Go.RowKit
set_option linter.unusedVariables false
set_option linter.unusedSimpArgs false

/-- a number's signs in a base. -/
def textL (b n : Nat) : List Nat := if n = 0 then [48] else ((digs b n).map digCh).reverse

/-- how many digits go at a time. -/
structure StI (base c P : Nat) : Prop where
  c1 : 1 ≤ c
  eq : P = base ^ c
  lt : P < 4294967296
theorem StI.le {base c P : Nat} (h : StI base c P) (hb : 2 ≤ base) : c ≤ 32 := by
  have h1 := h.lt
  rw [h.eq] at h1
  refine Nat.le_of_not_lt fun h2 => ?_
  have h3 : 2 ^ c ≤ base ^ c := Nat.pow_le_pow_left hb c
  have h4 : 2 ^ 33 ≤ 2 ^ c := Nat.pow_le_pow_right (by decide) h2
  omega
/-- the digits that have been taken off. -/
structure OuI (base N : Nat) (v : Nat) (D : List Nat) : Prop where
  dig : Dig base D
  eq : N = val base D + base ^ D.length * v
  ti : v = 0 → Tight D
structure InI (base N P c : Nat) (q rest i : Nat) (D : List Nat) : Prop where
  dig : Dig base D
  ic : i ≤ c
  rl : rest < base ^ (c - i)
  eq : N = val base D + base ^ D.length * (rest + base ^ (c - i) * q)
  ti : q = 0 → rest = 0 → Tight D
theorem OuI.inner {base N v c P q rest : Nat} {D : List Nat} (h : OuI base N v D) (hb : 2 ≤ base) (hs : StI base c P) (hv : 0 < v) (hq : v / P = q) (hr : v % P = rest) : InI base N P c q rest 0 D := by
  have hP : 0 < P := by rw [hs.eq]; exact Nat.pow_pos (by omega)
  refine ⟨h.dig, Nat.zero_le _, by rw [Nat.sub_zero, ← hs.eq, ← hr]; exact Nat.mod_lt _ hP, ?_, fun h1 h2 => ?_⟩
  · rw [Nat.sub_zero, ← hs.eq, ← hr, ← hq, Nat.mod_add_div]; exact h.eq
  · have := Nat.mod_add_div v P
    rw [hr, hq, h1, h2] at this
    omega
theorem InI.push {base N P c q rest i : Nat} {D : List Nat} (h : InI base N P c q rest i D) (hb : 2 ≤ base) (hi : i < c) (hne : 0 < rest ∨ 0 < q) : InI base N P c q (rest / base) (i + 1) (D ++ [rest % base]) := by
  have e1 : c - i = (c - (i + 1)) + 1 := by omega
  have h1 := h.rl
  have h2 := h.eq
  rw [e1, Nat.pow_succ] at h1 h2
  have h3 := Nat.mod_add_div rest base
  refine ⟨h.dig.snoc (Nat.mod_lt _ (by omega)), hi, by exact Nat.div_lt_of_lt_mul (by rwa [Nat.mul_comm] at h1), ?_, ?_⟩
  · rw [val_snoc, List.length_append, List.length_singleton, Nat.pow_succ, Nat.add_assoc, Nat.mul_assoc, ← Nat.mul_add, Nat.mul_add base, ← Nat.add_assoc (rest % base), h3, h2, Nat.mul_left_comm base]
    rw [Nat.mul_comm (base ^ (c - (i + 1))) base, Nat.mul_assoc base]
    rw [Nat.mul_left_comm base]
  · intro h4 h5
    right
    rw [List.length_append, List.length_singleton, Nat.add_sub_cancel, dg_snoc_eq]
    have : 0 < rest := hne.resolve_right (by omega)
    have h6 : rest < base := by
      rcases Nat.lt_or_ge rest base with h7 | h7
      · exact h7
      · have := Nat.div_pos h7 (by omega); omega
    rw [Nat.mod_eq_of_lt h6]; omega
theorem InI.outer {base N P c q rest i : Nat} {D : List Nat} (h : InI base N P c q rest i D) (hstop : i = c ∨ (rest = 0 ∧ q = 0)) : OuI base N q D := by
  rcases hstop with rfl | ⟨rfl, rfl⟩
  · have h1 := h.rl
    rw [Nat.sub_self, Nat.pow_zero] at h1
    obtain rfl : rest = 0 := by omega
    refine ⟨h.dig, ?_, fun h2 => h.ti h2 rfl⟩
    have := h.eq
    rw [Nat.sub_self, Nat.pow_zero, Nat.zero_add, Nat.one_mul] at this
    exact this
  · refine ⟨h.dig, ?_, fun _ => h.ti rfl rfl⟩
    have := h.eq
    simpa using this
theorem OuI.room {base N v : Nat} {D : List Nat} (h : OuI base N v D) (hb : 2 ≤ base) (hv : 0 < v) : D.length < (digs base N).length := by
  refine Nat.lt_of_not_le fun h1 => ?_
  have h2 := (digs_length_le hb).1 h1
  have h3 := h.eq
  have h4 : base ^ D.length * 1 ≤ base ^ D.length * v := Nat.mul_le_mul_left _ hv
  omega
theorem OuI.done {base N : Nat} {D : List Nat} (h : OuI base N 0 D) (hb : 2 ≤ base) : D = digs base N := by
  have h1 := tight_digs D hb h.dig (h.ti rfl)
  have h2 := h.eq
  rw [Nat.mul_zero, Nat.add_zero] at h2
  rw [h2]; exact h1.symm

theorem index_dig (d : Nat) (hd : d < 36) (w : World) : (Instr.index 9 (.string ⟨#[48, 49, 50, 51, 52, 53, 54, 55, 56, 57, 97, 98, 99, 100, 101, 102, 103, 104, 105, 106, 107, 108, 109, 110, 111, 112, 113, 114, 115, 116, 117, 118, 119, 120, 121, 122]⟩) (.int .u32 (d : Int))).run Tryd.prog w = .ok (.int .u8 ((digCh d : Nat) : Int)) w := by
  obtain rfl | rfl | rfl | rfl | rfl | rfl | rfl | rfl | rfl | rfl | rfl | rfl | rfl | rfl | rfl | rfl | rfl | rfl | rfl | rfl | rfl | rfl | rfl | rfl | rfl | rfl | rfl | rfl | rfl | rfl | rfl | rfl | rfl | rfl | rfl | rfl : d = 0 ∨ d = 1 ∨ d = 2 ∨ d = 3 ∨ d = 4 ∨ d = 5 ∨ d = 6 ∨ d = 7 ∨ d = 8 ∨ d = 9 ∨ d = 10 ∨ d = 11 ∨ d = 12 ∨ d = 13 ∨ d = 14 ∨ d = 15 ∨ d = 16 ∨ d = 17 ∨ d = 18 ∨ d = 19 ∨ d = 20 ∨ d = 21 ∨ d = 22 ∨ d = 23 ∨ d = 24 ∨ d = 25 ∨ d = 26 ∨ d = 27 ∨ d = 28 ∨ d = 29 ∨ d = 30 ∨ d = 31 ∨ d = 32 ∨ d = 33 ∨ d = 34 ∨ d = 35 := by omega
  all_goals kernel_rfl

theorem parted_num {B : Nat} {v : Value} {n : Nat} {W : World} (y : Nat) (h : M B W v (digs B32 n)) (hl : nd n ≤ 1000000) (hy : y < 4294967296) (hy0 : 0 < y) :
    Calls Tryd.prog 128 #[v, .int .u32 y] W fun e W' => (∃ v', e = .returned (.tuple #[v', .int .u32 ((n % y : Nat) : Int)]) ∧ M W.heap.size W' v' (digs B32 (n / y))) ∧ Below W.heap.size W W' := by
  have := parted_any y h (digs_dig (by decide) n) hl hy hy0
  rw [val_digs (by decide)] at this
  exact this
theorem nd_div (n y : Nat) : nd (n / y) ≤ nd n := (digs_length_le (by decide)).2 (Nat.lt_of_le_of_lt (Nat.div_le_self n y) ((digs_length_le (by decide)).1 (Nat.le_refl _)))
theorem digs_nd {base N : Nat} (hb : 2 ≤ base) : (digs base N).length ≤ 32 * nd N := by
  refine (digs_length_le hb).2 ?_
  have h1 : N < B32 ^ nd N := (digs_length_le (by decide)).1 (Nat.le_refl _)
  have h2 : B32 ^ nd N = 2 ^ (32 * nd N) := by rw [Nat.pow_mul]
  rw [h2] at h1
  exact Nat.lt_of_lt_of_le h1 (Nat.pow_le_pow_left hb _)
theorem nd_zero {n : Nat} : nd n = 0 ↔ n = 0 := by unfold nd; rw [List.length_eq_zero_iff]; exact digs_eq_nil (by decide)
structure TxO (base N : Nat) (W wr : World) (av bv : Value) (v : Nat) (D : List Nat) : Prop where
  o : OuI base N v D
  nl : nd v ≤ nd N
  m : M 0 wr av (digs B32 v)
  bs : Bs W.heap.size wr bv (D.map digCh)
  b : Below W.heap.size W wr
structure TxJ (base N P c q : Nat) (W wr : World) (av bv : Value) (rest i : Nat) (D : List Nat) : Prop where
  o : InI base N P c q rest i D
  ap : Apart av bv
  m : M 0 wr av (digs B32 q)
  bs : Bs W.heap.size wr bv (D.map digCh)
  b : Below W.heap.size W wr

set_option maxRecDepth 100000 in
set_option maxHeartbeats 2000000 in
theorem text_any {B : Nat} {v : Value} {N : Nat} {W : World} (base : Nat) (hb2 : 2 ≤ base) (hb36 : base ≤ 36) (h : M B W v (digs B32 N)) (hl : nd N ≤ 1000000) :
    Calls Tryd.prog 104 #[v, .int .u32 base] W fun e W' => e = .returned (.string (txt (textL base N))) ∧ Below W.heap.size W W' := by
  obtain ⟨ao, cap, rfl, hc1, hc2⟩ := h.slice
  have hn : (digs B32 N).length = nd N := rfl
  rw [hn] at h hc1 ⊢
  by_cases h0 : N = 0
  · have e0 : nd N = 0 := by rw [h0]; unfold nd; rw [digs_zero]; rfl
    have e1 : textL base N = [48] := by unfold textL; rw [if_pos h0]
    rw [e1, e0]
    clear h hl hn h0 e0 e1 hc1
    go_enter Tryd.func104, Tryd.ntmps104
    go_wp2
    go_ret
    exact ⟨rfl, Below.refl _ _⟩
  · have e0 : 0 < nd N := Nat.pos_of_ne_zero fun e => h0 ((digs_eq_nil (by decide)).1 (List.length_eq_zero_iff.1 e))
    have H := Lib.hid h
    have HT : Hid (textL base N = ((digs base N).map digCh).reverse) := Lib.hid (by unfold textL; rw [if_neg h0])
    have H0 := Lib.hid h0
    obtain ⟨k0, HK0⟩ : ∃ k, Hid (nd N = k) := ⟨_, Lib.hid rfl⟩
    rw [HK0.out] at hl e0 hc1 H ⊢
    have hk00 : ((k0 : Int) == 0) = false := by rw [beq_eq_false_iff_ne]; omega
    clear h h0 hn
    go_enter Tryd.func104, Tryd.ntmps104
    go_wp2
    go_loop [5, 6] (fun pv cv => ∃ P c : Nat, pv = .int .u32 P ∧ cv = .int .i64 c ∧ Hid (StI base c P)) (fun pv _ => 4294967296 - (intOf pv).toNat)
    case atStart => exact ⟨base, 1, rfl, rfl, Lib.hid ⟨Nat.le_refl _, by rw [Nat.pow_one], by omega⟩⟩
    case round =>
      obtain ⟨P, c, rfl, rfl, hs⟩ := hrel
      have hP := hs.out.lt
      have hcl := hs.out.le hb2
      by_cases hlt : P * base < 4294967296
      · have hp1 : (P : Int) * (base : Int) < 4294967296 := by rw [← Int.natCast_mul]; omega
        have hp0 : 0 ≤ (P : Int) * (base : Int) := by rw [← Int.natCast_mul]; omega
        go_wp2
        go_round
        case rel => exact ⟨P * base, c + 1, by go_num, by go_num, Lib.hid ⟨by omega, by rw [Nat.pow_succ, hs.out.eq], hlt⟩⟩
        case measure =>
          have := Nat.mul_le_mul_left P hb2
          have hPp : 0 < P := by rw [hs.out.eq]; exact Nat.pow_pos (by omega)
          simp [intOf]
          omega
      · have hp1 : 4294967296 ≤ (P : Int) * (base : Int) := by rw [← Int.natCast_mul]; omega
        have hp2 : (P : Int) * (base : Int) ≤ 18446744073709551615 := by
          have := Nat.mul_le_mul (show P ≤ 4294967296 by omega) hb36
          rw [← Int.natCast_mul]; omega
        have hPp : 0 < P := by rw [hs.out.eq]; exact Nat.pow_pos (by omega)
        obtain ⟨z, HZ⟩ : ∃ z : Nat, Hid (z = P * base) := ⟨_, Lib.hid rfl⟩
        have hz0 : (P : Int) * (base : Int) = (z : Int) := by rw [HZ.out]; simp
        rw [hz0] at hp1 hp2
        have hd : decide ((z : Int) < 4294967296) = false := by simp; omega
        clear hlt hp1
        have HO0 : Hid (TxO base N W W (.slice ao k0 cap) (.slice none 0 0) N []) := Lib.hid ⟨⟨Dig.nil (by omega), by simp [val_nil], fun _ => Or.inl rfl⟩, Nat.le_refl _, H.out.mono (Nat.zero_le _), World.ownsRow_nil _ _ _ _, Below.refl _ _⟩
        obtain ⟨t0, HT0⟩ : ∃ t, Hid ((digs base N).length = t) := ⟨_, Lib.hid rfl⟩
        have ht0 : t0 ≤ 32000000 := by have := digs_nd (base := base) (N := N) hb2; rw [HT0.out, HK0.out] at this; omega
        have hPp2 : 2 ≤ P := by
          rw [hs.out.eq]
          exact Nat.le_trans (by rw [Nat.pow_one]; exact hb2) (Nat.pow_le_pow_right (by omega) hs.out.c1)
        clear hPp
        go_wp2
        clear hp2 hz0 hd
        go_loopw [0, 7] (fun av bv wr => ∃ (v : Nat) (D : List Nat), Hid (TxO base N W wr av bv v D)) (fun _ bv _ => match bv with | .slice _ k _ => t0 + 1 - k | _ => 0)
        case atStart => exact ⟨N, [], HO0⟩
        case round =>
          obtain ⟨v, D, ho⟩ := hrel
          obtain ⟨ao1, n1, cap1, rfl⟩ := ho.out.m.slice3
          obtain ⟨ao2, n2, cap2, rfl, hn2⟩ := ho.out.bs.slice3
          have hn1 : n1 = nd v := ho.out.m.len
          rw [List.length_map] at hn2
          by_cases hv : v = 0
          · have hn10 : n1 = 0 := by rw [hn1, hv]; exact nd_zero.2 rfl
            have HDE : Hid (D = digs base N) := Lib.hid (by have := ho.out.o; rw [hv] at this; exact this.done hb2)
            obtain ⟨L, HL⟩ : ∃ L, Hid (D.map digCh = L) := ⟨_, Lib.hid rfl⟩
            have hL : L.length = n2 := by rw [← HL.out, List.length_map, hn2]
            have HBs : Hid (Bs W.heap.size wr (.slice ao2 n2 cap2) (revS L 0)) := Lib.hid (by rw [revS_zero, ← HL.out]; exact ho.out.bs)
            have hn2p : 0 < n2 := by
              rw [hn2, HDE.out]
              refine Nat.pos_of_ne_zero fun e => H0.out ((digs_eq_nil hb2).1 (List.length_eq_zero_iff.1 e))
            have hn2t : n2 ≤ 32000000 := by rw [hn2, HDE.out, HT0.out]; exact ht0
            obtain ⟨g2, rfl, hg2, _⟩ := ho.out.bs.block hn2p
            have HLL := Lib.hid hL
            have HBW := Lib.hid ho.out.b
            subst hn10
            clear hn1 hn2 hv hL ho
            go_wp2
            go_loopw [10, 11] (fun iv jv wr => ∃ i : Nat, iv = .int .i64 i ∧ jv = .int .i64 ((n2 : Int) - 1 - i) ∧ i ≤ n2 ∧ Hid (Bs W.heap.size wr (.slice (some ⟨g2, 0, none⟩) n2 cap2) (revS L i)) ∧ Hid (Below W.heap.size W wr)) (fun iv _ _ => n2 - (intOf iv).toNat)
            case atStart => exact ⟨0, rfl, by simp, Nat.zero_le _, HBs, HBW⟩
            case round =>
              obtain ⟨i, rfl, rfl, hi, hbs, hbw⟩ := hrel
              by_cases hij : 2 * i + 1 < n2
              · have hl2 : (revS L i).length = n2 := by rw [revS_length]; exact HLL.out
                have ci := hbs.out.cell (show i < (revS L i).length by omega)
                have cj := hbs.out.cell (show n2 - 1 - i < (revS L i).length by omega)
                have fi := hbs.out.free i
                have fj := hbs.out.free (n2 - 1 - i)
                have ej : ((n2 : Int) - 1 - (i : Int)).toNat = n2 - 1 - i := by omega
                go_wp2
                go_region
                go_wp2
                go_roundw
                case rel =>
                  refine ⟨i + 1, by go_num, by congr 1; omega, by omega, ?_, Lib.hid ((hbw.out.setCell hg2 _).setCell hg2 _).drew⟩
                  have e1 : dg (revS L i) (n2 - 1 - i) = dg L (L.length - 1 - i) := by rw [dg_revS (by rw [HLL.out]; omega), if_neg (by rw [HLL.out]; omega), HLL.out]
                  have e2 : dg (revS L i) i = dg L i := by rw [dg_revS (by rw [HLL.out]; omega), if_neg (by rw [HLL.out]; omega)]
                  have hst := revS_step (l := L) (i := i) (by rw [HLL.out]; omega)
                  have h3 := (hbs.out.set i (dg (revS L i) (n2 - 1 - i))).set (n2 - 1 - i) (dg (revS L i) i)
                  rw [HLL.out] at hst
                  rw [e1, HLL.out] at h3
                  rw [e2, hst] at h3
                  rw [e1, e2, HLL.out]
                  exact Lib.hid h3
                case measure => simp [intOf] <;> omega
              · have HR : Hid (revS L i = L.reverse) := Lib.hid (revS_end (by rw [HLL.out]; omega))
                have htx := hbs.out.text
                rw [HR.out] at htx
                go_wp2
                go_ret
                refine ⟨?_, hbw.out⟩
                rw [HT.out, ← HDE.out, HL.out]
                rfl
          · have hn1p : 0 < n1 := by rw [hn1]; exact Nat.pos_of_ne_zero fun e => hv (nd_zero.1 e)
            have HN2 := Lib.hid hn2
            have hroom : D.length < t0 := by rw [← HT0.out]; exact ho.out.o.room hb2 (Nat.pos_of_ne_zero hv)
            rw [← hn2] at hroom
            have HV := Lib.hid hv
            clear hn1 hn2 hv
            have hnl : nd v ≤ 1000000 := by have := ho.out.nl; rw [HK0.out] at this; omega
            go_wp2_with fail
            refine (parted_num P ho.out.m hnl hP (by omega)).mono ?_
            rintro e w1 ⟨⟨v1, rfl, hm1⟩, hb1⟩
            obtain ⟨ao3, n3, cap3, rfl⟩ := hm1.slice3
            have HJ0 : Hid (TxJ base N P c (v / P) W w1 (.slice ao3 n3 cap3) (.slice ao2 n2 cap2) (v % P) 0 D) := Lib.hid ⟨ho.out.o.inner hb2 hs.out (Nat.pos_of_ne_zero HV.out) rfl rfl, fun k e1 e2 => by have h1 := (hm1.lt k e1).1; have h2 := (ho.out.bs.lt k e2).2; omega, hm1.mono (Nat.zero_le _), ho.out.bs.later hb1 (Nat.le_refl _), ho.out.b.trans (hb1.mono ho.out.b.size)⟩
            have hn3 : n3 = nd (v / P) := hm1.len
            obtain ⟨q, HQ⟩ : ∃ q, Hid (v / P = q) := ⟨_, Lib.hid rfl⟩
            obtain ⟨r0, HR⟩ : ∃ r, Hid (v % P = r) := ⟨_, Lib.hid rfl⟩
            have hr0 : r0 < P := by rw [← HR.out]; exact Nat.mod_lt _ (by omega)
            rw [HQ.out] at HJ0 hn3
            rw [HR.out] at HJ0 ⊢
            have HRQ : Hid (0 < r0 ∨ 0 < q) := Lib.hid (by
              have h1 := Nat.mod_add_div v P
              rw [HR.out, HQ.out] at h1
              have h2 := HV.out
              rcases Nat.eq_zero_or_pos r0 with h3 | h3
              · right
                refine Nat.pos_of_ne_zero fun h4 => h2 ?_
                rw [← h1, h3, h4]; simp
              · exact Or.inl h3)
            have HN3 := Lib.hid hn3
            clear hm1 hb1 hn3
            obtain ⟨wo, rfl⟩ : ∃ wo : World, wo = w1 := ⟨_, rfl⟩
            go_wp2
            go_loopw [7, 8, 9] (fun bv rv iv wr => ∃ (rest i : Nat) (D2 : List Nat), rv = .int .u32 rest ∧ iv = .int .i64 i ∧ i ≤ c ∧ rest < 4294967296 ∧ Hid (D2.length = n2 + i ∧ (i = 0 → 0 < rest ∨ 0 < q)) ∧ Hid (TxJ base N P c q W wr (.slice ao3 n3 cap3) bv rest i D2)) (fun _ _ iv _ => c - (intOf iv).toNat)
            case atStart => exact ⟨r0, 0, D, rfl, rfl, Nat.zero_le _, by omega, Lib.hid ⟨by have := HN2.out; omega, fun _ => HRQ.out⟩, HJ0⟩
            case round =>
              obtain ⟨rest, i, D2, rfl, rfl, hic, hrl, hdl, hj⟩ := hrel
              obtain ⟨ao4, n4, cap4, rfl, hn4⟩ := hj.out.bs.slice3
              rw [List.length_map] at hn4
              have HN4 := Lib.hid hn4
              clear hn4
              by_cases hi : i < c
              · by_cases hrq : rest = 0 ∧ n3 = 0
                · obtain ⟨hr00, hn30⟩ := hrq
                  subst hr00
                  subst hn30
                  have HX : Hid (OuI base N q D2) := Lib.hid (hj.out.o.outer (Or.inr ⟨rfl, nd_zero.1 HN3.out.symm⟩))
                  have hlen : n2 < n4 := by
                    have h1 := hdl.out.1
                    have h2 := HN4.out
                    by_cases e : i = 0
                    · have := hdl.out.2 e
                      have := nd_zero.1 HN3.out.symm
                      omega
                    · omega
                  go_wp2
                  go_roundw
                  case rel => exact ⟨q, D2, Lib.hid ⟨HX.out, Nat.le_trans (by rw [← HQ.out]; exact nd_div _ _) ho.out.nl, hj.out.m, hj.out.bs, hj.out.b⟩⟩
                  case measure => simp; omega
                · have hor : 0 < rest ∨ 0 < n3 := by omega
                  have hmod : rest % base < 36 := by have := Nat.mod_lt rest (show 0 < base by omega); omega
                  obtain ⟨d, HD⟩ : ∃ d, Hid (rest % base = d) := ⟨_, Lib.hid rfl⟩
                  have hd0 : (rest : Int) % (base : Int) = (d : Int) := by rw [← HD.out]; simp
                  rw [HD.out] at hmod
                  have hix := index_dig d hmod
                  clear hrq
                  have HL4 : Hid ((D2.map digCh).length ≤ 1000000000) := Lib.hid (by rw [List.length_map, hdl.out.1]; omega)
                  by_cases hr0 : rest = 0
                  · subst hr0
                    have hn3p : 0 < n3 := by omega
                    obtain rfl : d = 0 := by have := HD.out; simp at this; omega
                    clear hor hix hmod hd0
                    have hix : ∀ (w : World), (Instr.index 9 (.string ⟨#[48, 49, 50, 51, 52, 53, 54, 55, 56, 57, 97, 98, 99, 100, 101, 102, 103, 104, 105, 106, 107, 108, 109, 110, 111, 112, 113, 114, 115, 116, 117, 118, 119, 120, 121, 122]⟩) (.int .u32 0)).run Tryd.prog w = .ok (.int .u8 48) w := index_dig 0 (by decide)
                    have HPU : Hid (InI base N P c q 0 (i + 1) (D2 ++ [0])) := Lib.hid (by
                      have := hj.out.o.push hb2 hi (Or.inr (by refine Nat.pos_of_ne_zero fun e => ?_; have := HN3.out; rw [e] at this; rw [this] at hn3p; have := nd_zero.2 (rfl : 0 = 0); omega))
                      simpa using this)
                    go_wp2_with (at_builtin; go_loud (refine wpList_app8 rfl _ _ rfl W.heap.size wr _ 48 rfl (.slice ao4 n4 cap4) (D2.map digCh) rfl rfl hj.out.bs hj.out.b.size HL4.out ?_; intro v' w' hb' hm' hk' hat'; have HM := Lib.hid hm'; have HB := Lib.hid hb'; have HK := Lib.hid hk'; have HAT := Lib.hid hat'; clear hm' hb' hk' hat'))
                    go_roundw
                    case rel =>
                      refine ⟨0, i + 1, D2 ++ [0], rfl, by go_num, by omega, by decide, Lib.hid ⟨by rw [List.length_append, hdl.out.1]; simp; omega, fun h => by omega⟩, Lib.hid ⟨?_, ?_, ?_, ?_, hj.out.b.trans HB.out⟩⟩
                      · exact HPU.out
                      · intro k e1 e2
                        rcases HAT.out with h1 | h1
                        · exact hj.out.ap k e1 (h1.symm.trans e2)
                        · have := (hj.out.m.lt k e1).2
                          rw [h1] at e2; cases e2; omega
                      · exact owns_kept hj.out.m HK.out hj.out.ap
                      · rw [List.map_append]; exact HM.out
                    case measure => simp [intOf] <;> omega
                  · clear hor
                    have hd36 : (d : Int) < 36 := by omega
                    obtain ⟨r2, HR2⟩ : ∃ r, Hid (rest / base = r) := ⟨_, Lib.hid rfl⟩
                    have hq1 : (rest : Int) / (base : Int) = (r2 : Int) := by rw [← HR2.out]; simp
                    have hr2 : r2 < 4294967296 := by rw [← HR2.out]; exact Nat.lt_of_le_of_lt (Nat.div_le_self _ _) hrl
                    have HPU : Hid (InI base N P c q r2 (i + 1) (D2 ++ [d])) := Lib.hid (by rw [← HD.out, ← HR2.out]; exact hj.out.o.push hb2 hi (Or.inl (Nat.pos_of_ne_zero hr0)))
                    go_wp2_with (at_builtin; go_loud (refine wpList_app8 rfl _ _ rfl W.heap.size wr _ (digCh d) rfl (.slice ao4 n4 cap4) (D2.map digCh) rfl rfl hj.out.bs hj.out.b.size HL4.out ?_; intro v' w' hb' hm' hk' hat'; have HM := Lib.hid hm'; have HB := Lib.hid hb'; have HK := Lib.hid hk'; have HAT := Lib.hid hat'; clear hm' hb' hk' hat'))
                    go_roundw
                    case rel =>
                      refine ⟨r2, i + 1, D2 ++ [d], rfl, by go_num, by omega, hr2, Lib.hid ⟨by rw [List.length_append, hdl.out.1]; simp; omega, fun h => by omega⟩, Lib.hid ⟨?_, ?_, ?_, ?_, hj.out.b.trans HB.out⟩⟩
                      · exact HPU.out
                      · intro k e1 e2
                        rcases HAT.out with h1 | h1
                        · exact hj.out.ap k e1 (h1.symm.trans e2)
                        · have := (hj.out.m.lt k e1).2
                          rw [h1] at e2; cases e2; omega
                      · exact owns_kept hj.out.m HK.out hj.out.ap
                      · rw [List.map_append]; exact HM.out
                    case measure => simp [intOf] <;> omega
              · obtain rfl : i = c := by omega
                have HX : Hid (OuI base N q D2) := Lib.hid (hj.out.o.outer (Or.inl rfl))
                have hlen : n2 < n4 := by
                  have h1 := hdl.out.1
                  have h2 := HN4.out
                  have := hs.out.c1
                  omega
                go_wp2
                go_roundw
                case rel => exact ⟨q, D2, Lib.hid ⟨HX.out, Nat.le_trans (by rw [← HQ.out]; exact nd_div _ _) ho.out.nl, hj.out.m, hj.out.bs, hj.out.b⟩⟩
                case measure => simp; omega
end Go.Proofs.YtkpoegdcmnjedaaDoor
