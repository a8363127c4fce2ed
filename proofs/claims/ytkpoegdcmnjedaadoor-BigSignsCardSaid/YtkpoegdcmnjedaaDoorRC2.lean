import Derived.Test.YtkpoegdcmnjedaaDoorMG1
import Derived.Deep.QuietTactic
import Derived.BigQuiet
namespace Go.Proofs.YtkpoegdcmnjedaaDoor
open Go.RowKit
set_option linter.unusedVariables false
set_option linter.unusedSimpArgs false

/-! ### the reference: digits with base ten, an int each -/
def I64s (l : List Nat) : List Value := l.map fun d : Nat => Value.int .i64 (d : Int)
theorem I64s_length (l : List Nat) : (I64s l).length = l.length := by simp [I64s]
theorem I64s_get {l : List Nat} {i : Nat} (h : i < l.length) : (I64s l)[i]? = some (.int .i64 (dg l i : Int)) := by simp [I64s, dg, h]
theorem I64s_snoc (l : List Nat) (d : Nat) : I64s l ++ [.int .i64 (d : Int)] = I64s (l ++ [d]) := by simp [I64s]
/-- a slice of digits in a block of its own. -/
def N (B : Nat) (W : World) (v : Value) (l : List Nat) : Prop := W.ownsRow B 3 1 v l.length (I64s l)
theorem N.below {B : Nat} {W W' : World} {v : Value} {l : List Nat} (h : N B W v l) (hb : Below W.heap.size W W') : N B W' v l := owns_below h hb
theorem N.later {B k : Nat} {W W' : World} {v : Value} {l : List Nat} (h : N B W v l) (hb : Below k W W') (hk : W.heap.size ≤ k) : N B W' v l := owns_below h (hb.mono hk)
theorem N.mono {B B' : Nat} {W : World} {v : Value} {l : List Nat} (h : N B W v l) (hb : B' ≤ B) : N B' W v l := owns_mono h hb
theorem N.slice {B : Nat} {W : World} {v : Value} {l : List Nat} (h : N B W v l) : ∃ ao cap, v = .slice ao l.length cap ∧ l.length ≤ cap ∧ cap ≤ maxLen := by
  rcases h.2 with ⟨rfl, h0⟩ | ⟨g, cap, cur, rfl, _, _, h1, h2, _⟩
  · exact ⟨none, 0, by rw [h0], by omega, by simp⟩
  · exact ⟨_, cap, rfl, h1, h2⟩
theorem N.block {B : Nat} {W : World} {ao : Option Addr} {n cap : Nat} {l : List Nat} (h : N B W (.slice ao n cap) l) (hl : 0 < n) : ∃ g, ao = some ⟨g, 0, none⟩ ∧ B ≤ g ∧ g < W.heap.size := by
  rcases h.2 with ⟨e, h⟩ | ⟨g, cap, cur, e, h0, h3, h1, h2, _⟩
  · cases e; omega
  · cases e
    exact ⟨g, rfl, h0, (Array.getElem?_eq_some_iff.1 h3).1⟩
theorem N.cell {B : Nat} {W : World} {g n cap : Nat} {l : List Nat} (h : N B W (.slice (some ⟨g, 0, none⟩) n cap) l) {i : Nat} (hi : i < l.length) : W.cell? ⟨g, i, none⟩ = some (.int .i64 (dg l i : Int)) := by
  rcases h.2 with ⟨e, _⟩ | ⟨g, cap, cur, e, _⟩
  · cases e
  · cases e
    rw [World.ownsRow.cellAt h i (by omega), I64s_get hi]
theorem N.nil (B : Nat) (W : World) : N B W (.slice none 0 0) [] := World.ownsRow_nil W B 3 1
theorem N.take {B : Nat} {W : World} {ao : Option Addr} {n cap : Nat} {l : List Nat} (h : N B W (.slice ao n cap) l) {k : Nat} (hk : k ≤ l.length) : N B W (.slice ao k cap) (l.take k) := by
  have hk' : (l.take k).length = k := by rw [List.length_take, Nat.min_eq_left hk]
  unfold N
  rw [hk']
  refine ⟨by rw [I64s_length, hk']; omega, ?_⟩
  rcases h.2 with ⟨e, h0⟩ | ⟨g, cap, cur, e, h0, h1, h2, h3, h4, h5⟩
  · cases e
    have : k = 0 := by omega
    subst this
    exact Or.inl ⟨rfl, rfl⟩
  · cases e
    refine Or.inr ⟨g, cap, cur, rfl, h0, h1, by omega, h3, h4, ?_⟩
    have : I64s (l.take k) = (I64s l).take k := by simp [I64s, List.map_take]
    rw [this, ← h5, List.take_take, Nat.mul_one, Nat.mul_one, Nat.min_eq_left hk]
theorem N.len {B : Nat} {W : World} {ao : Option Addr} {n cap : Nat} {l : List Nat} (h : N B W (.slice ao n cap) l) : n = l.length := by
  rcases h.2 with ⟨e, h0⟩ | ⟨g, cap, cur, e, h0, h1, h2, h3, h4, h5⟩ <;> cases e
  · exact h0.symm
  · rfl

/-- how many decimal digits a number has. -/
def nt (n : Nat) : Nat := (digs 10 n).length
theorem nt_take {l : List Nat} {k : Nat} (h : Dig 10 l) (hk : k ≤ l.length) (hz : ∀ j, k ≤ j → dg l j = 0) (ht : k = 0 ∨ dg l (k - 1) ≠ 0) : k = nt (val 10 l) := by
  have := trim_take (by decide) h hk hz ht
  unfold nt
  rw [← this, List.length_take, Nat.min_eq_left hk]
theorem nt_le {l : List Nat} (h : Dig 10 l) : nt (val 10 l) ≤ l.length := (digs_length_le (by decide)).2 (val_lt h)
theorem take_nt {l : List Nat} (h : Dig 10 l) : l.take (nt (val 10 l)) = digs 10 (val 10 l) := by
  obtain ⟨k, h1, h2, h3⟩ := top_of l
  rw [← nt_take h h1 h2 h3]
  exact trim_take (by decide) h h1 h2 h3
theorem N.trim {B : Nat} {W : World} {ao : Option Addr} {n cap : Nat} {l : List Nat} (h : N B W (.slice ao n cap) l) (hd : Dig 10 l) : N B W (.slice ao (nt (val 10 l)) cap) (digs 10 (val 10 l)) := by
  rw [← take_nt hd]
  exact h.take (nt_le hd)
theorem N.slice3 {B : Nat} {W : World} {v : Value} {l : List Nat} (h : N B W v l) : ∃ ao n cap, v = .slice ao n cap := by
  obtain ⟨ao, cap, h, _⟩ := h.slice
  exact ⟨ao, _, cap, h⟩
theorem N.set {B : Nat} {W : World} {g n cap : Nat} {l : List Nat} (h : N B W (.slice (some ⟨g, 0, none⟩) n cap) l) {i : Nat} (hi : i < l.length) (d : Nat) :
    N B (W.setCell ⟨g, i, none⟩ (.int .i64 (d : Int))) (.slice (some ⟨g, 0, none⟩) n cap) (l.set i d) := by
  obtain rfl := h.len
  have h2 := (World.ownsRow.stored h i (.int .i64 (d : Int))).1
  unfold N
  rw [List.length_set]
  have e : I64s (l.set i d) = (I64s l).set i (.int .i64 (d : Int)) := by simp [I64s, List.map_set]
  rw [e]
  exact h2
theorem N.free {B : Nat} {W : World} {g n cap : Nat} {l : List Nat} (h : N B W (.slice (some ⟨g, 0, none⟩) n cap) l) (i : Nat) : W.frozen? ⟨g, i, none⟩ = false := by
  obtain rfl := h.len
  exact World.ownsRow.frozenAt h i


/-- a row made by make([]int, k, n). -/
theorem make64 (W : World) (k n : Nat) (hk : k ≤ n) (hn : n ≤ 1000000000) : ∃ W1, (Instr.makeSlice 49 (.int .i64 (k : Int)) (.int .i64 (n : Int))).run Tryd.prog W = .ok (.slice (some ⟨W.heap.size, 0, none⟩) k n) W1 ∧
    N W.heap.size W1 (.slice (some ⟨W.heap.size, 0, none⟩) k n) (List.replicate k 0) ∧ Below W.heap.size W W1 ∧ W.heap.size < W1.heap.size := by
  obtain ⟨i0, hi, hinf⟩ := Option.map_eq_some_iff.1 info3
  simp only [Prod.mk.injEq] at hinf
  obtain ⟨hz0, hz1, hz2⟩ := hinf
  have hr := run_make (P := Tryd.prog) W 49 3 i0 _ Tryd.underlying49 hi hz0 .i64 .i64 (k : Int) (n : Int) (by omega) (by omega) (by rw [hz2]; omega) (by omega)
  refine ⟨_, hr, ?_, (Below.refl _ _).alloc (Nat.le_refl _) _, by simp⟩
  unfold N
  rw [List.length_replicate]
  refine ⟨by simp [I64s], Or.inr ⟨W.heap.size, n, _, rfl, Nat.le_refl _, heap_alloc_new W _, hk, by unfold maxLen; omega, ?_, ?_⟩⟩
  · rw [size_madeCells, hz1]; simp
  · have : (Value.int IntKind.i64 0).cells = #[.int .i64 0] := rfl
    rw [this, toList_madeCells_one, hz1]
    simp [I64s, List.take_replicate]
    omega
theorem wpList_app64 {ops : Array Oper} {rest : List Oper} {o : Oper} {a : Act} {Q : Exit → Act → World → Prop} (hgd : o.guard = none) (s x : Operand)
    (ho : o.op = .call { callee := .builtin .append, args := #[s, x], argTypes := #[49, 49] }) (β : Nat) (V : World) (z : Int) (d : Nat) (hz : z = d)
    (v : Value) (l : List Nat) (hs : a.eval s = v) (hx : a.eval x = .slice (some ⟨V.heap.size, 0, none⟩) 1 1) (hm : N β V v l) (hβ : β ≤ V.heap.size) (hn : l.length ≤ 1000000000)
    (h : ∀ v' w', Below β V w' → N β w' v' (l ++ [d]) → (∀ (k : Nat) (ob : Obj), V.heap[k]? = some ob → some k ≠ v.ownBlock → w'.heap[k]? = some ob) → wpList Tryd.prog ops Q rest (a.put o.dst v') w') :
    wpList Tryd.prog ops Q (o :: rest) a (V.alloc (Obj.cells #[.int .i64 z] 3)) := by
  subst hz
  refine wpList_app1 hgd s x 49 3 _ 8 Tryd.underlying49 info3 rfl (by decide) ho β V _ rfl v l.length (I64s l) hs hx hm hβ hn ?_
  intro v' w' hb hown hk
  refine h v' w' hb ?_ hk
  unfold N
  rw [List.length_append, ← I64s_snoc]
  exact hown

set_option maxHeartbeats 400000 in
theorem ref_trimmed_any {B : Nat} {ao : Option Addr} {n cap : Nat} {l : List Nat} {W : World} (h : N B W (.slice ao n cap) l) (hd : Dig 10 l) :
    Calls Tryd.prog 95 #[.slice ao n cap] W fun e W' => e = .returned (.slice ao (nt (val 10 l)) cap) ∧ W = W' := by
  obtain rfl := h.len
  obtain ⟨ao', cap', e, hc1, hc2⟩ := h.slice
  cases e
  unfold maxLen at hc2
  have H := Lib.hid h
  have HD := Lib.hid hd
  clear h hd
  go_enter Tryd.func95, Tryd.ntmps95
  go_wp2
  go_loop [0] (fun v => ∃ k : Nat, k ≤ l.length ∧ v = .slice ao k cap ∧ Hid (∀ j, k ≤ j → dg l j = 0)) (fun v => match v with | .slice _ k _ => k | _ => 0)
  case atStart => exact ⟨_, Nat.le_refl _, rfl, Lib.hid fun j hj => dg_ge hj⟩
  case round =>
    obtain ⟨k, hk, rfl, hz⟩ := hrel
    by_cases hp : 0 < k
    · obtain ⟨g, rfl, _, _⟩ := H.out.block (show 0 < l.length by omega)
      have hcell := H.out.cell (show k - 1 < l.length by omega)
      have e1 : ((k : Int) - 1).toNat = k - 1 := by omega
      by_cases h0 : dg l (k - 1) = 0
      · have HZ : Hid (∀ j, k - 1 ≤ j → dg l j = 0) := Lib.hid fun j hj => by
          by_cases e : j = k - 1
          · rw [e]; exact h0
          · exact hz.out j (by omega)
        rw [h0] at hcell
        clear h0
        go_wp2
        go_round
        case rel => exact ⟨k - 1, by omega, rfl, HZ⟩
        case measure => simp; omega
      · have hne : ((dg l (k - 1) : Int) == 0) = false := by rw [beq_eq_false_iff_ne]; omega
        have HK := Lib.hid (nt_take HD.out hk hz.out (Or.inr h0))
        go_wp2
        go_ret
        exact ⟨by rw [← HK.out]; rfl, rfl⟩
    · obtain rfl : k = 0 := by omega
      have HK := Lib.hid (nt_take HD.out hk hz.out (Or.inl rfl))
      go_wp2
      go_ret
      exact ⟨by rw [← HK.out]; rfl, rfl⟩
end Go.Proofs.YtkpoegdcmnjedaaDoor
namespace Go.Proofs.YtkpoegdcmnjedaaDoor
open Go.RowKit
set_option linter.unusedVariables false
set_option linter.unusedSimpArgs false

set_option maxHeartbeats 400000 in
theorem ref_digit_any {B : Nat} {v : Value} {l : List Nat} {W : World} (h : N B W v l) (i : Nat) (hi : i ≤ 1000000000) :
    Calls Tryd.prog 105 #[v, .int .i64 i] W fun e w' => e = .returned (.int .i64 (dg l i : Int)) ∧ W = w' := by
  obtain ⟨ao, cap, rfl, _, _⟩ := h.slice
  by_cases hlt : i < l.length
  · obtain ⟨g, rfl, _, _⟩ := h.block (show 0 < l.length by omega)
    have hcell := h.cell hlt
    generalize dg l i = d at hcell ⊢
    have H := Lib.hid h
    clear h
    go_enter Tryd.func105, Tryd.ntmps105
    go_wp2
    go_ret
    exact ⟨rfl, rfl⟩
  · rw [dg_ge (by omega)]
    have hd : decide (i < l.length) = false := by simpa using hlt
    clear h
    go_enter Tryd.func105, Tryd.ntmps105
    go_wp2
    go_ret
    exact ⟨rfl, rfl⟩

set_option maxHeartbeats 400000 in
theorem ref_order_any {B B' : Nat} {va vb : Value} {l m : List Nat} {W : World} (ha : N B W va l) (hb : N B' W vb m) (hl : Dig 10 l) (hm : Dig 10 m) (hla : l.length ≤ 1000000) (hlb : m.length ≤ 1000000) :
    Calls Tryd.prog 82 #[va, vb] W fun e W' => e = .returned (.int .i64 (cmpI (val 10 l) (val 10 m))) ∧ W = W' := by
  obtain ⟨aa, ca, rfl, _, _⟩ := ha.slice
  obtain ⟨ab, cb, rfl, _, _⟩ := hb.slice
  have HA := Lib.hid ha
  have HB := Lib.hid hb
  have HL := Lib.hid hl
  have HM := Lib.hid hm
  obtain ⟨c, HC⟩ : ∃ c, Hid (cmpI (val 10 l) (val 10 m) = c) := ⟨_, Lib.hid rfl⟩
  rw [HC.out]
  clear ha hb hl hm
  obtain ⟨q, HQ⟩ : ∃ q : Nat, Hid (max (l.length : Int) (m.length : Int) = (q : Int) ∧ l.length ≤ q ∧ m.length ≤ q ∧ q ≤ 1000000) := ⟨max l.length m.length, Lib.hid (by omega)⟩
  have hq := HQ.out.1
  have hq2 := HQ.out.2.2.2
  have H0 : Hid (cmpI (V 10 l q) (V 10 m q) = c) := Lib.hid (by rw [V_stop _ HQ.out.2.1, V_stop _ HQ.out.2.2.1]; exact HC.out)
  go_enter Tryd.func82, Tryd.ntmps82
  go_wp2
  go_loop [5] (fun iv => ∃ k : Nat, k ≤ q ∧ iv = .int .i64 ((k : Int) - 1) ∧ Hid (cmpI (V 10 l k) (V 10 m k) = c)) (fun iv => (intOf iv + 1).toNat)
  case atStart => exact ⟨q, Nat.le_refl _, rfl, H0⟩
  case round =>
    obtain ⟨k, hk, rfl, hc⟩ := hrel
    by_cases h0 : k = 0
    · subst h0
      have hz : Hid (c = 0) := Lib.hid (by rw [← hc.out]; rfl)
      go_wp2
      go_ret
      exact ⟨by rw [hz.out]; rfl, rfl⟩
    · obtain ⟨i, rfl⟩ : ∃ i, k = i + 1 := ⟨k - 1, by omega⟩
      have hs := cmp_step HL.out HM.out i
      rw [hc.out] at hs
      have e1 : ((i + 1 : Nat) : Int) - 1 = (i : Int) := by omega
      rw [e1]
      have hd1 := ref_digit_any (W := W) HA.out i (by omega)
      have hd2 := ref_digit_any (W := W) HB.out i (by omega)
      obtain ⟨x, HX⟩ : ∃ x, Hid (dg l i = x) := ⟨_, Lib.hid rfl⟩
      obtain ⟨y, HY⟩ : ∃ y, Hid (dg m i = y) := ⟨_, Lib.hid rfl⟩
      rw [HX.out] at hd1 hs
      rw [HY.out] at hd2 hs
      have HS := Lib.hid hs
      have HD1 := Lib.hid hd1
      have HD2 := Lib.hid hd2
      clear hd1 hd2 hs e1
      go_wp2_with fail
      refine HD1.out.mono ?_
      rintro e w1 ⟨rfl, rfl⟩
      go_wp2_with fail
      refine HD2.out.mono ?_
      rintro e w2 ⟨rfl, rfl⟩
      rcases Nat.lt_trichotomy x y with hlt | rfl | hgt
      · have HE : Hid (c = -1) := Lib.hid (by have := HS.out; rwa [if_pos hlt] at this)
        have hne : (x == y) = false := by rw [beq_eq_false_iff_ne]; omega
        go_wp2
        go_ret
        exact ⟨by rw [HE.out] <;> rfl, rfl⟩
      · have HE : Hid (cmpI (V 10 l i) (V 10 m i) = c) := Lib.hid (by have := HS.out; rw [if_neg (by omega), if_neg (by omega)] at this; exact this.symm)
        go_wp2
        go_round
        case rel => exact ⟨i, by omega, rfl, HE⟩
        case measure => simp [intOf] <;> omega
      · have HE : Hid (c = 1) := Lib.hid (by have := HS.out; rwa [if_neg (by omega), if_pos hgt] at this)
        have hne : (x == y) = false := by rw [beq_eq_false_iff_ne]; omega
        have hnl : decide (x < y) = false := by rw [decide_eq_false_iff_not]; omega
        go_wp2
        go_ret
        exact ⟨by rw [HE.out] <;> rfl, rfl⟩
end Go.Proofs.YtkpoegdcmnjedaaDoor
namespace Go.Proofs.YtkpoegdcmnjedaaDoor
open Go.RowKit
set_option linter.unusedVariables false
set_option linter.unusedSimpArgs false

theorem full_digs {b : Nat} {r : List Nat} (hb : 2 ≤ b) (hd : Dig b r) (h : r = [] ∨ b ^ (r.length - 1) ≤ val b r) : digs b (val b r) = r := by
  rcases h with rfl | h
  · rw [val_nil, digs_zero]
  · by_cases e : r = []
    · subst e; rw [val_nil, digs_zero]
    · have hl : 0 < r.length := List.length_pos_iff.2 e
      obtain ⟨k, h1, h2, h3⟩ := top_of r
      have h4 := trim_take hb hd h1 h2 h3
      have h5 : (digs b (val b r)).length ≤ r.length := (digs_length_le hb).2 (val_lt hd)
      have h6 : ¬ (digs b (val b r)).length ≤ r.length - 1 := fun h7 => by
        have := (digs_length_le hb).1 h7
        omega
      rw [← h4] at h6 ⊢
      rw [List.length_take] at h6
      exact List.take_of_length_le (by omega)
theorem digs_low {b n : Nat} (hb : 2 ≤ b) (hn : 0 < (digs b n).length) : b ^ ((digs b n).length - 1) ≤ n := by
  rcases Nat.lt_or_ge n (b ^ ((digs b n).length - 1)) with h | h
  · have := (digs_length_le hb).2 h
    omega
  · exact h

structure PlI (l m : List Nat) (q : Nat) (W wr : World) (v : Value) (i : Nat) (r : List Nat) (c : Nat) : Prop where
  len : r.length = i
  dig : Dig 10 r
  cl : c ≤ 1
  eq : V 10 l i + V 10 m i = val 10 r + 10 ^ i * c
  top : i ≤ q ∨ (i = q + 1 ∧ c = 0 ∧ 10 ^ q ≤ val 10 r)
  m : N W.heap.size wr v r
  b : Below W.heap.size W wr
theorem pl_eq {l m r : List Nat} {i d1 d2 c : Nat} (hr : r.length = i) (h1 : dg l i = d1) (h2 : dg m i = d2) (h : V 10 l i + V 10 m i = val 10 r + 10 ^ i * c) :
    V 10 l (i + 1) + V 10 m (i + 1) = val 10 (r ++ [(d1 + d2 + c) % 10]) + 10 ^ (i + 1) * ((d1 + d2 + c) / 10) := by
  have h3 := Nat.mod_add_div (d1 + d2 + c) 10
  rw [V_succ, V_succ, val_snoc, hr, h1, h2, Nat.pow_succ, Nat.mul_assoc, Nat.add_assoc (val 10 r), ← Nat.mul_add, h3, Nat.mul_add, Nat.mul_add]
  omega
theorem PlI.step {l m : List Nat} {q : Nat} {W wr w' : World} {v v' : Value} {i : Nat} {r : List Nat} {c d1 d2 : Nat} (h : PlI l m q W wr v i r c) (hq : l.length ≤ q ∧ m.length ≤ q)
    (h1 : dg l i = d1) (h2 : dg m i = d2) (h3 : d1 < 10) (h4 : d2 < 10) (hgo : i < q ∨ 0 < c) (hn : N W.heap.size w' v' (r ++ [(d1 + d2 + c) % 10])) (hb : Below W.heap.size wr w') : PlI l m q W w' v' (i + 1) (r ++ [(d1 + d2 + c) % 10]) ((d1 + d2 + c) / 10) := by
  have hcl := h.cl
  refine ⟨by rw [List.length_append, h.len]; rfl, h.dig.snoc (Nat.mod_lt _ (by decide)), by omega, pl_eq h.len h1 h2 h.eq, ?_, hn, h.b.trans hb⟩
  by_cases hi : i < q
  · exact Or.inl (by omega)
  · have hc : c = 1 := by omega
    have hiq : i = q := by rcases h.top with h5 | ⟨h5, h6, _⟩ <;> omega
    subst hiq
    rw [dg_ge hq.1] at h1
    rw [dg_ge hq.2] at h2
    subst h1 h2 hc
    exact Or.inr ⟨rfl, by decide, by rw [val_snoc, h.len]; simp⟩
theorem PlI.done {x y q : Nat} {W wr : World} {v : Value} {i : Nat} {r : List Nat} (h : PlI (digs 10 x) (digs 10 y) q W wr v i r 0) (hq : q = max (nt x) (nt y)) (hi : q ≤ i) : r = digs 10 (x + y) := by
  have e := h.eq
  rw [V_stop _ (by show nt x ≤ i; omega), V_stop _ (by show nt y ≤ i; omega), val_digs (by decide), val_digs (by decide), Nat.mul_zero, Nat.add_zero] at e
  rw [e]
  symm
  refine full_digs (by decide) h.dig ?_
  rw [h.len]
  rcases h.top with h5 | ⟨h5, _, h6⟩
  · obtain rfl : i = q := by omega
    by_cases hz : i = 0
    · left; exact List.length_eq_zero_iff.1 (h.len.trans hz)
    · right
      rw [← e]
      by_cases hx : nt x = i
      · have := digs_low (b := 10) (n := x) (by decide) (by show 0 < nt x; omega)
        have e2 : (digs 10 x).length = i := hx
        rw [e2] at this; omega
      · have hy : nt y = i := by omega
        have := digs_low (b := 10) (n := y) (by decide) (by show 0 < nt y; omega)
        have e2 : (digs 10 y).length = i := hy
        rw [e2] at this; omega
  · right; rw [h5]; exact h6

set_option maxRecDepth 100000 in
set_option maxHeartbeats 1000000 in
theorem ref_plus_any {B B' : Nat} {va vb : Value} {x y : Nat} {W : World} (ha : N B W va (digs 10 x)) (hb : N B' W vb (digs 10 y)) (hla : nt x ≤ 1000000) (hlb : nt y ≤ 1000000) :
    Calls Tryd.prog 114 #[va, vb] W fun e W' => (∃ v', e = .returned v' ∧ N W.heap.size W' v' (digs 10 (x + y))) ∧ Below W.heap.size W W' := by
  obtain ⟨aa, ca, rfl, _, _⟩ := ha.slice
  obtain ⟨ab, cb, rfl, _, _⟩ := hb.slice
  obtain ⟨l, HL⟩ : ∃ l, Hid (digs 10 x = l) := ⟨_, Lib.hid rfl⟩
  obtain ⟨m, HM⟩ : ∃ m, Hid (digs 10 y = m) := ⟨_, Lib.hid rfl⟩
  rw [HL.out] at ha ⊢
  rw [HM.out] at hb ⊢
  have HA := Lib.hid ha
  have HB := Lib.hid hb
  have hll : l.length ≤ 1000000 := by rw [← HL.out]; exact hla
  have hlm : m.length ≤ 1000000 := by rw [← HM.out]; exact hlb
  have DL : Hid (Dig 10 l) := Lib.hid (by rw [← HL.out]; exact digs_dig (by decide) _)
  have DM : Hid (Dig 10 m) := Lib.hid (by rw [← HM.out]; exact digs_dig (by decide) _)
  clear ha hb hla hlb
  obtain ⟨q, HQ⟩ : ∃ q, Hid (q = max l.length m.length) := ⟨_, Lib.hid rfl⟩
  have HI0 : Hid (PlI l m q W W (.slice none 0 0) 0 [] 0) := Lib.hid ⟨rfl, Dig.nil (by decide), by omega, by simp [V, val_nil], Or.inl (by omega), N.nil _ _, Below.refl _ _⟩
  go_enter Tryd.func114, Tryd.ntmps114
  go_wp2
  go_loopw [5, 6, 7] (fun v cv iv wr => ∃ (i : Nat) (r : List Nat) (c : Nat), iv = .int .i64 i ∧ cv = .int .i64 c ∧ i ≤ 1000001 ∧ Hid (PlI l m q W wr v i r c)) (fun _ _ i _ => 1000002 - (intOf i).toNat)
  case atStart => exact ⟨0, [], 0, rfl, rfl, by omega, HI0⟩
  case round =>
    obtain ⟨i, r, c, rfl, rfl, hi, hp⟩ := hrel
    have hcl := hp.out.cl
    have hgo : (i < l.length ∨ i < m.length ∨ 0 < c) ∨ (l.length ≤ i ∧ m.length ≤ i ∧ c = 0) := by omega
    rcases hgo with hgo | ⟨h1, h2, rfl⟩
    · have hi2 : i ≤ 1000000 := by
        have := HQ.out
        rcases hp.out.top with h | ⟨h, h', _⟩ <;> omega
      have HGO : Hid (i < q ∨ 0 < c) := Lib.hid (by have := HQ.out; omega)
      have hBw := hp.out.b.size
      have hA := HA.out.later hp.out.b (Nat.le_refl _)
      have hB := HB.out.later hp.out.b (Nat.le_refl _)
      have hd1 := ref_digit_any hA i (by omega)
      have hd2 := ref_digit_any hB i (by omega)
      have hl1 := DL.out i
      have hl2 := DM.out i
      obtain ⟨d1, HX⟩ : ∃ x, Hid (dg l i = x) := ⟨_, Lib.hid rfl⟩
      obtain ⟨d2, HY⟩ : ∃ y, Hid (dg m i = y) := ⟨_, Lib.hid rfl⟩
      rw [HX.out] at hd1 hl1
      rw [HY.out] at hd2 hl2
      have HD1 := Lib.hid hd1
      have HD2 := Lib.hid hd2
      have E1 : Hid (((d1 : Int) + (d2 : Int) + (c : Int)) % 10 = (((d1 + d2 + c) % 10 : Nat) : Int)) := Lib.hid (by simp)
      have E2 : Hid (((d1 : Int) + (d2 : Int) + (c : Int)) / 10 = (((d1 + d2 + c) / 10 : Nat) : Int)) := Lib.hid (by simp)
      have HLL : Hid (r.length ≤ 1000000000) := Lib.hid (by rw [hp.out.len]; omega)
      clear hd1 hd2 hA hB
      have hgo2 : (i < l.length) ∨ (decide (i < l.length) = false ∧ i < m.length) ∨ (decide (i < l.length) = false ∧ decide (i < m.length) = false ∧ 0 < c) := by
        by_cases h1 : i < l.length
        · exact Or.inl h1
        · by_cases h2 : i < m.length
          · exact Or.inr (Or.inl ⟨by simpa using h1, h2⟩)
          · exact Or.inr (Or.inr ⟨by simpa using h1, by simpa using h2, by omega⟩)
      clear hgo
      rcases hgo2 with h1 | ⟨h1, h2⟩ | ⟨h1, h2, h3⟩
      all_goals
        go_wp2_with fail
        refine HD1.out.mono ?_
        rintro e w1 ⟨rfl, rfl⟩
        go_wp2_with fail
        refine HD2.out.mono ?_
        rintro e w2 ⟨rfl, rfl⟩
        go_wp2_with (at_builtin; go_loud (refine wpList_app64 rfl _ _ rfl W.heap.size wr _ ((d1 + d2 + c) % 10) E1.out u5 r rfl rfl hp.out.m hBw HLL.out ?_; intro v' w' hb' hm' _; have HNN := Lib.hid hm'; have HBB := Lib.hid hb'; clear hm' hb'))
        go_roundw
        case rel => exact ⟨i + 1, r ++ [(d1 + d2 + c) % 10], (d1 + d2 + c) / 10, by go_num, by rw [← E2.out], by omega, Lib.hid (hp.out.step (by have := HQ.out; omega) HX.out HY.out hl1 hl2 HGO.out HNN.out HBB.out)⟩
        case measure => simp [intOf] <;> omega
    · have hd1 : decide (i < l.length) = false := by rw [decide_eq_false_iff_not]; omega
      have hd2 : decide (i < m.length) = false := by rw [decide_eq_false_iff_not]; omega
      go_wp2
      go_ret
      refine ⟨⟨_, rfl, ?_⟩, hp.out.b⟩
      have hp2 := hp.out
      rw [← HL.out, ← HM.out] at hp2
      rw [← hp2.done (by rw [HQ.out, ← HL.out, ← HM.out]; rfl) (by have := HQ.out; omega)]
      exact hp2.m
end Go.Proofs.YtkpoegdcmnjedaaDoor
namespace Go.Proofs.YtkpoegdcmnjedaaDoor
open Go.RowKit
set_option linter.unusedVariables false
set_option linter.unusedSimpArgs false

theorem turned {f : Nat} {args : Array Value} {W : World} {r : Value} (h : Calls Tryd.prog f args W fun e w' => e = .returned r ∧ W = w') : Calls Tryd.prog f args W fun e w' => e = .returned r ∧ w' = W :=
  h.mono fun _ _ ⟨h1, h2⟩ => ⟨h1, h2.symm⟩
theorem below_drewN (B : Nat) (W : World) (n : Nat) : Below B W (W.drewN n) := ⟨rfl, rfl, rfl, Nat.le_refl _, fun _ _ => rfl⟩

/-- a difference's digit and its borrow. -/
def mdg (x y c : Nat) : Nat := if x < y + c then x + 10 - y - c else x - y - c
def mbr (x y c : Nat) : Nat := if x < y + c then 1 else 0
structure MiI (l m : List Nat) (W wr : World) (v : Value) (i : Nat) (r : List Nat) (c : Nat) : Prop where
  len : r.length = i
  dig : Dig 10 r
  cl : c ≤ 1
  eq : val 10 r + V 10 m i = V 10 l i + 10 ^ i * c
  m : N W.heap.size wr v r
  b : Below W.heap.size W wr
theorem mi_eq {l m r : List Nat} {i x y c : Nat} (hr : r.length = i) (h1 : dg l i = x) (h2 : dg m i = y) (hx : x < 10) (hy : y < 10) (hc : c ≤ 1) (h : val 10 r + V 10 m i = V 10 l i + 10 ^ i * c) :
    val 10 (r ++ [mdg x y c]) + V 10 m (i + 1) = V 10 l (i + 1) + 10 ^ (i + 1) * mbr x y c := by
  have h3 : mdg x y c + y + c = x + 10 * mbr x y c := by unfold mdg mbr; split <;> omega
  rw [V_succ, V_succ, val_snoc, hr, h1, h2, Nat.pow_succ, Nat.mul_assoc]
  have h4 : 10 ^ i * (mdg x y c + y + c) = 10 ^ i * (x + 10 * mbr x y c) := by rw [h3]
  rw [Nat.mul_add, Nat.mul_add, Nat.mul_add] at h4
  omega
set_option maxRecDepth 100000 in
set_option maxHeartbeats 1000000 in
theorem ref_minus_any {B B' : Nat} {va vb : Value} {x y : Nat} {W : World} (ha : N B W va (digs 10 x)) (hb : N B' W vb (digs 10 y)) (hla : nt x ≤ 1000000) (hlb : nt y ≤ 1000000) (hle : y ≤ x) :
    Calls Tryd.prog 115 #[va, vb] W fun e W' => (∃ v', e = .returned v' ∧ N W.heap.size W' v' (digs 10 (x - y))) ∧ Below W.heap.size W W' := by
  obtain ⟨aa, ca, rfl, _, _⟩ := ha.slice
  obtain ⟨ab, cb, rfl, _, _⟩ := hb.slice
  have hlm0 : (digs 10 y).length ≤ (digs 10 x).length := (digs_length_le (by decide)).2 (Nat.lt_of_le_of_lt hle ((digs_length_le (by decide)).1 (Nat.le_refl _)))
  obtain ⟨l, HL⟩ : ∃ l, Hid (digs 10 x = l) := ⟨_, Lib.hid rfl⟩
  obtain ⟨m, HM⟩ : ∃ m, Hid (digs 10 y = m) := ⟨_, Lib.hid rfl⟩
  rw [HL.out] at ha hlm0 ⊢
  rw [HM.out] at hb hlm0 ⊢
  have HA := Lib.hid ha
  have HB := Lib.hid hb
  have HLM := Lib.hid hlm0
  have hll : l.length ≤ 1000000 := by rw [← HL.out]; exact hla
  have DL : Hid (Dig 10 l) := Lib.hid (by rw [← HL.out]; exact digs_dig (by decide) _)
  have DM : Hid (Dig 10 m) := Lib.hid (by rw [← HM.out]; exact digs_dig (by decide) _)
  have HV : Hid (val 10 l = x ∧ val 10 m = y) := Lib.hid ⟨by rw [← HL.out, val_digs (by decide)], by rw [← HM.out, val_digs (by decide)]⟩
  clear ha hb hla hlb hlm0
  have HI0 : Hid (MiI l m W W (.slice none 0 0) 0 [] 0) := Lib.hid ⟨rfl, Dig.nil (by decide), by omega, by simp [V, val_nil], N.nil _ _, Below.refl _ _⟩
  go_enter Tryd.func115, Tryd.ntmps115
  go_wp2
  go_loopw [5, 6, 11] (fun v cv iv wr => ∃ (i : Nat) (r : List Nat) (c : Nat), iv = .int .i64 i ∧ cv = .int .i64 c ∧ i ≤ l.length ∧ Hid (MiI l m W wr v i r c)) (fun _ _ i _ => l.length - (intOf i).toNat)
  case atStart => exact ⟨0, [], 0, rfl, rfl, Nat.zero_le _, HI0⟩
  case round =>
    obtain ⟨i, r, c, rfl, rfl, hi, hp⟩ := hrel
    have hcl := hp.out.cl
    have hBw := hp.out.b.size
    by_cases hlt : i < l.length
    · obtain ⟨g, rfl, _, hg⟩ := HA.out.block (show 0 < l.length by omega)
      have hcell := (hp.out.b.cell (p := ⟨g, i, none⟩) hg).trans (HA.out.cell hlt)
      have hB := Lib.hid (HB.out.later hp.out.b (Nat.le_refl _))
      have hl1 := DL.out i
      have hl2 := DM.out i
      obtain ⟨d1, HX⟩ : ∃ x, Hid (dg l i = x) := ⟨_, Lib.hid rfl⟩
      obtain ⟨d2, HY⟩ : ∃ y, Hid (dg m i = y) := ⟨_, Lib.hid rfl⟩
      have HD2 : Hid (∀ n, Calls Tryd.prog 105 #[.slice ab m.length cb, .int .i64 i] (wr.drewN n) fun e w' => e = .returned (.int .i64 (d2 : Int)) ∧ w' = wr.drewN n) := Lib.hid fun n => by
        have := ref_digit_any (hB.out.later (below_drewN _ _ n) (Nat.le_refl _)) i (by omega)
        rw [HY.out] at this
        exact turned this
      rw [HX.out] at hcell hl1
      rw [HY.out] at hl2
      have hs1 : IntKind.i64.wrap ((d1 : Int) - (d2 : Int)) = (d1 : Int) - (d2 : Int) := IntWalk.i64_in _ (by omega)
      have hs2 : IntKind.i64.wrap ((d1 : Int) - (d2 : Int) - (c : Int)) = (d1 : Int) - (d2 : Int) - (c : Int) := IntWalk.i64_in _ (by omega)
      have hi0 : (0 : Int) ≤ (i : Int) := by omega
      have hi1 : (i : Int) < (l.length : Int) := by omega
      go_wp2_with fail
      go_quiet ((go_at_call 105; exact Calls.quiet_of_same (HD2.out _)))
      clear hs1 hs2 hi0 hi1
      have HBN := Lib.hid (below_drewN wr.heap.size wr nq)
      have HLL : Hid (r.length ≤ 1000000000) := Lib.hid (by rw [hp.out.len]; omega)
      have HMR := Lib.hid (hp.out.m.later HBN.out (Nat.le_refl _))
      have HBW : Hid (W.heap.size ≤ (wr.drewN nq).heap.size) := Lib.hid (Nat.le_trans hBw HBN.out.size)
      by_cases hbr : d1 < d2 + c
      · have hn : (d1 : Int) - (d2 : Int) - (c : Int) < 0 := by omega
        have E1 : Hid ((d1 : Int) - (d2 : Int) - (c : Int) + 10 = ((mdg d1 d2 c : Nat) : Int)) := Lib.hid (by unfold mdg; rw [if_pos hbr]; omega)
        have E2 : Hid (1 = mbr d1 d2 c) := Lib.hid (by unfold mbr; rw [if_pos hbr])
        have E3 : Hid (mdg d1 d2 c < 10) := Lib.hid (by unfold mdg; rw [if_pos hbr]; omega)
        clear hbr
        go_wp2_with (at_builtin; go_loud (refine wpList_app64 rfl _ _ rfl W.heap.size (wr.drewN nq) _ (mdg d1 d2 c) E1.out u5 r rfl rfl HMR.out HBW.out HLL.out ?_; intro v' w' hb' hm' _; have HNN := Lib.hid hm'; have HBB := Lib.hid hb'; clear hm' hb'))
        go_roundw
        case rel => exact ⟨i + 1, r ++ [mdg d1 d2 c], mbr d1 d2 c, by go_num, by rw [← E2.out]; rfl, by omega, Lib.hid ⟨by rw [List.length_append, hp.out.len]; rfl, hp.out.dig.snoc E3.out, by rw [← E2.out]; omega, mi_eq hp.out.len HX.out HY.out hl1 hl2 hcl hp.out.eq, HNN.out, hp.out.b.trans ((HBN.out.mono hBw).trans HBB.out)⟩⟩
        case measure => simp [intOf] <;> omega
      · have hn : decide ((d1 : Int) - (d2 : Int) - (c : Int) < 0) = false := by rw [decide_eq_false_iff_not]; omega
        have E1 : Hid ((d1 : Int) - (d2 : Int) - (c : Int) = ((mdg d1 d2 c : Nat) : Int)) := Lib.hid (by unfold mdg; rw [if_neg hbr]; omega)
        have E2 : Hid (0 = mbr d1 d2 c) := Lib.hid (by unfold mbr; rw [if_neg hbr])
        have E3 : Hid (mdg d1 d2 c < 10) := Lib.hid (by unfold mdg; rw [if_neg hbr]; omega)
        have hn2 : 0 ≤ (d1 : Int) - (d2 : Int) - (c : Int) := by omega
        clear hbr
        go_wp2_with (at_builtin; go_loud (refine wpList_app64 rfl _ _ rfl W.heap.size (wr.drewN nq) _ (mdg d1 d2 c) E1.out u5 r rfl rfl HMR.out HBW.out HLL.out ?_; intro v' w' hb' hm' _; have HNN := Lib.hid hm'; have HBB := Lib.hid hb'; clear hm' hb'))
        go_roundw
        case rel => exact ⟨i + 1, r ++ [mdg d1 d2 c], mbr d1 d2 c, by go_num, by rw [← E2.out]; rfl, by omega, Lib.hid ⟨by rw [List.length_append, hp.out.len]; rfl, hp.out.dig.snoc E3.out, by rw [← E2.out]; omega, mi_eq hp.out.len HX.out HY.out hl1 hl2 hcl hp.out.eq, HNN.out, hp.out.b.trans ((HBN.out.mono hBw).trans HBB.out)⟩⟩
        case measure => simp [intOf] <;> omega
    · obtain rfl : i = l.length := by omega
      obtain ⟨ao, n, cap, rfl⟩ := hp.out.m.slice3
      go_wp2_with (go_at_call 95; refine (ref_trimmed_any hp.out.m hp.out.dig).mono ?_; rintro e w2 ⟨rfl, rfl⟩)
      go_ret
      have hc0 : c = 0 ∧ val 10 r = x - y := by
        have h1 := hp.out.eq
        have h2 : V 10 l l.length = x := HV.out.1
        have h3 : V 10 m l.length = y := by rw [V_stop _ HLM.out]; exact HV.out.2
        have h4 := val_lt hp.out.dig
        rw [hp.out.len] at h4
        rw [h2, h3] at h1
        by_cases hc : c = 0
        · subst hc; exact ⟨rfl, by omega⟩
        · obtain rfl : c = 1 := by omega
          omega
      rw [← hc0.2]
      exact ⟨⟨_, rfl, hp.out.m.trim hp.out.dig⟩, hp.out.b⟩
end Go.Proofs.YtkpoegdcmnjedaaDoor
