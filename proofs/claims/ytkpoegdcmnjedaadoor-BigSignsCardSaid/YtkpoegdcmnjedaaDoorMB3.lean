import Derived.Test.YtkpoegdcmnjedaaDoorMB1
import Derived.Test.YtkpoegdcmnjedaaDoorShelf
import Derived.Laws.BitsAllLaws
namespace Go.Proofs.YtkpoegdcmnjedaaDoor
open Go.RowKit
set_option linter.unusedVariables false
set_option linter.unusedSimpArgs false

/-- one cell appended to a row of the call's own. -/
theorem wpList_app1 {ops : Array Oper} {rest : List Oper} {o : Oper} {a : Act} {Q : Exit → Act → World → Prop} (hgd : o.guard = none) (s x : Operand) (t e : Nat) (z : Value) (bytes : Nat)
    (ht : Tryd.prog.underlying t = some (.slice e)) (hinfo : (Tryd.prog.info? e).map (fun i => (i.zero, i.size, i.bytes)) = some (some z, 1, bytes)) (hzc : z.cells.size = 1) (hby : bytes ≤ 8)
    (ho : o.op = .call { callee := .builtin .append, args := #[s, x], argTypes := #[t, t] }) (β : Nat) (V : World) (u : Value) (hone : u.oneCell' = true)
    (v : Value) (n : Nat) (xs : List Value) (hs : a.eval s = v) (hx : a.eval x = .slice (some ⟨V.heap.size, 0, none⟩) 1 1) (hown : V.ownsRow β e 1 v n xs) (hβ : β ≤ V.heap.size) (hn : n ≤ 1000000000)
    (h : ∀ v' w', Below β V w' → w'.ownsRow β e 1 v' (n + 1) (xs ++ [u]) → (∀ (k : Nat) (ob : Obj), V.heap[k]? = some ob → some k ≠ v.ownBlock → w'.heap[k]? = some ob) → wpList Tryd.prog ops Q rest (a.put o.dst v') w') :
    wpList Tryd.prog ops Q (o :: rest) a (V.alloc (Obj.cells #[u] e)) := by
  obtain ⟨i0, hi, hinf⟩ := Option.map_eq_some_iff.1 hinfo
  simp only [Prod.mk.injEq] at hinf
  obtain ⟨hz0, hz1, hz2⟩ := hinf
  have hx0 : (V.alloc (Obj.cells #[u] e)).heap[V.heap.size]? = some (.cells #[u] e (0, 0)) := heap_alloc_new V _
  have hb8 : (n + 1) * bytes ≤ (n + 1) * 8 := Nat.mul_le_mul_left _ hby
  refine wpList_append_own _ hgd s x t ho β e i0 z 1 bytes ht hi hz0 hz1 hz2 hzc (by decide) _ _ _ hs (hown.alloc _) ⟨V.heap.size, 0, none⟩ 1 1 [u] hx rfl ?c1 ?c2 (by unfold maxLen; omega) (by omega) (by simp; omega) ?_
  case c1 =>
    intro j w hj
    have hadd : (⟨V.heap.size, 0, none⟩ : Addr).add j = ⟨V.heap.size, j, none⟩ := by unfold Addr.add; split <;> simp_all
    rw [hadd, cell_of_row _ _ _ _ _ _ hx0]
    simpa using hj
  case c2 =>
    intro w hw
    simp at hw; subst hw; exact hone
  intro v' w' hown' hg _
  have hb : Below β V w' := ((Below.refl β V).alloc hβ _).grown hg (by simp; omega) (fun k e => (hown.lt k e).1)
  refine h v' w' hb hown' ?_
  intro k ob hk hne
  have hlt : k < V.heap.size := lt_of_block hk
  rw [hg.block k (by simp; omega) hne, heap_alloc_old V _ hlt]
  exact hk

theorem M.slice3 {B : Nat} {W : World} {v : Value} {l : List Nat} (h : M B W v l) : ∃ ao n cap, v = .slice ao n cap := by
  obtain ⟨ao, cap, h, _⟩ := h.slice
  exact ⟨ao, _, cap, h⟩
theorem Dig.u32 {l : List Nat} (h : Dig B32 l) (i : Nat) : dg l i < 4294967296 := h i

/-- a row made by make([]uint32, k, n). -/
theorem make32 (W : World) (k n : Nat) (hk : k ≤ n) (hn : n ≤ 1000000000) : ∃ W1, (Instr.makeSlice 44 (.int .i64 (k : Int)) (.int .i64 (n : Int))).run Tryd.prog W = .ok (.slice (some ⟨W.heap.size, 0, none⟩) k n) W1 ∧
    M W.heap.size W1 (.slice (some ⟨W.heap.size, 0, none⟩) k n) (List.replicate k 0) ∧ Below W.heap.size W W1 ∧ W.heap.size < W1.heap.size := by
  obtain ⟨i0, hi, hinf⟩ := Option.map_eq_some_iff.1 info75
  simp only [Prod.mk.injEq] at hinf
  obtain ⟨hz0, hz1, hz2⟩ := hinf
  have hr := run_make (P := Tryd.prog) W 44 75 i0 _ Tryd.underlying44 hi hz0 .i64 .i64 (k : Int) (n : Int) (by omega) (by omega) (by rw [hz2]; omega) (by omega)
  refine ⟨_, hr, ?_, (Below.refl _ _).alloc (Nat.le_refl _) _, by simp⟩
  unfold M
  rw [List.length_replicate]
  refine ⟨by simp [U32s], Or.inr ⟨W.heap.size, n, _, rfl, Nat.le_refl _, heap_alloc_new W _, hk, by unfold maxLen; omega, ?_, ?_⟩⟩
  · rw [size_madeCells, hz1]; simp
  · have : (Value.int IntKind.u32 0).cells = #[.int .u32 0] := rfl
    rw [this, toList_madeCells_one, hz1]
    simp [U32s, List.take_replicate]
    omega

theorem bits_any {B : Nat} {v : Value} {l : List Nat} {W : World} (h : M B W v l) (hd : Dig B32 l) (hl : l.length ≤ 1000000) :
    Calls Tryd.prog 81 #[v] W fun e W' => e = .returned (.int .i64 (if l.length = 0 then 0 else (l.length - 1) * 32 + Lib.bitLen (dg l (l.length - 1)) : Nat)) ∧ W = W' := by
  obtain ⟨ao, cap, rfl, hc1, hc2⟩ := h.slice
  by_cases h0 : l.length = 0
  · have e0 : l = [] := List.length_eq_zero_iff.1 h0
    subst e0
    clear h hd hl h0
    simp only [List.length_nil]
    go_enter Tryd.func81, Tryd.ntmps81
    go_wp2
    go_ret
    exact ⟨rfl, rfl⟩
  · obtain ⟨g, rfl, _, _⟩ := h.block (show 0 < l.length by omega)
    have hcell := h.cell (show l.length - 1 < l.length by omega)
    have hx := hd.u32 (l.length - 1)
    have e1 : ((l.length : Int) - 1).toNat = l.length - 1 := by omega
    have e2 : 1 ≤ l.length := by omega
    rw [if_neg h0]
    generalize dg l (l.length - 1) = d at hcell hx
    have hb : Lib.bitLen d ≤ 32 := Lib.bitLen_le d 32 (by omega) hx
    have HB := Lib.hid h
    clear h hd h0
    generalize hn : l.length = n at *
    clear hn
    go_enter Tryd.func81, Tryd.ntmps81
    go_wp2_with fail
    refine (Tryd.bits_Len32 d _ (by omega) (by omega)).mono ?_
    rintro e w' ⟨rfl, rfl⟩
    go_wp2
    go_ret
    exact ⟨by congr 2; simp; omega, rfl⟩

theorem mul_le32 {x y : Nat} (hx : x < 4294967296) (hy : y < 4294967296) : x * y ≤ 4294967295 * 4294967295 := Nat.mul_le_mul (by omega) (by omega)
theorem mul_small {x y c : Nat} (hx : x < 4294967296) (hy : y < 4294967296) (hc : c < 4294967296) : (x : Int) * (y : Int) + (c : Int) ≤ 18446744073709551615 ∧ 0 ≤ (x : Int) * (y : Int) := by
  have h := mul_le32 hx hy
  rw [← Int.natCast_mul]
  omega
theorem scaled_carry {x y c : Nat} (hx : x < 4294967296) (hy : y < 4294967296) (hc : c < 4294967296) : (x * y + c) / B32 < 4294967296 := by
  have h := mul_le32 hx hy
  show (x * y + c) / 4294967296 < _
  omega
theorem scaled_step {l r : List Nat} {k x y c carry : Nat} (hr : r.length = k) (hx : dg l k = x) (h : V B32 l k * y + c = val B32 r + B32 ^ k * carry) :
    V B32 l (k + 1) * y + c = val B32 (r ++ [(x * y + carry) % B32]) + B32 ^ (k + 1) * ((x * y + carry) / B32) := by
  have h1 := Nat.mod_add_div (x * y + carry) B32
  rw [V_succ, val_snoc, hr, hx, Nat.pow_succ, Nat.add_mul, Nat.mul_assoc (B32 ^ k) B32, Nat.add_assoc (val B32 r), ← Nat.mul_add, h1, Nat.mul_add, Nat.mul_assoc]
  omega

theorem wpList_app32 {ops : Array Oper} {rest : List Oper} {o : Oper} {a : Act} {Q : Exit → Act → World → Prop} (hgd : o.guard = none) (s x : Operand)
    (ho : o.op = .call { callee := .builtin .append, args := #[s, x], argTypes := #[44, 44] }) (β : Nat) (V : World) (z : Int) (d : Nat) (hz : z = d)
    (v : Value) (l : List Nat) (hs : a.eval s = v) (hx : a.eval x = .slice (some ⟨V.heap.size, 0, none⟩) 1 1) (hm : M β V v l) (hβ : β ≤ V.heap.size) (hn : l.length ≤ 1000000000)
    (h : ∀ v' w', Below β V w' → M β w' v' (l ++ [d]) → (∀ (k : Nat) (ob : Obj), V.heap[k]? = some ob → some k ≠ v.ownBlock → w'.heap[k]? = some ob) → wpList Tryd.prog ops Q rest (a.put o.dst v') w') :
    wpList Tryd.prog ops Q (o :: rest) a (V.alloc (Obj.cells #[.int .u32 z] 75)) := by
  subst hz
  refine wpList_app1 hgd s x 44 75 _ 4 Tryd.underlying44 info75 rfl (by decide) ho β V _ rfl v l.length (U32s l) hs hx hm hβ hn ?_
  intro v' w' hb hown hk
  refine h v' w' hb ?_ hk
  unfold M
  rw [List.length_append, ← U32s_snoc]
  exact hown

/-- so far, r and the carry stand for a beginning. -/
structure ScI (l : List Nat) (y c B : Nat) (W wr : World) (v : Value) (k : Nat) (r : List Nat) (carry : Nat) : Prop where
  len : r.length = k
  dig : Dig B32 r
  cl : carry < 4294967296
  eq : V B32 l k * y + c = val B32 r + B32 ^ k * carry
  m : M B wr v r
  b : Below B W wr

set_option maxRecDepth 100000 in
set_option maxHeartbeats 1000000 in
theorem scaled_any {B : Nat} {v : Value} {l : List Nat} {W : World} (y c : Nat) (h : M B W v l) (hd : Dig B32 l) (hl : l.length ≤ 1000000) (hy : y < 4294967296) (hc : c < 4294967296) :
    Calls Tryd.prog 130 #[v, .int .u32 y, .int .u32 c] W fun e W' => (∃ v', e = .returned v' ∧ M W.heap.size W' v' (digs B32 (val B32 l * y + c))) ∧ Below W.heap.size W W' := by
  obtain ⟨ao, cap, rfl, hc1, hc2⟩ := h.slice
  have H := Lib.hid h
  have HD := Lib.hid hd
  clear h hd
  obtain ⟨W1, hmk, hm0, hb0, hs0⟩ := make32 W 0 (l.length + 1) (by omega) (by omega)
  have ec : ((l.length + 1 : Nat) : Int) = (l.length : Int) + 1 := by omega
  have ez : ((0 : Nat) : Int) = 0 := rfl
  rw [ec, ez] at hmk
  have HI0 : Hid (ScI l y c W.heap.size W W1 (.slice (some ⟨W.heap.size, 0, none⟩) 0 (l.length + 1)) 0 [] c) := Lib.hid ⟨rfl, Dig.nil (by decide), hc, by simp [V, val_nil], hm0, hb0⟩
  clear hm0 hb0 ec ez
  go_enter Tryd.func130, Tryd.ntmps130
  go_wp2
  go_loopw [7, 8, 20] (fun v cv iv wr => ∃ (k : Nat) (r : List Nat) (carry : Nat), iv = .int .i64 k ∧ cv = .int .u64 carry ∧ k ≤ l.length ∧ Hid (ScI l y c W.heap.size W wr v k r carry)) (fun _ _ i _ => l.length - (intOf i).toNat)
  case atStart => exact ⟨0, [], c, rfl, rfl, Nat.zero_le _, HI0⟩
  case round =>
    obtain ⟨k, r, carry, rfl, rfl, hk, hi⟩ := hrel
    by_cases hlt : k < l.length
    · obtain ⟨g, rfl, _, _⟩ := H.out.block (show 0 < l.length by omega)
      have hBw := hi.out.b.size
      have hcell := (hi.out.b.cell (p := ⟨g, k, none⟩) (by assumption)).trans (H.out.cell hlt)
      have hx := HD.out.u32 k
      generalize hxe : dg l k = x at hcell hx
      have HX := Lib.hid hxe
      clear hxe
      have hcl := hi.out.cl
      have hxy := (mul_small hx hy hcl).1
      have hx0 := (mul_small hx hy hcl).2
      have E1 : Hid (((x : Int) * (y : Int) + (carry : Int)) % 4294967296 = (((x * y + carry) % B32 : Nat) : Int)) := Lib.hid (by simp)
      have E2 : Hid (((x : Int) * (y : Int) + (carry : Int)) / 4294967296 = (((x * y + carry) / B32 : Nat) : Int)) := Lib.hid (by simp)
      have HL : Hid (r.length ≤ 1000000000) := Lib.hid (by rw [hi.out.len]; omega)
      go_wp2_with (at_builtin; go_loud (refine wpList_app32 rfl _ _ rfl W.heap.size wr _ ((x * y + carry) % B32) E1.out u7 r rfl rfl hi.out.m hBw HL.out ?_; intro v' w' hb' hm' _; have HM := Lib.hid hm'; have HB := Lib.hid hb'; clear hm' hb'))
      go_roundw
      case rel => exact ⟨k + 1, r ++ [(x * y + carry) % B32], (x * y + carry) / B32, by go_num, by rw [← E2.out], by omega, Lib.hid ⟨by rw [List.length_append, hi.out.len]; rfl, hi.out.dig.snoc (Nat.mod_lt _ (by decide)), scaled_carry hx hy hcl, scaled_step hi.out.len HX.out hi.out.eq, HM.out, hi.out.b.trans HB.out⟩⟩
      case measure => simp [intOf]; omega
    · obtain rfl : k = l.length := by omega
      have HL : Hid (r.length ≤ 1000000000) := Lib.hid (by rw [hi.out.len]; omega)
      have hcl := hi.out.cl
      have hBw := hi.out.b.size
      go_wp2_with (at_builtin; go_loud (refine wpList_app32 rfl _ _ rfl W.heap.size wr _ carry rfl u7 r rfl rfl hi.out.m hBw HL.out ?_; intro v' w' hb' hm' _; have HM := Lib.hid hm'; have HB := Lib.hid hb'; clear hm' hb'; obtain ⟨ao', n', cap', rfl⟩ := HM.out.slice3))
      have HDD : Hid (Dig B32 (r ++ [carry])) := Lib.hid (hi.out.dig.snoc hcl)
      refine (trimmed_any HM.out HDD.out).mono ?_
      rintro e w2 ⟨rfl, rfl⟩
      go_wp2
      go_ret
      refine ⟨⟨_, rfl, ?_⟩, hi.out.b.trans HB.out⟩
      have hE : val B32 (r ++ [carry]) = val B32 l * y + c := by rw [val_snoc, hi.out.len, ← hi.out.eq]; rfl
      rw [← hE]
      exact HM.out.trim HDD.out
end Go.Proofs.YtkpoegdcmnjedaaDoor
namespace Go.Proofs.YtkpoegdcmnjedaaDoor
open Go.RowKit
set_option linter.unusedVariables false
set_option linter.unusedSimpArgs false

theorem val_drop {b : Nat} {l : List Nat} {k : Nat} (h : k < l.length) : val b (l.drop k) = dg l k + b * val b (l.drop (k + 1)) := by
  rw [List.drop_eq_getElem_cons h, val_cons]
  simp [dg, h]
theorem or_add {a x i : Nat} (hx : x < 2 ^ i) : a * 2 ^ i ||| x = a * 2 ^ i + x := by
  have := Nat.shiftLeft_add_eq_or_of_lt hx a
  rw [Nat.shiftLeft_eq] at this
  exact this.symm
theorem or64 {a x i : Nat} (hx : x < 2 ^ i) (ha : a * 2 ^ i < 18446744073709551616) (h64 : x < 18446744073709551616) : bits .or .u64 ((a * 2 ^ i : Nat) : Int) (x : Int) = ((a * 2 ^ i + x : Nat) : Int) := by
  rw [u64_or_nat _ _ ha h64, or_add hx]
theorem or32 {a x i : Nat} (hx : x < 2 ^ i) (ha : a * 2 ^ i < 4294967296) (h32 : x < 4294967296) : bits .or .u32 ((a * 2 ^ i : Nat) : Int) (x : Int) = ((a * 2 ^ i + x : Nat) : Int) := by
  rw [u32_or_nat _ _ ha h32, or_add hx]
theorem or_top {a x : Nat} (ha : a < 4294967296) (hx : x < 4294967296) : bits .or .u64 ((a : Int) * 4294967296) (x : Int) = ((a * 4294967296 + x : Nat) : Int) := by
  have := or64 (a := a) (x := x) (i := 32) (by simpa using hx) (by omega) (by omega)
  simpa using this
/-! ### parted -/
theorem Dig.set {b : Nat} {l : List Nat} (h : Dig b l) {d : Nat} (hd : d < b) (k : Nat) : Dig b (l.set k d) := by
  refine Dig.mem (Nat.lt_of_le_of_lt (Nat.zero_le _) hd) fun x hx => ?_
  rcases List.mem_or_eq_of_mem_set hx with h1 | rfl
  · exact h.of x h1
  · exact hd
theorem div_of {a y q r : Nat} (h : a = y * q + r) (hr : r < y) : a / y = q ∧ a % y = r := by
  subst h
  rw [Nat.mul_add_div (by omega), Nat.mul_add_mod, Nat.div_eq_of_lt hr, Nat.mod_eq_of_lt hr]
  exact ⟨rfl, rfl⟩
theorem parted_quo {rest x y : Nat} (hr : rest < y) (hx : x < B32) : (rest * B32 + x) / y < B32 := by
  refine Nat.div_lt_of_lt_mul ?_
  have h := Nat.mul_le_mul_right B32 (show rest + 1 ≤ y from hr)
  rw [Nat.add_mul] at h
  omega
theorem parted_step {l r : List Nat} {k x y rest : Nat} (hk : k < l.length) (hr : r.length = l.length) (hx : dg l k = x) (h : val B32 (l.drop (k + 1)) = y * val B32 (r.drop (k + 1)) + rest) :
    val B32 (l.drop k) = y * val B32 ((r.set k ((rest * B32 + x) / y)).drop k) + (rest * B32 + x) % y := by
  have h1 := Nat.div_add_mod (rest * B32 + x) y
  have e : ((r.set k ((rest * B32 + x) / y)).drop k) = ((rest * B32 + x) / y) :: r.drop (k + 1) := by
    rw [List.drop_eq_getElem_cons (by rw [List.length_set]; omega), List.getElem_set_self, List.drop_set_of_lt (by omega)]
  rw [e, val_cons, val_drop hk, hx, h, Nat.mul_add y]
  generalize val B32 (List.drop (k + 1) r) = z at *
  generalize (rest * B32 + x) / y = q at *
  rw [Nat.mul_add, Nat.mul_left_comm y B32 z, Nat.mul_comm B32 rest]
  omega
theorem M.set {B : Nat} {W : World} {g n cap : Nat} {l : List Nat} (h : M B W (.slice (some ⟨g, 0, none⟩) n cap) l) {i : Nat} (hi : i < l.length) (d : Nat) :
    M B (W.setCell ⟨g, i, none⟩ (.int .u32 (d : Int))) (.slice (some ⟨g, 0, none⟩) n cap) (l.set i d) := by
  obtain rfl := h.len
  have h2 := (World.ownsRow.stored h i (.int .u32 (d : Int))).1
  unfold M
  rw [List.length_set]
  have e : U32s (l.set i d) = (U32s l).set i (.int .u32 (d : Int)) := by simp [U32s, List.map_set]
  rw [e]
  exact h2
theorem M.free {B : Nat} {W : World} {g n cap : Nat} {l : List Nat} (h : M B W (.slice (some ⟨g, 0, none⟩) n cap) l) (i : Nat) : W.frozen? ⟨g, i, none⟩ = false := by
  obtain rfl := h.len
  exact World.ownsRow.frozenAt h i

structure PaI (l : List Nat) (y g : Nat) (W wr : World) (k : Nat) (r : List Nat) (rest : Nat) : Prop where
  len : r.length = l.length
  dig : Dig B32 r
  rl : rest < y
  eq : val B32 (l.drop k) = y * val B32 (r.drop k) + rest
  m : M W.heap.size wr (.slice (some ⟨g, 0, none⟩) l.length l.length) r
  b : Below W.heap.size W wr

set_option maxRecDepth 100000 in
set_option maxHeartbeats 1000000 in
theorem parted_any {B : Nat} {v : Value} {l : List Nat} {W : World} (y : Nat) (h : M B W v l) (hd : Dig B32 l) (hl : l.length ≤ 1000000) (hy : y < 4294967296) (hy0 : 0 < y) :
    Calls Tryd.prog 128 #[v, .int .u32 y] W fun e W' => (∃ v', e = .returned (.tuple #[v', .int .u32 ((val B32 l % y : Nat) : Int)]) ∧ M W.heap.size W' v' (digs B32 (val B32 l / y))) ∧ Below W.heap.size W W' := by
  obtain ⟨ao, cap, rfl, hc1, hc2⟩ := h.slice
  have H := Lib.hid h
  have HD := Lib.hid hd
  clear h hd
  obtain ⟨W1, hmk, hm0, hb0, hs0⟩ := make32 W l.length l.length (by omega) (by omega)
  have HI0 : Hid (PaI l y W.heap.size W W1 l.length (List.replicate l.length 0) 0) := Lib.hid ⟨by simp, Dig.mem (by decide) (by simp), hy0, by simp [val_nil], hm0, hb0⟩
  generalize hg1 : W.heap.size = g1 at HI0 hmk hs0 ⊢
  have HG1 := Lib.hid hg1
  clear hm0 hb0 hg1
  go_enter Tryd.func128, Tryd.ntmps128
  go_wp2
  go_loopw [7, 8] (fun rv iv wr => ∃ (k : Nat) (r : List Nat) (rest : Nat), iv = .int .i64 ((k : Int) - 1) ∧ rv = .int .u64 rest ∧ k ≤ l.length ∧ Hid (PaI l y g1 W wr k r rest)) (fun _ i _ => (intOf i + 1).toNat)
  case atStart => exact ⟨l.length, _, 0, rfl, rfl, Nat.le_refl _, HI0⟩
  case round =>
    obtain ⟨k, r, rest, rfl, rfl, hk, hi⟩ := hrel
    by_cases hlt : 0 < k
    · obtain ⟨k, rfl⟩ : ∃ k', k = k' + 1 := ⟨k - 1, by omega⟩
      have ek : ((k + 1 : Nat) : Int) - 1 = (k : Int) := by omega
      rw [ek]
      obtain ⟨g, rfl, _, _⟩ := H.out.block (show 0 < l.length by omega)
      have hcell := (hi.out.b.cell (p := ⟨g, k, none⟩) (by assumption)).trans (H.out.cell (show k < l.length by omega))
      have hx := HD.out.u32 k
      generalize hxe : dg l k = x at hcell hx
      have HX := Lib.hid hxe
      clear hxe
      have hrl := hi.out.rl
      have hc2 := hi.out.m.cell (show k < r.length by rw [hi.out.len]; omega)
      have hf2 := hi.out.m.free k
      have hrl2 : rest < 4294967296 := by omega
      have hor := or_top hrl2 hx
      have hq : (rest * 4294967296 + x) / y < 4294967296 := parted_quo hrl hx
      have hv : rest * 4294967296 + x ≤ 18446744073709551615 := by omega
      have hm : (rest * 4294967296 + x) % y < y := Nat.mod_lt _ hy0
      have HS : Hid (val B32 (l.drop k) = y * val B32 ((r.set k ((rest * B32 + x) / y)).drop k) + (rest * B32 + x) % y) := Lib.hid (parted_step (by omega) hi.out.len HX.out hi.out.eq)
      obtain ⟨v, HVE⟩ : ∃ v : Nat, Hid (v = rest * 4294967296 + x) := ⟨_, Lib.hid rfl⟩
      rw [← HVE.out] at hor hq hv hm
      obtain ⟨q, HQE⟩ : ∃ q : Nat, Hid (q = v / y) := ⟨_, Lib.hid rfl⟩
      have hqi : (v : Int) / (y : Int) = (q : Int) := by rw [HQE.out]; simp
      have HMI : Hid ((v : Int) % (y : Int) = ((v % y : Nat) : Int)) := Lib.hid (by simp)
      rw [← HQE.out] at hq
      go_wp2
      go_roundw
      case rel =>
        refine ⟨k, r.set k q, v % y, rfl, by rw [← HMI.out], by omega, Lib.hid ⟨by rw [List.length_set]; exact hi.out.len, ?_, hm, ?_, ?_, hi.out.b.setCell (by have := HG1.out; simp; omega) _⟩⟩
        · exact hi.out.dig.set hq k
        · rw [HQE.out, HVE.out]; exact HS.out
        · exact hi.out.m.set (by rw [hi.out.len]; omega) q
      case measure => simp [intOf] <;> omega
    · obtain rfl : k = 0 := by omega
      have ek : ((0 : Nat) : Int) - 1 = -1 := rfl
      rw [ek]
      have hrl := hi.out.rl
      go_wp2_with (go_at_call 125; refine (trimmed_any hi.out.m hi.out.dig).mono ?_; rintro e w2 ⟨rfl, rfl⟩)
      go_ret2
      obtain ⟨h1, h2⟩ := div_of (show val B32 l = y * val B32 r + rest from hi.out.eq) hrl
      rw [h1, h2]
      have hle : g1 ≤ W.heap.size := by rw [HG1.out]; exact Nat.le_refl _
      exact ⟨⟨_, rfl, (hi.out.m.trim hi.out.dig).mono hle⟩, hi.out.b.mono hle⟩
end Go.Proofs.YtkpoegdcmnjedaaDoor
