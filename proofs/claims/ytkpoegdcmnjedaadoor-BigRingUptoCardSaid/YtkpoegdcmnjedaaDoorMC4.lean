import Derived.Test.YtkpoegdcmnjedaaDoorMC3
namespace Go.Proofs.YtkpoegdcmnjedaaDoor
open Go.RowKit Go.Shelf
set_option linter.unusedVariables false
set_option linter.unusedSimpArgs false
attribute [local go_sem] Oper.semAt_some

theorem wpListIn_app32 {F : Fence} {N : Nat} {ops : Array Oper} {rest : List Oper} {o : Oper} {a : Act} {Q : Exit → Act → World → Prop} (hgd : o.guard = none) (s x : Operand)
    (ho : o.op = .call { callee := .builtin .append, args := #[s, x], argTypes := #[44, 44] }) (β : Nat) (V : World) (z : Int) (d : Nat) (hz : z = d) (g0 : Nat) (hg0 : g0 = V.heap.size)
    (v : Value) (l : List Nat) (hs : a.eval s = v) (hx : a.eval x = .slice (some ⟨g0, 0, none⟩) 1 1) (hm : M β V v l) (hβ : β ≤ V.heap.size) (hn : l.length ≤ 1000000000)
    (h : ∀ v' w', Below β V w' → M β w' v' (l ++ [d]) → (∀ (k : Nat) (ob : Obj), V.heap[k]? = some ob → some k ≠ v.ownBlock → w'.heap[k]? = some ob) → wpListIn F N Tryd.prog ops Q rest (a.put o.dst v') w') :
    wpListIn F N Tryd.prog ops Q (o :: rest) a (V.alloc (Obj.cells #[.int .u32 z] 75)) := by
  subst hz
  subst hg0
  obtain ⟨i0, hi, hinf⟩ := Option.map_eq_some_iff.1 info75
  simp only [Prod.mk.injEq] at hinf
  obtain ⟨hz0, hz1, hz2⟩ := hinf
  have hx0 : (V.alloc (Obj.cells #[.int .u32 (d : Int)] 75)).heap[V.heap.size]? = some (.cells #[.int .u32 (d : Int)] 75 (0, 0)) := heap_alloc_new V _
  refine wpListIn_append_own _ hgd s x 44 ho β 75 i0 _ 1 4 Tryd.underlying44 hi hz0 hz1 hz2 rfl (by decide) _ _ _ hs (hm.alloc _) ⟨V.heap.size, 0, none⟩ 1 1 [.int .u32 (d : Int)] hx rfl ?c1 ?c2 (by unfold maxLen; omega) (by omega) (by simp; omega) ?_
  case c1 =>
    intro j w hj
    have hadd : (⟨V.heap.size, 0, none⟩ : Addr).add j = ⟨V.heap.size, j, none⟩ := by unfold Addr.add; split <;> simp_all
    rw [hadd, cell_of_row _ _ _ _ _ _ hx0]
    simpa using hj
  case c2 =>
    intro w hw
    simp at hw; subst hw; rfl
  intro v' w' hown' hg _
  have hb : Below β V w' := ((Below.refl β V).alloc hβ _).grown hg (by simp; omega) (fun k e => (hm.lt k e).1)
  refine h v' w' hb ?_ ?_
  · unfold M
    rw [List.length_append, ← U32s_snoc]
    exact hown'
  · intro k ob hk hne
    have hlt : k < V.heap.size := lt_of_block hk
    rw [hg.block k (by simp; omega) hne, heap_alloc_old V _ hlt]
    exact hk

/-! ### the sums and differences of digits -/
theorem add32_any (x y c : Nat) (w : World) (hx : x < 4294967296) (hy : y < 4294967296) (hc : c ≤ 1) :
    Calls Tryd.prog 135 #[.int .u32 x, .int .u32 y, .int .u32 c] w fun e w' => e = .returned (.tuple #[.int .u32 (((x + y + c) % 4294967296 : Nat) : Int), .int .u32 (((x + y + c) / 4294967296 : Nat) : Int)]) ∧ w = w' := by
  go_enter Tryd.func135, Tryd.ntmps135
  go_wp2
  go_ret2
  exact ⟨by simp, rfl⟩

theorem add32_to {x y c d c' : Nat} (w : World) (hx : x < 4294967296) (hy : y < 4294967296) (hc : c ≤ 1) (hd : d = (x + y + c) % 4294967296) (hc' : c' = (x + y + c) / 4294967296) :
    Calls Tryd.prog 135 #[.int .u32 x, .int .u32 y, .int .u32 c] w fun e w' => e = .returned (.tuple #[.int .u32 (d : Int), .int .u32 (c' : Int)]) ∧ w = w' := by
  subst hd
  subst hc'
  exact add32_any x y c w hx hy hc
theorem top32 {n : Nat} (h : n < 4294967296) : n / 2147483648 = if 2147483648 ≤ n then 1 else 0 := by split <;> omega
theorem testBit31 {n : Nat} (h : n < 4294967296) : n.testBit 31 = decide (2147483648 ≤ n) := by
  rw [Nat.testBit_eq_decide_div_mod_eq]
  have : n / 2 ^ 31 = n / 2147483648 := rfl
  rw [this, top32 h]
  split <;> simp_all
/-- what is borrowed. -/
def brw (x y b : Nat) : Nat := if x < y + b then 1 else 0
def dif (x y b : Nat) : Nat := x + brw x y b * 4294967296 - y - b
theorem dif_lt {x y b : Nat} (hx : x < 4294967296) (hy : y < 4294967296) (hb : b ≤ 1) : dif x y b < 4294967296 := by unfold dif brw; split <;> omega
theorem dif_eq {x y b : Nat} (hx : x < 4294967296) (hy : y < 4294967296) (hb : b ≤ 1) : dif x y b + y + b = x + brw x y b * 4294967296 := by unfold dif brw; split <;> omega
theorem brw_le (x y b : Nat) : brw x y b ≤ 1 := by unfold brw; split <;> omega
theorem borrow_nat {x y b : Nat} (hx : x < 4294967296) (hy : y < 4294967296) (hb : b ≤ 1) :
    (((4294967295 ^^^ x) &&& y) ||| ((4294967295 ^^^ (x ^^^ y)) &&& dif x y b)) / 2147483648 = brw x y b := by
  have hd := dif_lt hx hy hb
  have hlt : (((4294967295 ^^^ x) &&& y) ||| ((4294967295 ^^^ (x ^^^ y)) &&& dif x y b)) < 4294967296 :=
    Nat.or_lt_two_pow (n := 32) (Nat.and_lt_two_pow _ hy) (Nat.and_lt_two_pow _ hd)
  rw [top32 hlt]
  have h := testBit31 hlt
  simp only [Nat.testBit_or, Nat.testBit_and, Nat.testBit_xor, testBit31 hx, testBit31 hy, testBit31 hd] at h
  have h1 : (4294967295 : Nat).testBit 31 = true := by decide
  rw [h1] at h
  have he := dif_eq hx hy hb
  unfold brw at *
  by_cases c0 : 2147483648 ≤ (((4294967295 ^^^ x) &&& y) ||| ((4294967295 ^^^ (x ^^^ y)) &&& dif x y b))
  · rw [if_pos c0]
    rw [decide_eq_true c0] at h
    by_cases c1 : 2147483648 ≤ x <;> by_cases c2 : 2147483648 ≤ y <;> by_cases c3 : 2147483648 ≤ dif x y b <;> simp [c1, c2, c3] at h <;> split <;> simp_all <;> omega
  · rw [if_neg c0]
    rw [decide_eq_false c0] at h
    by_cases c1 : 2147483648 ≤ x <;> by_cases c2 : 2147483648 ≤ y <;> by_cases c3 : 2147483648 ≤ dif x y b <;> simp [c1, c2, c3] at h <;> split <;> simp_all <;> omega
theorem sub32_any (x y b : Nat) (w : World) (hx : x < 4294967296) (hy : y < 4294967296) (hb : b ≤ 1) :
    Calls Tryd.prog 136 #[.int .u32 x, .int .u32 y, .int .u32 b] w fun e w' => e = .returned (.tuple #[.int .u32 ((dif x y b : Nat) : Int), .int .u32 ((brw x y b : Nat) : Int)]) ∧ w = w' := by
  have hs : IntKind.u32.signed = false := rfl
  have hmx : IntKind.u32.max = ((4294967295 : Nat) : Int) := rfl
  have hd := dif_lt hx hy hb
  have H0 : ((x : Int) - (y : Int) - (b : Int)) % 4294967296 = ((dif x y b : Nat) : Int) := by unfold dif brw; split <;> omega
  have H1 : bits .xor .u32 ((4294967295 : Nat) : Int) (x : Int) = ((4294967295 ^^^ x : Nat) : Int) := u32_xor_nat _ _ (by decide) hx
  have H2 : bits .xor .u32 (x : Int) (y : Int) = ((x ^^^ y : Nat) : Int) := u32_xor_nat _ _ hx hy
  have hxy : x ^^^ y < 4294967296 := Nat.xor_lt_two_pow (n := 32) hx hy
  have hnx : 4294967295 ^^^ x < 4294967296 := Nat.xor_lt_two_pow (n := 32) (by decide) hx
  have hnxy : 4294967295 ^^^ (x ^^^ y) < 4294967296 := Nat.xor_lt_two_pow (n := 32) (by decide) hxy
  have H3 : bits .xor .u32 ((4294967295 : Nat) : Int) ((x ^^^ y : Nat) : Int) = ((4294967295 ^^^ (x ^^^ y) : Nat) : Int) := u32_xor_nat _ _ (by decide) hxy
  have H4 : bits .and .u32 ((4294967295 ^^^ x : Nat) : Int) (y : Int) = (((4294967295 ^^^ x) &&& y : Nat) : Int) := u32_and_nat _ _ hnx hy
  have H5 : bits .and .u32 ((4294967295 ^^^ (x ^^^ y) : Nat) : Int) ((dif x y b : Nat) : Int) = (((4294967295 ^^^ (x ^^^ y)) &&& dif x y b : Nat) : Int) := u32_and_nat _ _ hnxy hd
  have H6 : bits .or .u32 (((4294967295 ^^^ x) &&& y : Nat) : Int) (((4294967295 ^^^ (x ^^^ y)) &&& dif x y b : Nat) : Int) = ((((4294967295 ^^^ x) &&& y) ||| ((4294967295 ^^^ (x ^^^ y)) &&& dif x y b) : Nat) : Int) := u32_or_nat _ _ (Nat.and_lt_two_pow (n := 32) _ hy) (Nat.and_lt_two_pow (n := 32) _ hd)
  have H7 : ((((4294967295 ^^^ x) &&& y) ||| ((4294967295 ^^^ (x ^^^ y)) &&& dif x y b) : Nat) : Int) / 2147483648 = ((brw x y b : Nat) : Int) := by
    rw [← borrow_nat hx hy hb]; rfl
  clear hxy hnx hnxy hd
  have K0 := Lib.hid H0
  have K7 := Lib.hid H7
  generalize dif x y b = D at *
  generalize brw x y b = R at *
  generalize (x ^^^ y) = X2 at *
  generalize (4294967295 ^^^ x) = X1 at *
  generalize (4294967295 ^^^ X2) = X3 at *
  generalize (X1 &&& y) = X4 at *
  generalize (X3 &&& D) = X5 at *
  generalize (X4 ||| X5) = X6 at *
  have HH := Lib.hid (And.intro H0 (And.intro H1 (And.intro H2 (And.intro H3 (And.intro H4 (And.intro H5 (And.intro H6 H7)))))))
  clear H0 H1 H2 H3 H4 H5 H6 H7 K0 K7
  go_enter Tryd.func136, Tryd.ntmps136
  go_wp2
  go_ret2
  obtain ⟨H0, H1, H2, H3, H4, H5, H6, H7⟩ := HH.out
  have hc : ((4294967295 : Nat) : Int) = 4294967295 := rfl
  rw [hc] at H1 H3
  have H8 : (((x : Int) - (y : Int)) % 4294967296 - (b : Int)) % 4294967296 = (D : Int) := by omega
  refine ⟨?_, rfl⟩
  show Ending.returned (Value.tuple #[Value.int IntKind.u32 _, Value.int IntKind.u32 _]) = _
  rw [H1, H2, H3, H4, H0, H5, H6, H7, H8]

theorem sub32_to {x y b d b' : Nat} (w : World) (hx : x < 4294967296) (hy : y < 4294967296) (hb : b ≤ 1) (hd : d = dif x y b) (hb' : b' = brw x y b) :
    Calls Tryd.prog 136 #[.int .u32 x, .int .u32 y, .int .u32 b] w fun e w' => e = .returned (.tuple #[.int .u32 (d : Int), .int .u32 (b' : Int)]) ∧ w = w' := by
  subst hd
  subst hb'
  exact sub32_any x y b w hx hy hb

/-! ### plus and minus -/
def fsts (pre : List (U × U)) : List Nat := pre.map fun x => x.1.val
def snds (pre : List (U × U)) : List Nat := pre.map fun x => x.2.val
theorem fsts_snoc (pre : List (U × U)) (x : U × U) : fsts (pre ++ [x]) = fsts pre ++ [x.1.val] := by simp [fsts]
theorem snds_snoc (pre : List (U × U)) (x : U × U) : snds (pre ++ [x]) = snds pre ++ [x.2.val] := by simp [snds]
theorem fsts_length (pre : List (U × U)) : (fsts pre).length = pre.length := by simp [fsts]
theorem snds_length (pre : List (U × U)) : (snds pre).length = pre.length := by simp [snds]
theorem fsts_pairs {l m : List Nat} {hl : Dig B32 l} {hm : Dig B32 m} : val B32 (fsts (pairsF l m hl hm)) = val B32 l := by
  have h1 : (fsts (pairsF l m hl hm)).length = max l.length m.length := by rw [fsts_length, pairsF_length]
  unfold val
  rw [h1]
  rw [V_congr (m := l) _ (fun j hj => by simp [fsts, pairsF, dg, hj, uOf])]
  exact V_stop _ (by omega)
theorem snds_pairs {l m : List Nat} {hl : Dig B32 l} {hm : Dig B32 m} : val B32 (snds (pairsF l m hl hm)) = val B32 m := by
  have h1 : (snds (pairsF l m hl hm)).length = max l.length m.length := by rw [snds_length, pairsF_length]
  unfold val
  rw [h1]
  rw [V_congr (m := m) _ (fun j hj => by simp [snds, pairsF, dg, hj, uOf])]
  exact V_stop _ (by omega)

/-- the digits so far and what is carried. -/
structure CarI (eq : Nat → Nat → Nat → Nat → Nat → Prop) (n0 B0 Br Bc : Nat) (W0 : World) (pre : List (U × U)) (W : World) (rv : Value) (r : List Nat) (c : Nat) : Prop where
  br : W.heap[Br]? = some (.cells #[rv] 44 (0, 0))
  bc : W.heap[Bc]? = some (.cells #[.int .u32 (c : Int)] 75 (0, 0))
  m : M B0 W rv r
  len : r.length = pre.length
  dig : Dig B32 r
  cl : c ≤ 1
  eq : eq (val B32 (fsts pre)) (val B32 (snds pre)) (val B32 r) pre.length c
  b : Below n0 W0 W
  vz : B0 ≤ W.heap.size
def CarP (eq : Nat → Nat → Nat → Nat → Nat → Prop) (n0 B0 Br Bc : Nat) (W0 : World) (pre : List (U × U)) (W : World) : Prop := ∃ rv r c, CarI eq n0 B0 Br Bc W0 pre W rv r c
theorem carP_own {eq : Nat → Nat → Nat → Nat → Nat → Prop} {n0 B0 Br Bc B : Nat} {W0 : World} (hn : n0 ≤ W0.heap.size) (hB : n0 ≤ B) : OwnFrom B (CarP eq n0 B0 Br Bc W0) := by
  intro s W W' row h hg hr
  obtain ⟨rv, r, c, h⟩ := h
  have hr' : ∀ r, row = some r → ∃ o : Obj, W.heap[r]? = some o ∧ o.isCells = false := fun r e => (hr r e).2
  refine ⟨rv, r, c, (grownBy_keeps_cells hg hr' h.br rfl).trans h.br, (grownBy_keeps_cells hg hr' h.bc rfl).trans h.bc, ?_, h.len, h.dig, h.cl, h.eq, h.b.grown hg (Nat.le_trans hn h.b.size) (fun k e => Nat.le_trans hB (hr k e).1), Nat.le_trans h.vz hg.size⟩
  refine h.m.kept hg ?_
  cases e : rv.ownBlock with
  | none => exact Or.inl rfl
  | some k =>
    refine Or.inr fun e2 => ?_
    obtain ⟨o, ho, hc⟩ := hr' k e2.symm
    rcases h.m.2 with ⟨rfl, _⟩ | ⟨g, cap, cur, rfl, _, hgg, _⟩
    · simp [Value.ownBlock] at e
    · simp [Value.ownBlock] at e
      subst e
      rw [hgg] at ho
      cases ho
      simp [Obj.isCells] at hc
end Go.Proofs.YtkpoegdcmnjedaaDoor
