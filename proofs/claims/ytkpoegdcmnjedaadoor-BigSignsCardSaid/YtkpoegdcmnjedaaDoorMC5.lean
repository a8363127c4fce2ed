import Derived.Test.YtkpoegdcmnjedaaDoorMC2
namespace Go.Proofs.YtkpoegdcmnjedaaDoor
open Go.RowKit Go.Shelf
set_option linter.unusedVariables false
set_option linter.unusedSimpArgs false
attribute [local go_sem] Oper.semAt_some

def cmpF (pre : List (U × U)) : Int := pre.foldl (fun r x => if x.1.val < x.2.val then -1 else if x.2.val < x.1.val then 1 else r) 0
theorem cmpF_snoc (pre : List (U × U)) (x : U × U) : cmpF (pre ++ [x]) = if x.1.val < x.2.val then -1 else if x.2.val < x.1.val then 1 else cmpF pre := by simp [cmpF]
theorem cmpF_take {l m : List Nat} {hl : Dig B32 l} {hm : Dig B32 m} : ∀ k, k ≤ max l.length m.length → cmpF ((pairsF l m hl hm).take k) = cmpI (V B32 l k) (V B32 m k)
  | 0, _ => by simp [cmpF, cmpI, V]
  | k + 1, h => by
    rw [pairsF_take h, cmpF_snoc, cmp_step hl hm, cmpF_take k (by omega)]
    rfl
theorem cmpF_all {l m : List Nat} {hl : Dig B32 l} {hm : Dig B32 m} : cmpF (pairsF l m hl hm) = cmpI (val B32 l) (val B32 m) := by
  have h := cmpF_take (hl := hl) (hm := hm) _ (Nat.le_refl (max l.length m.length))
  rw [List.take_of_length_le (by rw [pairsF_length]; exact Nat.le_refl _), V_stop _ (by omega), V_stop _ (by omega)] at h
  exact h

/-- a box lies as it lies, and nothing of before has turned. -/
def BoxI (n0 Br : Nat) (ty : TypeId) (f : List (U × U) → Value) (W0 : World) (pre : List (U × U)) (W : World) : Prop :=
  W.heap[Br]? = some (.cells #[f pre] ty (0, 0)) ∧ Below n0 W0 W
theorem boxI_own {n0 Br B : Nat} {ty : TypeId} {f : List (U × U) → Value} {W0 : World} (hn : n0 ≤ W0.heap.size) (hB : n0 ≤ B) : OwnFrom B (BoxI n0 Br ty f W0) := by
  intro s W W' row h hg hr
  obtain ⟨h1, h2⟩ := h
  have hr' : ∀ r, row = some r → ∃ o : Obj, W.heap[r]? = some o ∧ o.isCells = false := fun r e => (hr r e).2
  exact ⟨(grownBy_keeps_cells hg hr' h1 rfl).trans h1, h2.grown hg (Nat.le_trans hn h2.size) (fun k e => Nat.le_trans hB (hr k e).1)⟩

theorem three_new (W : World) (o1 o2 o3 : Obj) : ∃ V, V = ((W.alloc o1).alloc o2).alloc o3 ∧ V.heap[W.heap.size]? = some o1 ∧ V.heap[W.heap.size + 1]? = some o2 ∧ V.heap[W.heap.size + 2]? = some o3 ∧ Below W.heap.size W V ∧ V.heap.size = W.heap.size + 3 := by
  refine ⟨_, rfl, ?_, ?_, ?_, (((Below.refl _ _).alloc (Nat.le_refl _) _).alloc (by simp) _).alloc (by simp; omega) _, by simp⟩
  · rw [heap_alloc_old _ _ (by simp; omega), heap_alloc_old _ _ (by simp), heap_alloc_new]
  · rw [heap_alloc_old _ _ (by simp)]
    have := heap_alloc_new (W.alloc o1) o2
    rwa [World.size_alloc] at this
  · have := heap_alloc_new ((W.alloc o1).alloc o2) o3
    rwa [World.size_alloc, World.size_alloc] at this
theorem bs_of (Ba Bb ga gb : Nat) (l m : List Nat) (P : Nat → Prop) (h1 : P Ba) (h2 : P Bb) (h3 : l ≠ [] → P ga) (h4 : m ≠ [] → P gb) :
    ∃ bs : List Nat, (Ba ∈ bs ∧ Bb ∈ bs ∧ (l ≠ [] → ga ∈ bs) ∧ (m ≠ [] → gb ∈ bs)) ∧ ∀ b ∈ bs, P b := by
  refine ⟨[Ba, Bb, if l = [] then Ba else ga, if m = [] then Ba else gb], ⟨by simp, by simp, fun h => by simp [h], fun h => by simp [h]⟩, ?_⟩
  intro b hb
  simp at hb
  rcases hb with rfl | rfl | rfl | rfl
  · exact h1
  · exact h2
  · split
    · exact h1
    · exact h3 (by assumption)
  · split
    · exact h1
    · exact h4 (by assumption)
theorem KpB.setCell {bs : List Nat} (W : World) (b j : Nat) (v : Value) (h : b ∉ bs) : KpB bs W (W.setCell ⟨b, j, none⟩ v) := fun c hc => heap_setCell_other _ _ _ _ (fun e => h (by have e' : c = b := e; rw [← e']; exact hc))
theorem M.rd' {B : Nat} {W : World} {v : Value} {l : List Nat} (h : M B W v l) : ∃ ao cap g, v = .slice ao l.length cap ∧ Rd W g 0 ao l := by
  obtain ⟨ao, cap, rfl, _⟩ := h.slice
  obtain ⟨g, hg⟩ := h.rd
  exact ⟨ao, cap, g, rfl, hg⟩
theorem Rd.below {W V : World} {g off : Nat} {ao : Option Addr} {l : List Nat} (h : Rd W g off ao l) (hb : Below W.heap.size W V) : Rd V g off ao l := by
  refine ⟨fun hne => ⟨(h.1 hne).1, Nat.lt_of_lt_of_le (h.1 hne).2 hb.size⟩, fun i hi => ?_⟩
  have hne : l ≠ [] := by intro e; subst e; simp at hi
  exact (hb.cell (p := ⟨g, off + i, none⟩) (h.1 hne).2).trans (h.2 i hi)

set_option maxRecDepth 100000 in
set_option maxHeartbeats 4000000 in
theorem compare_rd {aa ab : Option Addr} {ca cb ga oa gb ob : Nat} {l m : List Nat} {W : World} (ha : Rd W ga oa aa l) (hb : Rd W gb ob ab m) (hl : Dig B32 l) (hm : Dig B32 m) (hla : l.length ≤ 1000000) (hlb : m.length ≤ 1000000) :
    Calls Tryd.prog 112 #[.slice aa l.length ca, .slice ab m.length cb] W fun e W' => e = .returned (.int .i64 (cmpI (val B32 l) (val B32 m))) ∧ Below W.heap.size W W' := by
  refine (callsIn_wide (n := 3)).1 ?_
  refine callsIn_of_wp_marks Tryd.func112 rfl trivial ?_ rfl
  simp only [Tryd.ntmps112, List.size_toArray, List.length_cons, List.length_nil, Nat.reduceAdd, Nat.reduceSub, Array.replicate_succ, Array.replicate_zero, List.push_toArray, List.append_toArray, List.nil_append, List.cons_append]
  refine wpIn_wide.2 ?_
  go_wp2_with (go_at_call 134; refine (pairs_any _ _ _ _ _ _ _).mono ?_; rintro e w' ⟨rfl, rfl⟩)
  obtain ⟨V, hV, v0, v1, v2, vb, vs⟩ := three_new W (Obj.cells #[Value.int IntKind.i64 0] 3) (Obj.cells #[Value.slice aa l.length ca] 44) (Obj.cells #[Value.slice ab m.length cb] 44)
  rw [← hV]
  have c1 := (cell_of_row _ _ 0 _ _ _ v1).trans rfl
  have c2 := (cell_of_row _ _ 0 _ _ _ v2).trans rfl
  have hI0 : BoxI W.heap.size W.heap.size 3 (fun pre => .int .i64 (cmpF pre)) W [] V := ⟨v0, vb⟩
  obtain ⟨bs, hbs, hbp⟩ := bs_of (W.heap.size + 1) (W.heap.size + 1 + 1) ga gb l m (fun b => b < V.heap.size ∧ b ≠ W.heap.size) (by omega) (by omega) (fun h => by have := (ha.1 h).2; omega) (fun h => by have := (hb.1 h).2; omega)
  have hnb : W.heap.size ∉ bs := fun h => (hbp _ h).2 rfl
  have HBP := Lib.hid hbp
  have HBS := Lib.hid hbs
  clear hbp hbs hV
  refine (wpIn_wide (n := 3)).1 ?_
  refine wpIn_rangeFunc_ownF rfl (by decide) (gf := 142) (lb := #[.pointer (some ⟨W.heap.size + 1, 0, none⟩), .pointer (some ⟨W.heap.size + 1 + 1, 0, none⟩)]) rfl trivial (enters_of Tryd.func142 (by kernel_rfl) rfl)
    (pairs_stops 2 (by decide) (W.heap.size + 1) (W.heap.size + 1 + 1) ga oa gb ob aa ab ca cb l m hl hm hla hlb V (by omega) (by omega) c1 c2 (ha.below vb) (hb.below vb) bs HBS.out) (fun h k => h.trans k) ?hKb (Below.refl _ _) (fun _ => rfl)
    (BoxI W.heap.size W.heap.size 3 (fun pre => .int .i64 (cmpF pre)) W)
    (fun _ _ _ => False) (boxI_own (Nat.le_refl _) vb.size) (fun _ _ _ _ _ hs _ _ => hs) hI0 ?a1 ?assign ?body ?done ?stop
  case hKb =>
    intro W1 lb o o' hl1 hW1 _ _ b hb1
    refine World.putObj_heap_other ?_
    have := (HBP.out b hb1).1
    omega
  case assign =>
    intro l x W K hK
    gi_wp2
    exact hK
  case body =>
    rintro lp pre x W1 hI _
    have hI' := hI
    obtain ⟨h1, h2⟩ := hI
    have hc1 := (cell_of_row _ _ 0 _ _ _ h1).trans rfl
    have hf1 := frozen_of_row _ _ 0 _ _ h1
    obtain ⟨⟨x, hx⟩, ⟨y, hy⟩⟩ := x
    by_cases hxy : x < y
    · gi_wp2
      refine ⟨KeepsOthers.setCell _ _ _, KpB.setCell _ _ _ _ hnb, ?_, h2.setCell (Nat.le_refl _) _⟩
      rw [heap_setCell_same _ _ _ _ _ _ h1]
      have e := (cmpF_snoc pre (⟨x, hx⟩, ⟨y, hy⟩)).trans (if_pos hxy)
      simp only [e]
      rfl
    · by_cases hyx : y < x
      · gi_wp2
        refine ⟨KeepsOthers.setCell _ _ _, KpB.setCell _ _ _ _ hnb, ?_, h2.setCell (Nat.le_refl _) _⟩
        rw [heap_setCell_same _ _ _ _ _ _ h1]
        have e := (cmpF_snoc pre (⟨x, hx⟩, ⟨y, hy⟩)).trans ((if_neg hxy).trans (if_pos hyx))
        simp only [e]
        rfl
      · gi_wp2
        refine ⟨KeepsOthers.refl _, fun _ _ => rfl, ?_, h2⟩
        rw [h1]
        have e := (cmpF_snoc pre (⟨x, hx⟩, ⟨y, hy⟩)).trans ((if_neg hxy).trans (if_neg hyx))
        simp only [e]
  case done =>
    rintro D ys W3 hD rfl hI hK
    obtain ⟨h1, h2⟩ := hI
    simp only [cmpF_all] at h1
    have hc1 := (cell_of_row _ _ 0 _ _ _ h1).trans rfl
    have HK := Lib.hid hK
    clear h1 hK
    go_wp2
    refine ⟨by simp, .inl ⟨_, _, rfl, run_takeDeferred HK.out, ?_⟩⟩
    refine ⟨_, results_tmp rfl _ _ _, rfl, ?_⟩
    exact h2.grown (grownBy_putObj' W3 D _) h2.size (fun k e => by cases e; exact Nat.le_trans vb.size hD)
  case stop =>
    rintro D c pre W _ _ h _
    exact h.elim
theorem compare_any {B B' : Nat} {va vb : Value} {l m : List Nat} {W : World} (ha : M B W va l) (hb : M B' W vb m) (hl : Dig B32 l) (hm : Dig B32 m) (hla : l.length ≤ 1000000) (hlb : m.length ≤ 1000000) :
    Calls Tryd.prog 112 #[va, vb] W fun e W' => e = .returned (.int .i64 (cmpI (val B32 l) (val B32 m))) ∧ Below W.heap.size W W' := by
  obtain ⟨aa, ca, ga, rfl, ra⟩ := ha.rd'
  obtain ⟨ab, cb, gb, rfl, rb⟩ := hb.rd'
  exact compare_rd ra rb hl hm hla hlb
end Go.Proofs.YtkpoegdcmnjedaaDoor
namespace Go.Proofs.YtkpoegdcmnjedaaDoor
open Go.RowKit Go.Shelf
set_option linter.unusedVariables false
set_option linter.unusedSimpArgs false
attribute [local go_sem] Oper.semAt_some

theorem wpListIn_app32 {F : Fence} {N : Nat} {ops : Array Oper} {rest : List Oper} {o : Oper} {a : Act} {Q : Exit → Act → World → Prop} (hgd : o.guard = none) (s x : Operand)
    (ho : o.op = .call { callee := .builtin .append, args := #[s, x], argTypes := #[44, 44] }) (β : Nat) (V : World) (z : Int) (d : Nat) (hz : z = d) (g0 : Nat) (hg0 : g0 = V.heap.size)
    (v : Value) (l : List Nat) (hs : a.eval s = v) (hx : a.eval x = .slice (some ⟨g0, 0, none⟩) 1 1) (hm : M β V v l) (hβ : β ≤ V.heap.size) (hn : l.length ≤ 1000000000)
    (h : ∀ v' w', Below β V w' → M β w' v' (l ++ [d]) → (∀ (k : Nat) (ob : Obj), V.heap[k]? = some ob → some k ≠ v.ownBlock → w'.heap[k]? = some ob) → wpListIn F N Tryd.prog ops Q rest (a.put o.dst v') w') :
    wpListIn F N Tryd.prog ops Q (o :: rest) a (V.alloc (Obj.cells #[.int .u32 z] 75)) := by
  subst hz
  subst hg0
  obtain ⟨i0, hi, hinf⟩ := Option.map_eq_some_iff.1 info75
  simp only [Prod.mk.injEq] at hinf
  obtain ⟨hz0, hz1, hz2⟩ := hinf
  have hx0 : (V.alloc (Obj.cells #[.int .u32 (d : Int)] 75)).heap[V.heap.size]? = some (.cells #[.int .u32 (d : Int)] 75 (0, 0)) := heap_alloc_new V _
  refine wpListIn_append_own _ hgd s x 44 ho β 75 i0 _ 1 4 Tryd.underlying44 hi hz0 hz1 hz2 rfl (by decide) _ _ _ hs (hm.alloc _) ⟨V.heap.size, 0, none⟩ 1 1 [.int .u32 (d : Int)] hx rfl ?c1 ?c2 (by unfold maxLen; omega) (by omega) (by simp; omega) ?_
  case c1 =>
    intro j w hj
    have hadd : (⟨V.heap.size, 0, none⟩ : Addr).add j = ⟨V.heap.size, j, none⟩ := by unfold Addr.add; split <;> simp_all
    rw [hadd, cell_of_row _ _ _ _ _ _ hx0]
    simpa using hj
  case c2 =>
    intro w hw
    simp at hw; subst hw; rfl
  intro v' w' hown' hg _
  have hb : Below β V w' := ((Below.refl β V).alloc hβ _).grown hg (by simp; omega) (fun k e => (hm.lt k e).1)
  refine h v' w' hb ?_ ?_
  · unfold M
    rw [List.length_append, ← U32s_snoc]
    exact hown'
  · intro k ob hk hne
    have hlt : k < V.heap.size := lt_of_block hk
    rw [hg.block k (by simp; omega) hne, heap_alloc_old V _ hlt]
    exact hk

/-! ### the sums and differences of digits -/
theorem add32_any (x y c : Nat) (w : World) (hx : x < 4294967296) (hy : y < 4294967296) (hc : c ≤ 1) :
    Calls Tryd.prog 135 #[.int .u32 x, .int .u32 y, .int .u32 c] w fun e w' => e = .returned (.tuple #[.int .u32 (((x + y + c) % 4294967296 : Nat) : Int), .int .u32 (((x + y + c) / 4294967296 : Nat) : Int)]) ∧ w = w' := by
  go_enter Tryd.func135, Tryd.ntmps135
  go_wp2
  go_ret2
  exact ⟨by simp, rfl⟩

theorem add32_to {x y c d c' : Nat} (w : World) (hx : x < 4294967296) (hy : y < 4294967296) (hc : c ≤ 1) (hd : d = (x + y + c) % 4294967296) (hc' : c' = (x + y + c) / 4294967296) :
    Calls Tryd.prog 135 #[.int .u32 x, .int .u32 y, .int .u32 c] w fun e w' => e = .returned (.tuple #[.int .u32 (d : Int), .int .u32 (c' : Int)]) ∧ w = w' := by
  subst hd
  subst hc'
  exact add32_any x y c w hx hy hc
theorem top32 {n : Nat} (h : n < 4294967296) : n / 2147483648 = if 2147483648 ≤ n then 1 else 0 := by split <;> omega
theorem testBit31 {n : Nat} (h : n < 4294967296) : n.testBit 31 = decide (2147483648 ≤ n) := by
  rw [Nat.testBit_eq_decide_div_mod_eq]
  have : n / 2 ^ 31 = n / 2147483648 := rfl
  rw [this, top32 h]
  split <;> simp_all
/-- what is borrowed. -/
def brw (x y b : Nat) : Nat := if x < y + b then 1 else 0
def dif (x y b : Nat) : Nat := x + brw x y b * 4294967296 - y - b
theorem dif_lt {x y b : Nat} (hx : x < 4294967296) (hy : y < 4294967296) (hb : b ≤ 1) : dif x y b < 4294967296 := by unfold dif brw; split <;> omega
theorem dif_eq {x y b : Nat} (hx : x < 4294967296) (hy : y < 4294967296) (hb : b ≤ 1) : dif x y b + y + b = x + brw x y b * 4294967296 := by unfold dif brw; split <;> omega
theorem brw_le (x y b : Nat) : brw x y b ≤ 1 := by unfold brw; split <;> omega
theorem borrow_nat {x y b : Nat} (hx : x < 4294967296) (hy : y < 4294967296) (hb : b ≤ 1) :
    (((4294967295 ^^^ x) &&& y) ||| ((4294967295 ^^^ (x ^^^ y)) &&& dif x y b)) / 2147483648 = brw x y b := by
  have hd := dif_lt hx hy hb
  have hlt : (((4294967295 ^^^ x) &&& y) ||| ((4294967295 ^^^ (x ^^^ y)) &&& dif x y b)) < 4294967296 :=
    Nat.or_lt_two_pow (n := 32) (Nat.and_lt_two_pow _ hy) (Nat.and_lt_two_pow _ hd)
  rw [top32 hlt]
  have h := testBit31 hlt
  simp only [Nat.testBit_or, Nat.testBit_and, Nat.testBit_xor, testBit31 hx, testBit31 hy, testBit31 hd] at h
  have h1 : (4294967295 : Nat).testBit 31 = true := by decide
  rw [h1] at h
  have he := dif_eq hx hy hb
  unfold brw at *
  by_cases c0 : 2147483648 ≤ (((4294967295 ^^^ x) &&& y) ||| ((4294967295 ^^^ (x ^^^ y)) &&& dif x y b))
  · rw [if_pos c0]
    rw [decide_eq_true c0] at h
    by_cases c1 : 2147483648 ≤ x <;> by_cases c2 : 2147483648 ≤ y <;> by_cases c3 : 2147483648 ≤ dif x y b <;> simp [c1, c2, c3] at h <;> split <;> simp_all <;> omega
  · rw [if_neg c0]
    rw [decide_eq_false c0] at h
    by_cases c1 : 2147483648 ≤ x <;> by_cases c2 : 2147483648 ≤ y <;> by_cases c3 : 2147483648 ≤ dif x y b <;> simp [c1, c2, c3] at h <;> split <;> simp_all <;> omega
theorem sub32_any (x y b : Nat) (w : World) (hx : x < 4294967296) (hy : y < 4294967296) (hb : b ≤ 1) :
    Calls Tryd.prog 136 #[.int .u32 x, .int .u32 y, .int .u32 b] w fun e w' => e = .returned (.tuple #[.int .u32 ((dif x y b : Nat) : Int), .int .u32 ((brw x y b : Nat) : Int)]) ∧ w = w' := by
  have hs : IntKind.u32.signed = false := rfl
  have hmx : IntKind.u32.max = ((4294967295 : Nat) : Int) := rfl
  have hd := dif_lt hx hy hb
  have H0 : ((x : Int) - (y : Int) - (b : Int)) % 4294967296 = ((dif x y b : Nat) : Int) := by unfold dif brw; split <;> omega
  have H1 : bits .xor .u32 ((4294967295 : Nat) : Int) (x : Int) = ((4294967295 ^^^ x : Nat) : Int) := u32_xor_nat _ _ (by decide) hx
  have H2 : bits .xor .u32 (x : Int) (y : Int) = ((x ^^^ y : Nat) : Int) := u32_xor_nat _ _ hx hy
  have hxy : x ^^^ y < 4294967296 := Nat.xor_lt_two_pow (n := 32) hx hy
  have hnx : 4294967295 ^^^ x < 4294967296 := Nat.xor_lt_two_pow (n := 32) (by decide) hx
  have hnxy : 4294967295 ^^^ (x ^^^ y) < 4294967296 := Nat.xor_lt_two_pow (n := 32) (by decide) hxy
  have H3 : bits .xor .u32 ((4294967295 : Nat) : Int) ((x ^^^ y : Nat) : Int) = ((4294967295 ^^^ (x ^^^ y) : Nat) : Int) := u32_xor_nat _ _ (by decide) hxy
  have H4 : bits .and .u32 ((4294967295 ^^^ x : Nat) : Int) (y : Int) = (((4294967295 ^^^ x) &&& y : Nat) : Int) := u32_and_nat _ _ hnx hy
  have H5 : bits .and .u32 ((4294967295 ^^^ (x ^^^ y) : Nat) : Int) ((dif x y b : Nat) : Int) = (((4294967295 ^^^ (x ^^^ y)) &&& dif x y b : Nat) : Int) := u32_and_nat _ _ hnxy hd
  have H6 : bits .or .u32 (((4294967295 ^^^ x) &&& y : Nat) : Int) (((4294967295 ^^^ (x ^^^ y)) &&& dif x y b : Nat) : Int) = ((((4294967295 ^^^ x) &&& y) ||| ((4294967295 ^^^ (x ^^^ y)) &&& dif x y b) : Nat) : Int) := u32_or_nat _ _ (Nat.and_lt_two_pow (n := 32) _ hy) (Nat.and_lt_two_pow (n := 32) _ hd)
  have H7 : ((((4294967295 ^^^ x) &&& y) ||| ((4294967295 ^^^ (x ^^^ y)) &&& dif x y b) : Nat) : Int) / 2147483648 = ((brw x y b : Nat) : Int) := by
    rw [← borrow_nat hx hy hb]; rfl
  clear hxy hnx hnxy hd
  have K0 := Lib.hid H0
  have K7 := Lib.hid H7
  generalize dif x y b = D at *
  generalize brw x y b = R at *
  generalize (x ^^^ y) = X2 at *
  generalize (4294967295 ^^^ x) = X1 at *
  generalize (4294967295 ^^^ X2) = X3 at *
  generalize (X1 &&& y) = X4 at *
  generalize (X3 &&& D) = X5 at *
  generalize (X4 ||| X5) = X6 at *
  have HH := Lib.hid (And.intro H0 (And.intro H1 (And.intro H2 (And.intro H3 (And.intro H4 (And.intro H5 (And.intro H6 H7)))))))
  clear H0 H1 H2 H3 H4 H5 H6 H7 K0 K7
  go_enter Tryd.func136, Tryd.ntmps136
  go_wp2
  go_ret2
  obtain ⟨H0, H1, H2, H3, H4, H5, H6, H7⟩ := HH.out
  have hc : ((4294967295 : Nat) : Int) = 4294967295 := rfl
  rw [hc] at H1 H3
  have H8 : (((x : Int) - (y : Int)) % 4294967296 - (b : Int)) % 4294967296 = (D : Int) := by omega
  refine ⟨?_, rfl⟩
  show Ending.returned (Value.tuple #[Value.int IntKind.u32 _, Value.int IntKind.u32 _]) = _
  rw [H1, H2, H3, H4, H0, H5, H6, H7, H8]

theorem sub32_to {x y b d b' : Nat} (w : World) (hx : x < 4294967296) (hy : y < 4294967296) (hb : b ≤ 1) (hd : d = dif x y b) (hb' : b' = brw x y b) :
    Calls Tryd.prog 136 #[.int .u32 x, .int .u32 y, .int .u32 b] w fun e w' => e = .returned (.tuple #[.int .u32 (d : Int), .int .u32 (b' : Int)]) ∧ w = w' := by
  subst hd
  subst hb'
  exact sub32_any x y b w hx hy hb

/-! ### plus and minus -/
def fsts (pre : List (U × U)) : List Nat := pre.map fun x => x.1.val
def snds (pre : List (U × U)) : List Nat := pre.map fun x => x.2.val
theorem fsts_snoc (pre : List (U × U)) (x : U × U) : fsts (pre ++ [x]) = fsts pre ++ [x.1.val] := by simp [fsts]
theorem snds_snoc (pre : List (U × U)) (x : U × U) : snds (pre ++ [x]) = snds pre ++ [x.2.val] := by simp [snds]
theorem fsts_length (pre : List (U × U)) : (fsts pre).length = pre.length := by simp [fsts]
theorem snds_length (pre : List (U × U)) : (snds pre).length = pre.length := by simp [snds]
theorem fsts_pairs {l m : List Nat} {hl : Dig B32 l} {hm : Dig B32 m} : val B32 (fsts (pairsF l m hl hm)) = val B32 l := by
  have h1 : (fsts (pairsF l m hl hm)).length = max l.length m.length := by rw [fsts_length, pairsF_length]
  unfold val
  rw [h1]
  rw [V_congr (m := l) _ (fun j hj => by simp [fsts, pairsF, dg, hj, uOf])]
  exact V_stop _ (by omega)
theorem snds_pairs {l m : List Nat} {hl : Dig B32 l} {hm : Dig B32 m} : val B32 (snds (pairsF l m hl hm)) = val B32 m := by
  have h1 : (snds (pairsF l m hl hm)).length = max l.length m.length := by rw [snds_length, pairsF_length]
  unfold val
  rw [h1]
  rw [V_congr (m := m) _ (fun j hj => by simp [snds, pairsF, dg, hj, uOf])]
  exact V_stop _ (by omega)

/-- the digits so far and what is carried. -/
structure CarI (eq : Nat → Nat → Nat → Nat → Nat → Prop) (n0 B0 Br Bc : Nat) (W0 : World) (pre : List (U × U)) (W : World) (rv : Value) (r : List Nat) (c : Nat) : Prop where
  br : W.heap[Br]? = some (.cells #[rv] 44 (0, 0))
  bc : W.heap[Bc]? = some (.cells #[.int .u32 (c : Int)] 75 (0, 0))
  m : M B0 W rv r
  len : r.length = pre.length
  dig : Dig B32 r
  cl : c ≤ 1
  eq : eq (val B32 (fsts pre)) (val B32 (snds pre)) (val B32 r) pre.length c
  b : Below n0 W0 W
  vz : B0 ≤ W.heap.size
def CarP (eq : Nat → Nat → Nat → Nat → Nat → Prop) (n0 B0 Br Bc : Nat) (W0 : World) (pre : List (U × U)) (W : World) : Prop := ∃ rv r c, CarI eq n0 B0 Br Bc W0 pre W rv r c
theorem carP_own {eq : Nat → Nat → Nat → Nat → Nat → Prop} {n0 B0 Br Bc B : Nat} {W0 : World} (hn : n0 ≤ W0.heap.size) (hB : n0 ≤ B) : OwnFrom B (CarP eq n0 B0 Br Bc W0) := by
  intro s W W' row h hg hr
  obtain ⟨rv, r, c, h⟩ := h
  have hr' : ∀ r, row = some r → ∃ o : Obj, W.heap[r]? = some o ∧ o.isCells = false := fun r e => (hr r e).2
  refine ⟨rv, r, c, (grownBy_keeps_cells hg hr' h.br rfl).trans h.br, (grownBy_keeps_cells hg hr' h.bc rfl).trans h.bc, ?_, h.len, h.dig, h.cl, h.eq, h.b.grown hg (Nat.le_trans hn h.b.size) (fun k e => Nat.le_trans hB (hr k e).1), Nat.le_trans h.vz hg.size⟩
  refine h.m.kept hg ?_
  cases e : rv.ownBlock with
  | none => exact Or.inl rfl
  | some k =>
    refine Or.inr fun e2 => ?_
    obtain ⟨o, ho, hc⟩ := hr' k e2.symm
    rcases h.m.2 with ⟨rfl, _⟩ | ⟨g, cap, cur, rfl, _, hgg, _⟩
    · simp [Value.ownBlock] at e
    · simp [Value.ownBlock] at e
      subst e
      rw [hgg] at ho
      cases ho
      simp [Obj.isCells] at hc
end Go.Proofs.YtkpoegdcmnjedaaDoor
namespace Go.Proofs.YtkpoegdcmnjedaaDoor
open Go.RowKit Go.Shelf
set_option linter.unusedVariables false
set_option linter.unusedSimpArgs false
attribute [local go_sem] Oper.semAt_some

theorem grownBy_setCell (W : World) (b j : Nat) (x : Value) : W.grownBy (W.setCell ⟨b, j, none⟩ x) (some b) :=
  ⟨rfl, rfl, rfl, by simp, fun k _ hk => heap_setCell_other W ⟨b, j, none⟩ k x (fun e => hk (by rw [e]))⟩
theorem M.setOther {B : Nat} {W : World} {v : Value} {l : List Nat} (h : M B W v l) {b : Nat} (hb : b < B) (j : Nat) (x : Value) : M B (W.setCell ⟨b, j, none⟩ x) v l := by
  refine h.kept (grownBy_setCell W b j x) ?_
  cases e : v.ownBlock with
  | none => exact Or.inl rfl
  | some k => exact Or.inr fun e2 => by have := (h.lt k e).1; cases e2; omega
theorem M.neBlock {B : Nat} {W : World} {v : Value} {l : List Nat} (h : M B W v l) {b : Nat} (hb : b < B) : some b ≠ v.ownBlock := fun e => by have := (h.lt b e.symm).1; omega
theorem four_new (W : World) (o1 o2 o3 o4 : Obj) : ∃ V, V = (((W.alloc o1).alloc o2).alloc o3).alloc o4 ∧ V.heap[W.heap.size]? = some o1 ∧ V.heap[W.heap.size + 1]? = some o2 ∧ V.heap[W.heap.size + 2]? = some o3 ∧ V.heap[W.heap.size + 3]? = some o4 ∧ Below W.heap.size W V ∧ V.heap.size = W.heap.size + 4 := by
  obtain ⟨V, hV, h1, h2, h3, hb, hs⟩ := three_new W o1 o2 o3
  refine ⟨V.alloc o4, by rw [hV], ?_, ?_, ?_, ?_, hb.alloc (by omega) _, by simp [hs]⟩
  · rw [heap_alloc_old _ _ (by omega)]; exact h1
  · rw [heap_alloc_old _ _ (by omega)]; exact h2
  · rw [heap_alloc_old _ _ (by omega)]; exact h3
  · have := heap_alloc_new V o4
    rw [hs] at this; exact this

def eqPlus (va vb vr k c : Nat) : Prop := vr + B32 ^ k * c = va + vb
def eqMinus (va vb vr k c : Nat) : Prop := vr + vb = va + B32 ^ k * c
theorem eqPlus_step {a b r k c x y : Nat} (h : eqPlus a b r k c) : eqPlus (a + B32 ^ k * x) (b + B32 ^ k * y) (r + B32 ^ k * ((x + y + c) % B32)) (k + 1) ((x + y + c) / B32) := by
  unfold eqPlus at *
  have h1 := Nat.mod_add_div (x + y + c) B32
  rw [Nat.pow_succ, Nat.mul_assoc, Nat.add_assoc, ← Nat.mul_add, h1, Nat.mul_add, Nat.mul_add]
  omega
theorem eqMinus_step {a b r k c x y : Nat} (h : eqMinus a b r k c) (hx : x < 4294967296) (hy : y < 4294967296) (hc : c ≤ 1) : eqMinus (a + B32 ^ k * x) (b + B32 ^ k * y) (r + B32 ^ k * dif x y c) (k + 1) (brw x y c) := by
  unfold eqMinus at *
  have h1 : dif x y c + y + c = x + brw x y c * B32 := dif_eq hx hy hc
  have h2 : B32 ^ k * dif x y c + B32 ^ k * y + B32 ^ k * c = B32 ^ k * x + B32 ^ k * (brw x y c * B32) := by rw [← Nat.mul_add, ← Nat.mul_add, h1, Nat.mul_add]
  have h3 : B32 ^ (k + 1) * brw x y c = B32 ^ k * (brw x y c * B32) := by rw [Nat.pow_succ, Nat.mul_assoc, Nat.mul_comm B32]
  rw [h3]
  omega
/-- one round. -/
theorem CarI.step {eq : Nat → Nat → Nat → Nat → Nat → Prop} {n0 B0 Br Bc : Nat} {W0 W1 w' : World} {pre : List (U × U)} {rv v' : Value} {r : List Nat} {c d c' : Nat} (h : CarI eq n0 B0 Br Bc W0 pre W1 rv r c) (x : U × U) (hd : d < 4294967296) (hc : c' ≤ 1)
    (he : ∀ a b rr k, eq a b rr k c → eq (a + B32 ^ k * x.1.val) (b + B32 ^ k * x.2.val) (rr + B32 ^ k * d) (k + 1) c') (hn : n0 ≤ Br ∧ n0 ≤ Bc) (hB : Br < B0 ∧ Bc < B0) (hne : Br ≠ Bc) (hm : M B0 w' v' (r ++ [d])) (hb : Below B0 (W1.setCell ⟨Bc, 0, none⟩ (.int .u32 (c' : Int))) w')
    (hk : ∀ (k : Nat) (ob : Obj), (W1.setCell ⟨Bc, 0, none⟩ (.int .u32 (c' : Int))).heap[k]? = some ob → some k ≠ rv.ownBlock → w'.heap[k]? = some ob) :
    CarI eq n0 B0 Br Bc W0 (pre ++ [x]) (w'.setCell ⟨Br, 0, none⟩ v') v' (r ++ [d]) c' := by
  have b1 : (W1.setCell ⟨Bc, 0, none⟩ (.int .u32 (c' : Int))).heap[Br]? = some (.cells #[rv] 44 (0, 0)) := by rw [heap_setCell_other _ _ _ _ (by simpa using hne)]; exact h.br
  have b2 : (W1.setCell ⟨Bc, 0, none⟩ (.int .u32 (c' : Int))).heap[Bc]? = some (.cells #[.int .u32 (c' : Int)] 75 (0, 0)) := by rw [heap_setCell_same _ _ _ _ _ _ h.bc]; rfl
  have k1 := hk Br _ b1 (h.m.neBlock hB.1)
  have k2 := hk Bc _ b2 (h.m.neBlock hB.2)
  refine ⟨?_, ?_, hm.setOther hB.1 _ _, by rw [List.length_append, List.length_append, h.len]; rfl, h.dig.snoc hd, hc, ?_, ?_, by have := hb.size; have := h.vz; simp at *; omega⟩
  · rw [heap_setCell_same _ _ _ _ _ _ k1]; rfl
  · rw [heap_setCell_other _ _ _ _ (by simpa using hne.symm)]; exact k2
  · rw [fsts_snoc, snds_snoc, val_snoc, val_snoc, val_snoc, fsts_length, snds_length, h.len, List.length_append]
    exact he _ _ _ _ h.eq
  · exact ((h.b.setCell hn.2 _).trans (hb.mono (by omega))).setCell hn.1 _

theorem M.isCells {B : Nat} {W : World} {v : Value} {l : List Nat} (h : M B W v l) {k : Nat} {o : Obj} (hk : W.heap[k]? = some o) (ho : o.isCells = false) : some k ≠ v.ownBlock := by
  intro e
  rcases h.2 with ⟨rfl, _⟩ | ⟨g, cap, cur, rfl, _, hgg, _⟩
  · simp [Value.ownBlock] at e
  · simp [Value.ownBlock] at e
    subst e
    rw [hk] at hgg
    cases hgg
    simp [Obj.isCells] at ho
theorem CarI.round {eq : Nat → Nat → Nat → Nat → Nat → Prop} {n0 B0 Br Bc : Nat} {W0 W1 w' : World} {pre : List (U × U)} {rv v' : Value} {r : List Nat} {c d c' : Nat} (h : CarI eq n0 B0 Br Bc W0 pre W1 rv r c) (x : U × U) (hd : d < 4294967296) (hc : c' ≤ 1)
    (he : ∀ a b rr k, eq a b rr k c → eq (a + B32 ^ k * x.1.val) (b + B32 ^ k * x.2.val) (rr + B32 ^ k * d) (k + 1) c') (hn : n0 ≤ Br ∧ n0 ≤ Bc) (hB : Br < B0 ∧ Bc < B0) (hne : Br ≠ Bc) (hm : M B0 w' v' (r ++ [d])) (hb : Below B0 (W1.setCell ⟨Bc, 0, none⟩ (.int .u32 (c' : Int))) w')
    (hk : ∀ (k : Nat) (ob : Obj), (W1.setCell ⟨Bc, 0, none⟩ (.int .u32 (c' : Int))).heap[k]? = some ob → some k ≠ rv.ownBlock → w'.heap[k]? = some ob)
    (bs : List Nat) (hbs : ∀ b ∈ bs, b < B0 ∧ b ≠ Br ∧ b ≠ Bc) :
    KeepsOthers W1 (w'.setCell ⟨Br, 0, none⟩ v') ∧ KpB bs W1 (w'.setCell ⟨Br, 0, none⟩ v') ∧ CarP eq n0 B0 Br Bc W0 (pre ++ [x]) (w'.setCell ⟨Br, 0, none⟩ v') := by
  have hs := h.step x hd hc he hn hB hne hm hb hk
  have hk0 : KeepsOthers (W1.setCell ⟨Bc, 0, none⟩ (.int .u32 (c' : Int))) w' := ⟨hb.size, fun k o h1 h2 => hk k o h1 ((h.m.setOther hB.2 0 (.int .u32 (c' : Int))).isCells h1 h2)⟩
  refine ⟨(KeepsOthers.setCell _ _ _).trans (hk0.trans (KeepsOthers.setCell _ _ _)), ?_, ⟨_, _, _, hs⟩⟩
  intro b hbb
  obtain ⟨h1, h2, h3⟩ := hbs b hbb
  rw [heap_setCell_other _ _ _ _ (by simpa using h2), hb.block b h1, heap_setCell_other _ _ _ _ (by simpa using h3)]
theorem M.putDeferred {B : Nat} {W : World} {v : Value} {l : List Nat} (h : M B W v l) {D : Nat} (hk : W.heap[D]? = some (.deferred (some []))) (o' : Obj) : M B (W.putObj D o') v l := by
  refine h.kept (grownBy_putObj' W D o') ?_
  have := h.isCells hk rfl
  cases e : v.ownBlock with
  | none => exact Or.inl rfl
  | some k => exact Or.inr fun e2 => this (by rw [e, e2])
theorem CarI.ends {eq : Nat → Nat → Nat → Nat → Nat → Prop} {n0 B0 Br Bc : Nat} {W0 W1 w' : World} {pre : List (U × U)} {rv v' : Value} {r : List Nat} {c : Nat} (h : CarI eq n0 B0 Br Bc W0 pre W1 rv r c) : r.length = pre.length := h.len

set_option maxRecDepth 100000 in
set_option maxHeartbeats 4000000 in
theorem plus_any {B B' : Nat} {va vb : Value} {l m : List Nat} {W : World} (ha : M B W va l) (hb : M B' W vb m) (hl : Dig B32 l) (hm : Dig B32 m) (hla : l.length ≤ 1000000) (hlb : m.length ≤ 1000000) :
    Calls Tryd.prog 111 #[va, vb] W fun e W' => (∃ v', e = .returned v' ∧ M W.heap.size W' v' (digs B32 (val B32 l + val B32 m))) ∧ Below W.heap.size W W' := by
  obtain ⟨aa, ca, ga, rfl, ra⟩ := ha.rd'
  obtain ⟨ab, cb, gb, rfl, rb⟩ := hb.rd'
  clear ha hb
  refine (callsIn_wide (n := 3)).1 ?_
  refine callsIn_of_wp_marks Tryd.func111 rfl trivial ?_ rfl
  simp only [Tryd.ntmps111, List.size_toArray, List.length_cons, List.length_nil, Nat.reduceAdd, Nat.reduceSub, Array.replicate_succ, Array.replicate_zero, List.push_toArray, List.append_toArray, List.nil_append, List.cons_append]
  refine wpIn_wide.2 ?_
  go_wp2_with (go_at_call 134; refine (pairs_any _ _ _ _ _ _ _).mono ?_; rintro e w' ⟨rfl, rfl⟩)
  obtain ⟨V, hV, v0, v1, v2, v3, vb, vs⟩ := four_new W (Obj.cells #[Value.slice none 0 0] 44) (Obj.cells #[Value.int IntKind.u32 0] 75) (Obj.cells #[Value.slice aa l.length ca] 44) (Obj.cells #[Value.slice ab m.length cb] 44)
  rw [← hV]
  have c1 := (cell_of_row _ _ 0 _ _ _ v2).trans rfl
  have c2 := (cell_of_row _ _ 0 _ _ _ v3).trans rfl
  have hI0 : CarP eqPlus W.heap.size V.heap.size W.heap.size (W.heap.size + 1) W [] V := ⟨_, [], 0, v0, v1, M.nil _ _, rfl, Dig.nil (by decide), by omega, by simp [eqPlus, fsts, snds, val_nil], vb, Nat.le_refl _⟩
  obtain ⟨bs, hbs, hbp⟩ := bs_of (W.heap.size + 1 + 1) (W.heap.size + 1 + 1 + 1) ga gb l m (fun b => b < V.heap.size ∧ b ≠ W.heap.size ∧ b ≠ W.heap.size + 1) (by omega) (by omega) (fun h => by have := (ra.1 h).2; omega) (fun h => by have := (rb.1 h).2; omega)
  have HBP := Lib.hid hbp
  have HBS := Lib.hid hbs
  have HVS := Lib.hid vs
  have hVlt : W.heap.size + 1 < V.heap.size := by omega
  clear hbp hbs hV vs
  refine (wpIn_wide (n := 3)).1 ?_
  refine wpIn_rangeFunc_ownF rfl (by decide) (gf := 142) (lb := #[.pointer (some ⟨W.heap.size + 1 + 1, 0, none⟩), .pointer (some ⟨W.heap.size + 1 + 1 + 1, 0, none⟩)]) rfl trivial (enters_of Tryd.func142 (by kernel_rfl) rfl)
    (pairs_stops 2 (by decide) (W.heap.size + 1 + 1) (W.heap.size + 1 + 1 + 1) ga 0 gb 0 aa ab ca cb l m hl hm hla hlb V (by have := HVS.out; omega) (by have := HVS.out; omega) c1 c2 (ra.below vb) (rb.below vb) bs HBS.out) (fun h k => h.trans k) ?hKb (Below.refl _ _) (fun _ => rfl)
    (CarP eqPlus W.heap.size V.heap.size W.heap.size (W.heap.size + 1) W)
    (fun _ _ _ => False) (carP_own (Nat.le_refl _) vb.size) (fun _ _ _ _ _ hs _ _ => hs) hI0 ?a1 ?assign ?body ?done ?stop
  case hKb =>
    intro W1 lb o o' hl1 hW1 _ _ b hb1
    refine World.putObj_heap_other ?_
    have := (HBP.out b hb1).1
    omega
  case assign =>
    intro l x W K hK
    gi_wp2
    exact hK
  case body =>
    rintro lp pre ⟨⟨x, hx⟩, ⟨y, hy⟩⟩ W1 ⟨rv, r, c, hI⟩ hlen
    have hc1 := (cell_of_row _ _ 0 _ _ _ hI.br).trans rfl
    have hf1 := frozen_of_row _ _ 0 _ _ hI.br
    have hc2 := (cell_of_row _ _ 0 _ _ _ hI.bc).trans rfl
    have hf2 := frozen_of_row _ _ 0 _ _ hI.bc
    have hcl := hI.cl
    obtain ⟨d, HD⟩ : ∃ d : Nat, Hid (d = (x + y + c) % 4294967296) := ⟨_, Lib.hid rfl⟩
    obtain ⟨c', HC⟩ : ∃ c' : Nat, Hid (c' = (x + y + c) / 4294967296) := ⟨_, Lib.hid rfl⟩
    have hz : V.heap.size ≤ (W1.setCell ⟨W.heap.size + 1, 0, none⟩ (Value.int IntKind.u32 (c' : Int))).heap.size := by have := hI.vz; simpa using this
    have HZ := Lib.hid hz
    have HL : Hid (r.length ≤ 1000000000) := Lib.hid (by rw [hI.len]; have : pre.length < max l.length m.length := hlen; omega)
    have HI := Lib.hid hI
    clear hI hz
    gi_wp2
    refine ⟨trivial, ?_⟩
    refine (CallsIn.inRound lp (callsIn_wide.2 (add32_to _ hx hy hcl HD.out HC.out))).mono ?_
    rintro e w' ⟨rfl, rfl⟩
    gi_wp2_with (gi_at_builtin; go_loud (refine wpListIn_app32 rfl _ _ rfl V.heap.size _ _ d rfl _ (by simp) rv r rfl rfl (HI.out.m.setOther hVlt _ _) HZ.out HL.out ?_; intro v' w' hb' hm' hk'; have HM := Lib.hid hm'; have HB := Lib.hid hb'; have HK := Lib.hid hk'; have s1 := HK.out W.heap.size _ ((heap_setCell_other _ _ _ _ (by simp)).trans HI.out.br) (HI.out.m.neBlock (by omega)); have s2 := (cell_of_row _ _ 0 _ _ _ s1).trans rfl; have s3 := frozen_of_row _ _ 0 _ _ s1; clear hm' hb' hk' s1; obtain ⟨ao', n', cap', rfl⟩ := HM.out.slice3))
    exact HI.out.round (⟨x, hx⟩, ⟨y, hy⟩) (by rw [HD.out]; exact Nat.mod_lt _ (by decide)) (by rw [HC.out]; omega) (fun a b rr k he => by rw [HD.out, HC.out]; exact eqPlus_step he) ⟨Nat.le_refl _, by omega⟩ ⟨by omega, hVlt⟩ (by omega) HM.out HB.out HK.out bs HBP.out
  case done =>
    rintro D ys W3 hD rfl ⟨rv, r, c, hI⟩ hK
    have hc1 := (cell_of_row _ _ 0 _ _ _ hI.br).trans rfl
    have hc2 := (cell_of_row _ _ 0 _ _ _ hI.bc).trans rfl
    have hcl := hI.cl
    have hlen := hI.len
    rw [pairsF_length] at hlen
    have HL : Hid (r.length ≤ 1000000000) := Lib.hid (by omega)
    have HI := Lib.hid hI
    have HK := Lib.hid hK
    clear hI hK hlen
    have hVle : V.heap.size ≤ W3.heap.size := HI.out.vz
    go_wp2_with (at_builtin; go_loud (refine wpList_app32 rfl _ _ rfl V.heap.size W3 _ c rfl rv r rfl rfl HI.out.m hVle HL.out ?_; intro v' w' hb' hm' hk'; have HM := Lib.hid hm'; have HB := Lib.hid hb'; have HKK := Lib.hid hk'; clear hm' hb' hk'; obtain ⟨ao', n', cap', rfl⟩ := HM.out.slice3))
    have HDD : Hid (Dig B32 (r ++ [c])) := Lib.hid (HI.out.dig.snoc (by show c < 4294967296; omega))
    refine (trimmed_any HM.out HDD.out).mono ?_
    rintro e w2 ⟨rfl, rfl⟩
    go_wp2
    have hKD := HKK.out D _ HK.out (HI.out.m.isCells HK.out rfl)
    refine ⟨by simp, .inl ⟨_, _, rfl, run_takeDeferred hKD, ?_⟩⟩
    refine ⟨_, results_tmp rfl _ _ _, ⟨_, rfl, ?_⟩, ?_⟩
    · have hE : val B32 (r ++ [c]) = val B32 l + val B32 m := by
        have h1 := HI.out.eq
        unfold eqPlus at h1
        rw [fsts_pairs, snds_pairs] at h1
        rw [val_snoc, HI.out.len, h1]
      rw [← hE]
      have h2 := (HM.out.trim HDD.out).mono vb.size
      exact h2.putDeferred hKD _
    · exact (HI.out.b.trans (HB.out.mono vb.size)).grown (grownBy_putObj' _ D _) (Nat.le_trans vb.size (Nat.le_trans HI.out.vz HB.out.size)) (fun k e => by cases e; exact Nat.le_trans vb.size hD)
  case stop =>
    rintro D c pre W _ _ h _
    exact h.elim
set_option maxRecDepth 100000 in
set_option maxHeartbeats 4000000 in
theorem minus_any {B B' : Nat} {va vb : Value} {l m : List Nat} {W : World} (ha : M B W va l) (hb : M B' W vb m) (hl : Dig B32 l) (hm : Dig B32 m) (hla : l.length ≤ 1000000) (hlb : m.length ≤ 1000000) (hle : val B32 m ≤ val B32 l) :
    Calls Tryd.prog 113 #[va, vb] W fun e W' => (∃ v', e = .returned v' ∧ M W.heap.size W' v' (digs B32 (val B32 l - val B32 m))) ∧ Below W.heap.size W W' := by
  obtain ⟨aa, ca, ga, rfl, ra⟩ := ha.rd'
  obtain ⟨ab, cb, gb, rfl, rb⟩ := hb.rd'
  clear ha hb
  refine (callsIn_wide (n := 3)).1 ?_
  refine callsIn_of_wp_marks Tryd.func113 rfl trivial ?_ rfl
  simp only [Tryd.ntmps113, List.size_toArray, List.length_cons, List.length_nil, Nat.reduceAdd, Nat.reduceSub, Array.replicate_succ, Array.replicate_zero, List.push_toArray, List.append_toArray, List.nil_append, List.cons_append]
  refine wpIn_wide.2 ?_
  go_wp2_with (go_at_call 134; refine (pairs_any _ _ _ _ _ _ _).mono ?_; rintro e w' ⟨rfl, rfl⟩)
  obtain ⟨V, hV, v0, v1, v2, v3, vb, vs⟩ := four_new W (Obj.cells #[Value.slice none 0 0] 44) (Obj.cells #[Value.int IntKind.u32 0] 75) (Obj.cells #[Value.slice aa l.length ca] 44) (Obj.cells #[Value.slice ab m.length cb] 44)
  rw [← hV]
  have c1 := (cell_of_row _ _ 0 _ _ _ v2).trans rfl
  have c2 := (cell_of_row _ _ 0 _ _ _ v3).trans rfl
  have hI0 : CarP eqMinus W.heap.size V.heap.size W.heap.size (W.heap.size + 1) W [] V := ⟨_, [], 0, v0, v1, M.nil _ _, rfl, Dig.nil (by decide), by omega, by simp [eqMinus, fsts, snds, val_nil], vb, Nat.le_refl _⟩
  obtain ⟨bs, hbs, hbp⟩ := bs_of (W.heap.size + 1 + 1) (W.heap.size + 1 + 1 + 1) ga gb l m (fun b => b < V.heap.size ∧ b ≠ W.heap.size ∧ b ≠ W.heap.size + 1) (by omega) (by omega) (fun h => by have := (ra.1 h).2; omega) (fun h => by have := (rb.1 h).2; omega)
  have HBP := Lib.hid hbp
  have HBS := Lib.hid hbs
  have HVS := Lib.hid vs
  have hVlt : W.heap.size + 1 < V.heap.size := by omega
  clear hbp hbs hV vs
  refine (wpIn_wide (n := 3)).1 ?_
  refine wpIn_rangeFunc_ownF rfl (by decide) (gf := 142) (lb := #[.pointer (some ⟨W.heap.size + 1 + 1, 0, none⟩), .pointer (some ⟨W.heap.size + 1 + 1 + 1, 0, none⟩)]) rfl trivial (enters_of Tryd.func142 (by kernel_rfl) rfl)
    (pairs_stops 2 (by decide) (W.heap.size + 1 + 1) (W.heap.size + 1 + 1 + 1) ga 0 gb 0 aa ab ca cb l m hl hm hla hlb V (by have := HVS.out; omega) (by have := HVS.out; omega) c1 c2 (ra.below vb) (rb.below vb) bs HBS.out) (fun h k => h.trans k) ?hKb (Below.refl _ _) (fun _ => rfl)
    (CarP eqMinus W.heap.size V.heap.size W.heap.size (W.heap.size + 1) W)
    (fun _ _ _ => False) (carP_own (Nat.le_refl _) vb.size) (fun _ _ _ _ _ hs _ _ => hs) hI0 ?a1 ?assign ?body ?done ?stop
  case hKb =>
    intro W1 lb o o' hl1 hW1 _ _ b hb1
    refine World.putObj_heap_other ?_
    have := (HBP.out b hb1).1
    omega
  case assign =>
    intro l x W K hK
    gi_wp2
    exact hK
  case body =>
    rintro lp pre ⟨⟨x, hx⟩, ⟨y, hy⟩⟩ W1 ⟨rv, r, c, hI⟩ hlen
    have hc1 := (cell_of_row _ _ 0 _ _ _ hI.br).trans rfl
    have hf1 := frozen_of_row _ _ 0 _ _ hI.br
    have hc2 := (cell_of_row _ _ 0 _ _ _ hI.bc).trans rfl
    have hf2 := frozen_of_row _ _ 0 _ _ hI.bc
    have hcl := hI.cl
    obtain ⟨d, HD⟩ : ∃ d : Nat, Hid (d = dif x y c) := ⟨_, Lib.hid rfl⟩
    obtain ⟨c', HC⟩ : ∃ c' : Nat, Hid (c' = brw x y c) := ⟨_, Lib.hid rfl⟩
    have hz : V.heap.size ≤ (W1.setCell ⟨W.heap.size + 1, 0, none⟩ (Value.int IntKind.u32 (c' : Int))).heap.size := by have := hI.vz; simpa using this
    have HZ := Lib.hid hz
    have HL : Hid (r.length ≤ 1000000000) := Lib.hid (by rw [hI.len]; have : pre.length < max l.length m.length := hlen; omega)
    have HI := Lib.hid hI
    clear hI hz
    gi_wp2
    refine ⟨trivial, ?_⟩
    refine (CallsIn.inRound lp (callsIn_wide.2 (sub32_to _ hx hy hcl HD.out HC.out))).mono ?_
    rintro e w' ⟨rfl, rfl⟩
    gi_wp2_with (gi_at_builtin; go_loud (refine wpListIn_app32 rfl _ _ rfl V.heap.size _ _ d rfl _ (by simp) rv r rfl rfl (HI.out.m.setOther hVlt _ _) HZ.out HL.out ?_; intro v' w' hb' hm' hk'; have HM := Lib.hid hm'; have HB := Lib.hid hb'; have HK := Lib.hid hk'; have s1 := HK.out W.heap.size _ ((heap_setCell_other _ _ _ _ (by simp)).trans HI.out.br) (HI.out.m.neBlock (by omega)); have s2 := (cell_of_row _ _ 0 _ _ _ s1).trans rfl; have s3 := frozen_of_row _ _ 0 _ _ s1; clear hm' hb' hk' s1; obtain ⟨ao', n', cap', rfl⟩ := HM.out.slice3))
    exact HI.out.round (⟨x, hx⟩, ⟨y, hy⟩) (by rw [HD.out]; exact dif_lt hx hy hcl) (by rw [HC.out]; exact brw_le _ _ _) (fun a b rr k he => by rw [HD.out, HC.out]; exact eqMinus_step he hx hy hcl) ⟨Nat.le_refl _, by omega⟩ ⟨by omega, hVlt⟩ (by omega) HM.out HB.out HK.out bs HBP.out
  case done =>
    rintro D ys W3 hD rfl ⟨rv, r, c, hI⟩ hK
    have hc1 := (cell_of_row _ _ 0 _ _ _ hI.br).trans rfl
    have hc2 := (cell_of_row _ _ 0 _ _ _ hI.bc).trans rfl
    have hcl := hI.cl
    have hlen := hI.len
    rw [pairsF_length] at hlen
    have HL : Hid (r.length ≤ 1000000000) := Lib.hid (by omega)
    have HI := Lib.hid hI
    have HK := Lib.hid hK
    clear hI hK hlen
    have hVle : V.heap.size ≤ W3.heap.size := HI.out.vz
    obtain ⟨ao', n', cap', rfl⟩ := HI.out.m.slice3
    go_wp2_with (go_at_call 125; refine (trimmed_any HI.out.m HI.out.dig).mono ?_; rintro e w2 ⟨rfl, rfl⟩)
    have hKD := HK.out
    refine ⟨by simp, .inl ⟨_, _, rfl, run_takeDeferred hKD, ?_⟩⟩
    refine ⟨_, results_tmp rfl _ _ _, ⟨_, rfl, ?_⟩, ?_⟩
    · have hE : val B32 r = val B32 l - val B32 m := by
        have h1 := HI.out.eq
        unfold eqMinus at h1
        rw [fsts_pairs, snds_pairs] at h1
        have h2 := val_lt HI.out.dig
        rw [HI.out.len] at h2
        have h3 : c = 0 := by
          refine Classical.byContradiction fun hne => ?_
          have : c = 1 := by omega
          rw [this] at h1
          omega
        rw [h3] at h1
        omega
      rw [← hE]
      have h2 := (HI.out.m.trim HI.out.dig).mono vb.size
      exact h2.putDeferred hKD _
    · exact HI.out.b.grown (grownBy_putObj' _ D _) (Nat.le_trans vb.size HI.out.vz) (fun k e => by cases e; exact Nat.le_trans vb.size hD)
  case stop =>
    rintro D c pre W _ _ h _
    exact h.elim
end Go.Proofs.YtkpoegdcmnjedaaDoor
