import Derived.Test.YtkpoegdcmnjedaaDoorNB1
namespace Go.Proofs.YtkpoegdcmnjedaaDoor
open Go.RowKit
set_option linter.unusedVariables false
set_option linter.unusedSimpArgs false

/-! ### merged -/
abbrev Fv (k : FuncId) (cap : Array Value) : Value := .func (.func k) #[] cap
abbrev U4 (d : Nat) : Value := .int .u32 (d : Int)
def IsGo (k : FuncId) : Prop := ∀ (args : Array Value) (w : World), (callFunc k args).run Tryd.prog w = .ok (.enter k args) w
theorem isGo_of {k : FuncId} {fn : Func} (hf : Tryd.prog.funcs[k]? = some fn) (hn : (fn.name == "runtime.NumGoroutine") = false) (hb : fn.body.isNone = false) : IsGo k := fun args w => by
  have h1 : fn.name ≠ "runtime.NumGoroutine" := by simpa using hn
  have h2 : ¬ fn.body = none := by intro h; simp [h] at hb
  simp [callFunc, hf, h1, h2, go_sem]
/-- a function of two digits. -/
def DigF (k : FuncId) (f : Nat → Nat → Nat) : Prop := IsGo k ∧ (∀ a b, a < 4294967296 → b < 4294967296 → f a b < 4294967296) ∧
  ∀ (a b : Nat) (w : World), a < 4294967296 → b < 4294967296 → Calls Tryd.prog k #[U4 a, U4 b] w fun e w' => e = .returned (U4 (f a b)) ∧ w = w'
theorem wpList_app43 {ops : Array Oper} {rest : List Oper} {o : Oper} {a : Act} {Q : Exit → Act → World → Prop} (hgd : o.guard = none) (s x : Operand)
    (ho : o.op = .call { callee := .builtin .append, args := #[s, x], argTypes := #[43, 43] }) (β : Nat) (V : World) (z : Int) (d : Nat) (hz : z = d)
    (v : Value) (l : List Nat) (hs : a.eval s = v) (hx : a.eval x = .slice (some ⟨V.heap.size, 0, none⟩) 1 1) (hm : M β V v l) (hβ : β ≤ V.heap.size) (hn : l.length ≤ 1000000000)
    (h : ∀ v' w', Below β V w' → M β w' v' (l ++ [d]) → wpList Tryd.prog ops Q rest (a.put o.dst v') w') :
    wpList Tryd.prog ops Q (o :: rest) a (V.alloc (Obj.cells #[.int .u32 z] 75)) := by
  subst hz
  refine wpList_app1 hgd s x 43 75 _ 4 Tryd.underlying43 info75 rfl (by decide) ho β V _ rfl v l.length (U32s l) hs hx hm hβ hn ?_
  intro v' w' hb hown hk
  refine h v' w' hb ?_
  unfold M
  rw [List.length_append, ← U32s_snoc]
  exact hown
structure MeI (f : Nat → Nat → Nat) (la lb : List Nat) (W wr : World) (v : Value) (k : Nat) (r : List Nat) : Prop where
  len : r.length = k
  eq : ∀ i, i < k → dg r i = f (dg la i) (dg lb i)
  m : M W.heap.size wr v r
  b : Below W.heap.size W wr
theorem MeI.done {f : Nat → Nat → Nat} {la lb : List Nat} {W wr : World} {v : Value} {r : List Nat} (h : MeI f la lb W wr v la.length r) : r = zipD f la lb := by
  refine ext_dg (by rw [h.len, zipD_length]) fun i hi => ?_
  rw [h.len] at hi
  rw [h.eq i hi, dg_zipD hi]
theorem MeI.step {f : Nat → Nat → Nat} {la lb : List Nat} {W wr w' : World} {v v' : Value} {k : Nat} {r : List Nat} (h : MeI f la lb W wr v k r) {d : Nat} (hd : d = f (dg la k) (dg lb k)) (hm : M W.heap.size w' v' (r ++ [d])) (hb : Below W.heap.size W w') : MeI f la lb W w' v' (k + 1) (r ++ [d]) :=
  ⟨by rw [List.length_append, h.len]; rfl, fun i hi => by
    rw [dg_snoc]
    by_cases c : i < k
    · rw [if_pos (by rw [h.len]; exact c)]; exact h.eq i c
    · have : i = k := by omega
      subst this
      rw [if_neg (by rw [h.len]; omega), if_pos h.len.symm, hd], hm, hb⟩
set_option maxRecDepth 100000 in
set_option maxHeartbeats 1000000 in
theorem merged_any {Ba Bb : Nat} {va vb : Value} {la lb : List Nat} {W : World} {k : FuncId} {f : Nat → Nat → Nat} (hk : DigF k f) (ha : M Ba W va la) (hb : M Bb W vb lb) (hl : lb.length = la.length) (hla : la.length ≤ 1000000) (da : Dig B32 la) (db : Dig B32 lb) :
    Calls Tryd.prog 123 #[va, vb, Fv k #[]] W fun e W' => (∃ v', e = .returned v' ∧ M W.heap.size W' v' (zipD f la lb)) ∧ Below W.heap.size W W' := by
  obtain ⟨hgo, hf, hcall⟩ := hk
  unfold IsGo at hgo
  obtain ⟨aoa, na, capa, rfl⟩ := ha.slice3
  obtain ⟨aob, nb, capb, rfl⟩ := hb.slice3
  have HLA := Lib.hid ha.len
  have HLB := Lib.hid (hb.len.trans hl)
  have HA := Lib.hid ha
  have HB := Lib.hid hb
  have HC := Lib.hid hcall
  have HDA := Lib.hid da
  have HDB := Lib.hid db
  have HI0 : Hid (MeI f la lb W W (.slice none 0 0) 0 []) := Lib.hid ⟨rfl, fun i hi => absurd hi (Nat.not_lt_zero _), M.nil _ _, Below.refl _ _⟩
  have hna : na ≤ 1000000 := by rw [HLA.out]; exact hla
  have hnb : nb = na := by rw [HLB.out, HLA.out]
  have HHL := Lib.hid hl
  subst hnb
  clear ha hb hl da db hcall
  go_enter Tryd.func123, Tryd.ntmps123
  go_wp2
  go_loopw [7, 8, 9, 12] (fun rv _ _ kv wr => ∃ (k : Nat) (r : List Nat), kv = .int .i64 k ∧ k ≤ nb ∧ Hid (MeI f la lb W wr rv k r)) (fun _ _ _ kv _ => nb - (intOf kv).toNat)
  case atStart => exact ⟨0, _, rfl, Nat.zero_le _, HI0⟩
  case round =>
    obtain ⟨j, r, rfl, hj, hi⟩ := hrel
    obtain ⟨ao7, n7, cap7, rfl⟩ := hi.out.m.slice3
    by_cases hlt : j < nb
    · obtain ⟨ga, rfl, _, hga⟩ := HA.out.block (show 0 < nb by omega)
      obtain ⟨gb, rfl, _, hgb⟩ := HB.out.block (show 0 < nb by omega)
      have hca := (HA.out.later hi.out.b (Nat.le_refl _)).cell (show j < la.length by rw [← HLA.out]; exact hlt)
      have hcb := (HB.out.later hi.out.b (Nat.le_refl _)).cell (show j < lb.length by rw [HHL.out, ← HLA.out]; exact hlt)
      obtain ⟨x, HX⟩ : ∃ x, Hid (dg la j = x) := ⟨_, Lib.hid rfl⟩
      obtain ⟨y, HY⟩ : ∃ y, Hid (dg lb j = y) := ⟨_, Lib.hid rfl⟩
      have hx := HDA.out j
      have hy := HDB.out j
      rw [HX.out] at hca hx
      rw [HY.out] at hcb hy
      have HCX := Lib.hid (fun w => HC.out x y w hx hy)
      obtain ⟨d, HD⟩ : ∃ d, Hid (f x y = d) := ⟨_, Lib.hid rfl⟩
      rw [HD.out] at HCX
      have HBw := Lib.hid hi.out.b.size
      have HLr : Hid (r.length ≤ 1000000000) := Lib.hid (by rw [hi.out.len]; omega)
      go_wp2_with (first | ((with_reducible refine (HCX.out _).mono ?_); rintro e w' ⟨rfl, rfl⟩) | (at_builtin; go_loud (refine wpList_app43 rfl _ _ rfl W.heap.size wr _ d rfl (.slice ao7 n7 cap7) r rfl rfl hi.out.m HBw.out HLr.out ?_; intro v' w' hb' hm'; have HM := Lib.hid hm'; have HBB := Lib.hid hb'; clear hm' hb')))
      go_roundw
      case rel => exact ⟨j + 1, _, by go_num, by omega, Lib.hid (hi.out.step (by rw [← HD.out, HX.out, HY.out]) HM.out (hi.out.b.trans HBB.out))⟩
      case measure => simp [intOf]; omega
    · obtain rfl : j = nb := by omega
      have HF : Hid (r = zipD f la lb) := Lib.hid (MeI.done (by have := hi.out; rw [HLA.out] at this; exact this))
      go_wp2
      go_ret
      exact ⟨⟨_, rfl, by rw [← HF.out]; exact hi.out.m⟩, hi.out.b⟩
end Go.Proofs.YtkpoegdcmnjedaaDoor
