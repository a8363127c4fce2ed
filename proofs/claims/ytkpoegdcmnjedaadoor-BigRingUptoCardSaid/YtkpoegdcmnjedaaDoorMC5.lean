import Derived.Test.YtkpoegdcmnjedaaDoorMC4
namespace Go.Proofs.YtkpoegdcmnjedaaDoor
open Go.RowKit Go.Shelf
set_option linter.unusedVariables false
set_option linter.unusedSimpArgs false
attribute [local go_sem] Oper.semAt_some

theorem grownBy_setCell (W : World) (b j : Nat) (x : Value) : W.grownBy (W.setCell ⟨b, j, none⟩ x) (some b) :=
  ⟨rfl, rfl, rfl, by simp, fun k _ hk => heap_setCell_other W ⟨b, j, none⟩ k x (fun e => hk (by rw [e]))⟩
theorem M.setOther {B : Nat} {W : World} {v : Value} {l : List Nat} (h : M B W v l) {b : Nat} (hb : b < B) (j : Nat) (x : Value) : M B (W.setCell ⟨b, j, none⟩ x) v l := by
  refine h.kept (grownBy_setCell W b j x) ?_
  cases e : v.ownBlock with
  | none => exact Or.inl rfl
  | some k => exact Or.inr fun e2 => by have := (h.lt k e).1; cases e2; omega
theorem M.neBlock {B : Nat} {W : World} {v : Value} {l : List Nat} (h : M B W v l) {b : Nat} (hb : b < B) : some b ≠ v.ownBlock := fun e => by have := (h.lt b e.symm).1; omega
theorem four_new (W : World) (o1 o2 o3 o4 : Obj) : ∃ V, V = (((W.alloc o1).alloc o2).alloc o3).alloc o4 ∧ V.heap[W.heap.size]? = some o1 ∧ V.heap[W.heap.size + 1]? = some o2 ∧ V.heap[W.heap.size + 2]? = some o3 ∧ V.heap[W.heap.size + 3]? = some o4 ∧ Below W.heap.size W V ∧ V.heap.size = W.heap.size + 4 := by
  obtain ⟨V, hV, h1, h2, h3, hb, hs⟩ := three_new W o1 o2 o3
  refine ⟨V.alloc o4, by rw [hV], ?_, ?_, ?_, ?_, hb.alloc (by omega) _, by simp [hs]⟩
  · rw [heap_alloc_old _ _ (by omega)]; exact h1
  · rw [heap_alloc_old _ _ (by omega)]; exact h2
  · rw [heap_alloc_old _ _ (by omega)]; exact h3
  · have := heap_alloc_new V o4
    rw [hs] at this; exact this

def eqPlus (va vb vr k c : Nat) : Prop := vr + B32 ^ k * c = va + vb
def eqMinus (va vb vr k c : Nat) : Prop := vr + vb = va + B32 ^ k * c
theorem eqPlus_step {a b r k c x y : Nat} (h : eqPlus a b r k c) : eqPlus (a + B32 ^ k * x) (b + B32 ^ k * y) (r + B32 ^ k * ((x + y + c) % B32)) (k + 1) ((x + y + c) / B32) := by
  unfold eqPlus at *
  have h1 := Nat.mod_add_div (x + y + c) B32
  rw [Nat.pow_succ, Nat.mul_assoc, Nat.add_assoc, ← Nat.mul_add, h1, Nat.mul_add, Nat.mul_add]
  omega
theorem eqMinus_step {a b r k c x y : Nat} (h : eqMinus a b r k c) (hx : x < 4294967296) (hy : y < 4294967296) (hc : c ≤ 1) : eqMinus (a + B32 ^ k * x) (b + B32 ^ k * y) (r + B32 ^ k * dif x y c) (k + 1) (brw x y c) := by
  unfold eqMinus at *
  have h1 : dif x y c + y + c = x + brw x y c * B32 := dif_eq hx hy hc
  have h2 : B32 ^ k * dif x y c + B32 ^ k * y + B32 ^ k * c = B32 ^ k * x + B32 ^ k * (brw x y c * B32) := by rw [← Nat.mul_add, ← Nat.mul_add, h1, Nat.mul_add]
  have h3 : B32 ^ (k + 1) * brw x y c = B32 ^ k * (brw x y c * B32) := by rw [Nat.pow_succ, Nat.mul_assoc, Nat.mul_comm B32]
  rw [h3]
  omega
/-- one round. -/
theorem CarI.step {eq : Nat → Nat → Nat → Nat → Nat → Prop} {n0 B0 Br Bc : Nat} {W0 W1 w' : World} {pre : List (U × U)} {rv v' : Value} {r : List Nat} {c d c' : Nat} (h : CarI eq n0 B0 Br Bc W0 pre W1 rv r c) (x : U × U) (hd : d < 4294967296) (hc : c' ≤ 1)
    (he : ∀ a b rr k, eq a b rr k c → eq (a + B32 ^ k * x.1.val) (b + B32 ^ k * x.2.val) (rr + B32 ^ k * d) (k + 1) c') (hn : n0 ≤ Br ∧ n0 ≤ Bc) (hB : Br < B0 ∧ Bc < B0) (hne : Br ≠ Bc) (hm : M B0 w' v' (r ++ [d])) (hb : Below B0 (W1.setCell ⟨Bc, 0, none⟩ (.int .u32 (c' : Int))) w')
    (hk : ∀ (k : Nat) (ob : Obj), (W1.setCell ⟨Bc, 0, none⟩ (.int .u32 (c' : Int))).heap[k]? = some ob → some k ≠ rv.ownBlock → w'.heap[k]? = some ob) :
    CarI eq n0 B0 Br Bc W0 (pre ++ [x]) (w'.setCell ⟨Br, 0, none⟩ v') v' (r ++ [d]) c' := by
  have b1 : (W1.setCell ⟨Bc, 0, none⟩ (.int .u32 (c' : Int))).heap[Br]? = some (.cells #[rv] 44 (0, 0)) := by rw [heap_setCell_other _ _ _ _ (by simpa using hne)]; exact h.br
  have b2 : (W1.setCell ⟨Bc, 0, none⟩ (.int .u32 (c' : Int))).heap[Bc]? = some (.cells #[.int .u32 (c' : Int)] 75 (0, 0)) := by rw [heap_setCell_same _ _ _ _ _ _ h.bc]; rfl
  have k1 := hk Br _ b1 (h.m.neBlock hB.1)
  have k2 := hk Bc _ b2 (h.m.neBlock hB.2)
  refine ⟨?_, ?_, hm.setOther hB.1 _ _, by rw [List.length_append, List.length_append, h.len]; rfl, h.dig.snoc hd, hc, ?_, ?_, by have := hb.size; have := h.vz; simp at *; omega⟩
  · rw [heap_setCell_same _ _ _ _ _ _ k1]; rfl
  · rw [heap_setCell_other _ _ _ _ (by simpa using hne.symm)]; exact k2
  · rw [fsts_snoc, snds_snoc, val_snoc, val_snoc, val_snoc, fsts_length, snds_length, h.len, List.length_append]
    exact he _ _ _ _ h.eq
  · exact ((h.b.setCell hn.2 _).trans (hb.mono (by omega))).setCell hn.1 _

theorem M.isCells {B : Nat} {W : World} {v : Value} {l : List Nat} (h : M B W v l) {k : Nat} {o : Obj} (hk : W.heap[k]? = some o) (ho : o.isCells = false) : some k ≠ v.ownBlock := by
  intro e
  rcases h.2 with ⟨rfl, _⟩ | ⟨g, cap, cur, rfl, _, hgg, _⟩
  · simp [Value.ownBlock] at e
  · simp [Value.ownBlock] at e
    subst e
    rw [hk] at hgg
    cases hgg
    simp [Obj.isCells] at ho
theorem CarI.round {eq : Nat → Nat → Nat → Nat → Nat → Prop} {n0 B0 Br Bc : Nat} {W0 W1 w' : World} {pre : List (U × U)} {rv v' : Value} {r : List Nat} {c d c' : Nat} (h : CarI eq n0 B0 Br Bc W0 pre W1 rv r c) (x : U × U) (hd : d < 4294967296) (hc : c' ≤ 1)
    (he : ∀ a b rr k, eq a b rr k c → eq (a + B32 ^ k * x.1.val) (b + B32 ^ k * x.2.val) (rr + B32 ^ k * d) (k + 1) c') (hn : n0 ≤ Br ∧ n0 ≤ Bc) (hB : Br < B0 ∧ Bc < B0) (hne : Br ≠ Bc) (hm : M B0 w' v' (r ++ [d])) (hb : Below B0 (W1.setCell ⟨Bc, 0, none⟩ (.int .u32 (c' : Int))) w')
    (hk : ∀ (k : Nat) (ob : Obj), (W1.setCell ⟨Bc, 0, none⟩ (.int .u32 (c' : Int))).heap[k]? = some ob → some k ≠ rv.ownBlock → w'.heap[k]? = some ob)
    (bs : List Nat) (hbs : ∀ b ∈ bs, b < B0 ∧ b ≠ Br ∧ b ≠ Bc) :
    KeepsOthers W1 (w'.setCell ⟨Br, 0, none⟩ v') ∧ KpB bs W1 (w'.setCell ⟨Br, 0, none⟩ v') ∧ CarP eq n0 B0 Br Bc W0 (pre ++ [x]) (w'.setCell ⟨Br, 0, none⟩ v') := by
  have hs := h.step x hd hc he hn hB hne hm hb hk
  have hk0 : KeepsOthers (W1.setCell ⟨Bc, 0, none⟩ (.int .u32 (c' : Int))) w' := ⟨hb.size, fun k o h1 h2 => hk k o h1 ((h.m.setOther hB.2 0 (.int .u32 (c' : Int))).isCells h1 h2)⟩
  refine ⟨(KeepsOthers.setCell _ _ _).trans (hk0.trans (KeepsOthers.setCell _ _ _)), ?_, ⟨_, _, _, hs⟩⟩
  intro b hbb
  obtain ⟨h1, h2, h3⟩ := hbs b hbb
  rw [heap_setCell_other _ _ _ _ (by simpa using h2), hb.block b h1, heap_setCell_other _ _ _ _ (by simpa using h3)]
theorem M.putDeferred {B : Nat} {W : World} {v : Value} {l : List Nat} (h : M B W v l) {D : Nat} (hk : W.heap[D]? = some (.deferred (some []))) (o' : Obj) : M B (W.putObj D o') v l := by
  refine h.kept (grownBy_putObj' W D o') ?_
  have := h.isCells hk rfl
  cases e : v.ownBlock with
  | none => exact Or.inl rfl
  | some k => exact Or.inr fun e2 => this (by rw [e, e2])
theorem CarI.ends {eq : Nat → Nat → Nat → Nat → Nat → Prop} {n0 B0 Br Bc : Nat} {W0 W1 w' : World} {pre : List (U × U)} {rv v' : Value} {r : List Nat} {c : Nat} (h : CarI eq n0 B0 Br Bc W0 pre W1 rv r c) : r.length = pre.length := h.len

set_option maxRecDepth 100000 in
set_option maxHeartbeats 4000000 in
theorem plus_any {B B' : Nat} {va vb : Value} {l m : List Nat} {W : World} (ha : M B W va l) (hb : M B' W vb m) (hl : Dig B32 l) (hm : Dig B32 m) (hla : l.length ≤ 1000000) (hlb : m.length ≤ 1000000) :
    Calls Tryd.prog 111 #[va, vb] W fun e W' => (∃ v', e = .returned v' ∧ M W.heap.size W' v' (digs B32 (val B32 l + val B32 m))) ∧ Below W.heap.size W W' := by
  obtain ⟨aa, ca, ga, rfl, ra⟩ := ha.rd'
  obtain ⟨ab, cb, gb, rfl, rb⟩ := hb.rd'
  clear ha hb
  refine (callsIn_wide (n := 3)).1 ?_
  refine callsIn_of_wp_marks Tryd.func111 rfl trivial ?_ rfl
  simp only [Tryd.ntmps111, List.size_toArray, List.length_cons, List.length_nil, Nat.reduceAdd, Nat.reduceSub, Array.replicate_succ, Array.replicate_zero, List.push_toArray, List.append_toArray, List.nil_append, List.cons_append]
  refine wpIn_wide.2 ?_
  go_wp2_with (go_at_call 134; refine (pairs_any _ _ _ _ _ _ _).mono ?_; rintro e w' ⟨rfl, rfl⟩)
  obtain ⟨V, hV, v0, v1, v2, v3, vb, vs⟩ := four_new W (Obj.cells #[Value.slice none 0 0] 44) (Obj.cells #[Value.int IntKind.u32 0] 75) (Obj.cells #[Value.slice aa l.length ca] 44) (Obj.cells #[Value.slice ab m.length cb] 44)
  rw [← hV]
  have c1 := (cell_of_row _ _ 0 _ _ _ v2).trans rfl
  have c2 := (cell_of_row _ _ 0 _ _ _ v3).trans rfl
  have hI0 : CarP eqPlus W.heap.size V.heap.size W.heap.size (W.heap.size + 1) W [] V := ⟨_, [], 0, v0, v1, M.nil _ _, rfl, Dig.nil (by decide), by omega, by simp [eqPlus, fsts, snds, val_nil], vb, Nat.le_refl _⟩
  obtain ⟨bs, hbs, hbp⟩ := bs_of (W.heap.size + 1 + 1) (W.heap.size + 1 + 1 + 1) ga gb l m (fun b => b < V.heap.size ∧ b ≠ W.heap.size ∧ b ≠ W.heap.size + 1) (by omega) (by omega) (fun h => by have := (ra.1 h).2; omega) (fun h => by have := (rb.1 h).2; omega)
  have HBP := Lib.hid hbp
  have HBS := Lib.hid hbs
  have HVS := Lib.hid vs
  have hVlt : W.heap.size + 1 < V.heap.size := by omega
  clear hbp hbs hV vs
  refine (wpIn_wide (n := 3)).1 ?_
  refine wpIn_rangeFunc_ownF rfl (by decide) (gf := 142) (lb := #[.pointer (some ⟨W.heap.size + 1 + 1, 0, none⟩), .pointer (some ⟨W.heap.size + 1 + 1 + 1, 0, none⟩)]) rfl trivial (enters_of Tryd.func142 (by kernel_rfl) rfl)
    (pairs_stops 2 (by decide) (W.heap.size + 1 + 1) (W.heap.size + 1 + 1 + 1) ga 0 gb 0 aa ab ca cb l m hl hm hla hlb V (by have := HVS.out; omega) (by have := HVS.out; omega) c1 c2 (ra.below vb) (rb.below vb) bs HBS.out) (fun h k => h.trans k) ?hKb (Below.refl _ _) (fun _ => rfl)
    (CarP eqPlus W.heap.size V.heap.size W.heap.size (W.heap.size + 1) W)
    (fun _ _ _ => False) (carP_own (Nat.le_refl _) vb.size) (fun _ _ _ _ _ hs _ _ => hs) hI0 ?a1 ?assign ?body ?done ?stop
  case hKb =>
    intro W1 lb o o' hl1 hW1 _ _ b hb1
    refine World.putObj_heap_other ?_
    have := (HBP.out b hb1).1
    omega
  case assign =>
    intro l x W K hK
    gi_wp2
    exact hK
  case body =>
    rintro lp pre ⟨⟨x, hx⟩, ⟨y, hy⟩⟩ W1 ⟨rv, r, c, hI⟩ hlen
    have hc1 := (cell_of_row _ _ 0 _ _ _ hI.br).trans rfl
    have hf1 := frozen_of_row _ _ 0 _ _ hI.br
    have hc2 := (cell_of_row _ _ 0 _ _ _ hI.bc).trans rfl
    have hf2 := frozen_of_row _ _ 0 _ _ hI.bc
    have hcl := hI.cl
    obtain ⟨d, HD⟩ : ∃ d : Nat, Hid (d = (x + y + c) % 4294967296) := ⟨_, Lib.hid rfl⟩
    obtain ⟨c', HC⟩ : ∃ c' : Nat, Hid (c' = (x + y + c) / 4294967296) := ⟨_, Lib.hid rfl⟩
    have hz : V.heap.size ≤ (W1.setCell ⟨W.heap.size + 1, 0, none⟩ (Value.int IntKind.u32 (c' : Int))).heap.size := by have := hI.vz; simpa using this
    have HZ := Lib.hid hz
    have HL : Hid (r.length ≤ 1000000000) := Lib.hid (by rw [hI.len]; have : pre.length < max l.length m.length := hlen; omega)
    have HI := Lib.hid hI
    clear hI hz
    gi_wp2
    refine ⟨trivial, ?_⟩
    refine (CallsIn.inRound lp (callsIn_wide.2 (add32_to _ hx hy hcl HD.out HC.out))).mono ?_
    rintro e w' ⟨rfl, rfl⟩
    gi_wp2_with (gi_at_builtin; go_loud (refine wpListIn_app32 rfl _ _ rfl V.heap.size _ _ d rfl _ (by simp) rv r rfl rfl (HI.out.m.setOther hVlt _ _) HZ.out HL.out ?_; intro v' w' hb' hm' hk'; have HM := Lib.hid hm'; have HB := Lib.hid hb'; have HK := Lib.hid hk'; have s1 := HK.out W.heap.size _ ((heap_setCell_other _ _ _ _ (by simp)).trans HI.out.br) (HI.out.m.neBlock (by omega)); have s2 := (cell_of_row _ _ 0 _ _ _ s1).trans rfl; have s3 := frozen_of_row _ _ 0 _ _ s1; clear hm' hb' hk' s1; obtain ⟨ao', n', cap', rfl⟩ := HM.out.slice3))
    exact HI.out.round (⟨x, hx⟩, ⟨y, hy⟩) (by rw [HD.out]; exact Nat.mod_lt _ (by decide)) (by rw [HC.out]; omega) (fun a b rr k he => by rw [HD.out, HC.out]; exact eqPlus_step he) ⟨Nat.le_refl _, by omega⟩ ⟨by omega, hVlt⟩ (by omega) HM.out HB.out HK.out bs HBP.out
  case done =>
    rintro D ys W3 hD rfl ⟨rv, r, c, hI⟩ hK
    have hc1 := (cell_of_row _ _ 0 _ _ _ hI.br).trans rfl
    have hc2 := (cell_of_row _ _ 0 _ _ _ hI.bc).trans rfl
    have hcl := hI.cl
    have hlen := hI.len
    rw [pairsF_length] at hlen
    have HL : Hid (r.length ≤ 1000000000) := Lib.hid (by omega)
    have HI := Lib.hid hI
    have HK := Lib.hid hK
    clear hI hK hlen
    have hVle : V.heap.size ≤ W3.heap.size := HI.out.vz
    go_wp2_with (at_builtin; go_loud (refine wpList_app32 rfl _ _ rfl V.heap.size W3 _ c rfl rv r rfl rfl HI.out.m hVle HL.out ?_; intro v' w' hb' hm' hk'; have HM := Lib.hid hm'; have HB := Lib.hid hb'; have HKK := Lib.hid hk'; clear hm' hb' hk'; obtain ⟨ao', n', cap', rfl⟩ := HM.out.slice3))
    have HDD : Hid (Dig B32 (r ++ [c])) := Lib.hid (HI.out.dig.snoc (by show c < 4294967296; omega))
    refine (trimmed_any HM.out HDD.out).mono ?_
    rintro e w2 ⟨rfl, rfl⟩
    go_wp2
    have hKD := HKK.out D _ HK.out (HI.out.m.isCells HK.out rfl)
    refine ⟨by simp, .inl ⟨_, _, rfl, run_takeDeferred hKD, ?_⟩⟩
    refine ⟨_, results_tmp rfl _ _ _, ⟨_, rfl, ?_⟩, ?_⟩
    · have hE : val B32 (r ++ [c]) = val B32 l + val B32 m := by
        have h1 := HI.out.eq
        unfold eqPlus at h1
        rw [fsts_pairs, snds_pairs] at h1
        rw [val_snoc, HI.out.len, h1]
      rw [← hE]
      have h2 := (HM.out.trim HDD.out).mono vb.size
      exact h2.putDeferred hKD _
    · exact (HI.out.b.trans (HB.out.mono vb.size)).grown (grownBy_putObj' _ D _) (Nat.le_trans vb.size (Nat.le_trans HI.out.vz HB.out.size)) (fun k e => by cases e; exact Nat.le_trans vb.size hD)
  case stop =>
    rintro D c pre W _ _ h _
    exact h.elim
set_option maxRecDepth 100000 in
set_option maxHeartbeats 4000000 in
theorem minus_any {B B' : Nat} {va vb : Value} {l m : List Nat} {W : World} (ha : M B W va l) (hb : M B' W vb m) (hl : Dig B32 l) (hm : Dig B32 m) (hla : l.length ≤ 1000000) (hlb : m.length ≤ 1000000) (hle : val B32 m ≤ val B32 l) :
    Calls Tryd.prog 113 #[va, vb] W fun e W' => (∃ v', e = .returned v' ∧ M W.heap.size W' v' (digs B32 (val B32 l - val B32 m))) ∧ Below W.heap.size W W' := by
  obtain ⟨aa, ca, ga, rfl, ra⟩ := ha.rd'
  obtain ⟨ab, cb, gb, rfl, rb⟩ := hb.rd'
  clear ha hb
  refine (callsIn_wide (n := 3)).1 ?_
  refine callsIn_of_wp_marks Tryd.func113 rfl trivial ?_ rfl
  simp only [Tryd.ntmps113, List.size_toArray, List.length_cons, List.length_nil, Nat.reduceAdd, Nat.reduceSub, Array.replicate_succ, Array.replicate_zero, List.push_toArray, List.append_toArray, List.nil_append, List.cons_append]
  refine wpIn_wide.2 ?_
  go_wp2_with (go_at_call 134; refine (pairs_any _ _ _ _ _ _ _).mono ?_; rintro e w' ⟨rfl, rfl⟩)
  obtain ⟨V, hV, v0, v1, v2, v3, vb, vs⟩ := four_new W (Obj.cells #[Value.slice none 0 0] 44) (Obj.cells #[Value.int IntKind.u32 0] 75) (Obj.cells #[Value.slice aa l.length ca] 44) (Obj.cells #[Value.slice ab m.length cb] 44)
  rw [← hV]
  have c1 := (cell_of_row _ _ 0 _ _ _ v2).trans rfl
  have c2 := (cell_of_row _ _ 0 _ _ _ v3).trans rfl
  have hI0 : CarP eqMinus W.heap.size V.heap.size W.heap.size (W.heap.size + 1) W [] V := ⟨_, [], 0, v0, v1, M.nil _ _, rfl, Dig.nil (by decide), by omega, by simp [eqMinus, fsts, snds, val_nil], vb, Nat.le_refl _⟩
  obtain ⟨bs, hbs, hbp⟩ := bs_of (W.heap.size + 1 + 1) (W.heap.size + 1 + 1 + 1) ga gb l m (fun b => b < V.heap.size ∧ b ≠ W.heap.size ∧ b ≠ W.heap.size + 1) (by omega) (by omega) (fun h => by have := (ra.1 h).2; omega) (fun h => by have := (rb.1 h).2; omega)
  have HBP := Lib.hid hbp
  have HBS := Lib.hid hbs
  have HVS := Lib.hid vs
  have hVlt : W.heap.size + 1 < V.heap.size := by omega
  clear hbp hbs hV vs
  refine (wpIn_wide (n := 3)).1 ?_
  refine wpIn_rangeFunc_ownF rfl (by decide) (gf := 142) (lb := #[.pointer (some ⟨W.heap.size + 1 + 1, 0, none⟩), .pointer (some ⟨W.heap.size + 1 + 1 + 1, 0, none⟩)]) rfl trivial (enters_of Tryd.func142 (by kernel_rfl) rfl)
    (pairs_stops 2 (by decide) (W.heap.size + 1 + 1) (W.heap.size + 1 + 1 + 1) ga 0 gb 0 aa ab ca cb l m hl hm hla hlb V (by have := HVS.out; omega) (by have := HVS.out; omega) c1 c2 (ra.below vb) (rb.below vb) bs HBS.out) (fun h k => h.trans k) ?hKb (Below.refl _ _) (fun _ => rfl)
    (CarP eqMinus W.heap.size V.heap.size W.heap.size (W.heap.size + 1) W)
    (fun _ _ _ => False) (carP_own (Nat.le_refl _) vb.size) (fun _ _ _ _ _ hs _ _ => hs) hI0 ?a1 ?assign ?body ?done ?stop
  case hKb =>
    intro W1 lb o o' hl1 hW1 _ _ b hb1
    refine World.putObj_heap_other ?_
    have := (HBP.out b hb1).1
    omega
  case assign =>
    intro l x W K hK
    gi_wp2
    exact hK
  case body =>
    rintro lp pre ⟨⟨x, hx⟩, ⟨y, hy⟩⟩ W1 ⟨rv, r, c, hI⟩ hlen
    have hc1 := (cell_of_row _ _ 0 _ _ _ hI.br).trans rfl
    have hf1 := frozen_of_row _ _ 0 _ _ hI.br
    have hc2 := (cell_of_row _ _ 0 _ _ _ hI.bc).trans rfl
    have hf2 := frozen_of_row _ _ 0 _ _ hI.bc
    have hcl := hI.cl
    obtain ⟨d, HD⟩ : ∃ d : Nat, Hid (d = dif x y c) := ⟨_, Lib.hid rfl⟩
    obtain ⟨c', HC⟩ : ∃ c' : Nat, Hid (c' = brw x y c) := ⟨_, Lib.hid rfl⟩
    have hz : V.heap.size ≤ (W1.setCell ⟨W.heap.size + 1, 0, none⟩ (Value.int IntKind.u32 (c' : Int))).heap.size := by have := hI.vz; simpa using this
    have HZ := Lib.hid hz
    have HL : Hid (r.length ≤ 1000000000) := Lib.hid (by rw [hI.len]; have : pre.length < max l.length m.length := hlen; omega)
    have HI := Lib.hid hI
    clear hI hz
    gi_wp2
    refine ⟨trivial, ?_⟩
    refine (CallsIn.inRound lp (callsIn_wide.2 (sub32_to _ hx hy hcl HD.out HC.out))).mono ?_
    rintro e w' ⟨rfl, rfl⟩
    gi_wp2_with (gi_at_builtin; go_loud (refine wpListIn_app32 rfl _ _ rfl V.heap.size _ _ d rfl _ (by simp) rv r rfl rfl (HI.out.m.setOther hVlt _ _) HZ.out HL.out ?_; intro v' w' hb' hm' hk'; have HM := Lib.hid hm'; have HB := Lib.hid hb'; have HK := Lib.hid hk'; have s1 := HK.out W.heap.size _ ((heap_setCell_other _ _ _ _ (by simp)).trans HI.out.br) (HI.out.m.neBlock (by omega)); have s2 := (cell_of_row _ _ 0 _ _ _ s1).trans rfl; have s3 := frozen_of_row _ _ 0 _ _ s1; clear hm' hb' hk' s1; obtain ⟨ao', n', cap', rfl⟩ := HM.out.slice3))
    exact HI.out.round (⟨x, hx⟩, ⟨y, hy⟩) (by rw [HD.out]; exact dif_lt hx hy hcl) (by rw [HC.out]; exact brw_le _ _ _) (fun a b rr k he => by rw [HD.out, HC.out]; exact eqMinus_step he hx hy hcl) ⟨Nat.le_refl _, by omega⟩ ⟨by omega, hVlt⟩ (by omega) HM.out HB.out HK.out bs HBP.out
  case done =>
    rintro D ys W3 hD rfl ⟨rv, r, c, hI⟩ hK
    have hc1 := (cell_of_row _ _ 0 _ _ _ hI.br).trans rfl
    have hc2 := (cell_of_row _ _ 0 _ _ _ hI.bc).trans rfl
    have hcl := hI.cl
    have hlen := hI.len
    rw [pairsF_length] at hlen
    have HL : Hid (r.length ≤ 1000000000) := Lib.hid (by omega)
    have HI := Lib.hid hI
    have HK := Lib.hid hK
    clear hI hK hlen
    have hVle : V.heap.size ≤ W3.heap.size := HI.out.vz
    obtain ⟨ao', n', cap', rfl⟩ := HI.out.m.slice3
    go_wp2_with (go_at_call 125; refine (trimmed_any HI.out.m HI.out.dig).mono ?_; rintro e w2 ⟨rfl, rfl⟩)
    have hKD := HK.out
    refine ⟨by simp, .inl ⟨_, _, rfl, run_takeDeferred hKD, ?_⟩⟩
    refine ⟨_, results_tmp rfl _ _ _, ⟨_, rfl, ?_⟩, ?_⟩
    · have hE : val B32 r = val B32 l - val B32 m := by
        have h1 := HI.out.eq
        unfold eqMinus at h1
        rw [fsts_pairs, snds_pairs] at h1
        have h2 := val_lt HI.out.dig
        rw [HI.out.len] at h2
        have h3 : c = 0 := by
          refine Classical.byContradiction fun hne => ?_
          have : c = 1 := by omega
          rw [this] at h1
          omega
        rw [h3] at h1
        omega
      rw [← hE]
      have h2 := (HI.out.m.trim HI.out.dig).mono vb.size
      exact h2.putDeferred hKD _
    · exact HI.out.b.grown (grownBy_putObj' _ D _) (Nat.le_trans vb.size HI.out.vz) (fun k e => by cases e; exact Nat.le_trans vb.size hD)
  case stop =>
    rintro D c pre W _ _ h _
    exact h.elim
end Go.Proofs.YtkpoegdcmnjedaaDoor
