import Derived.Test.YtkpoegdcmnjedaaDoorMC2
namespace Go.Proofs.YtkpoegdcmnjedaaDoor
open Go.RowKit Go.Shelf
set_option linter.unusedVariables false
set_option linter.unusedSimpArgs false
attribute [local go_sem] Oper.semAt_some

def cmpF (pre : List (U × U)) : Int := pre.foldl (fun r x => if x.1.val < x.2.val then -1 else if x.2.val < x.1.val then 1 else r) 0
theorem cmpF_snoc (pre : List (U × U)) (x : U × U) : cmpF (pre ++ [x]) = if x.1.val < x.2.val then -1 else if x.2.val < x.1.val then 1 else cmpF pre := by simp [cmpF]
theorem cmpF_take {l m : List Nat} {hl : Dig B32 l} {hm : Dig B32 m} : ∀ k, k ≤ max l.length m.length → cmpF ((pairsF l m hl hm).take k) = cmpI (V B32 l k) (V B32 m k)
  | 0, _ => by simp [cmpF, cmpI, V]
  | k + 1, h => by
    rw [pairsF_take h, cmpF_snoc, cmp_step hl hm, cmpF_take k (by omega)]
    rfl
theorem cmpF_all {l m : List Nat} {hl : Dig B32 l} {hm : Dig B32 m} : cmpF (pairsF l m hl hm) = cmpI (val B32 l) (val B32 m) := by
  have h := cmpF_take (hl := hl) (hm := hm) _ (Nat.le_refl (max l.length m.length))
  rw [List.take_of_length_le (by rw [pairsF_length]; exact Nat.le_refl _), V_stop _ (by omega), V_stop _ (by omega)] at h
  exact h

/-- a box lies as it lies, and nothing of before has turned. -/
def BoxI (n0 Br : Nat) (ty : TypeId) (f : List (U × U) → Value) (W0 : World) (pre : List (U × U)) (W : World) : Prop :=
  W.heap[Br]? = some (.cells #[f pre] ty (0, 0)) ∧ Below n0 W0 W
theorem boxI_own {n0 Br B : Nat} {ty : TypeId} {f : List (U × U) → Value} {W0 : World} (hn : n0 ≤ W0.heap.size) (hB : n0 ≤ B) : OwnFrom B (BoxI n0 Br ty f W0) := by
  intro s W W' row h hg hr
  obtain ⟨h1, h2⟩ := h
  have hr' : ∀ r, row = some r → ∃ o : Obj, W.heap[r]? = some o ∧ o.isCells = false := fun r e => (hr r e).2
  exact ⟨(grownBy_keeps_cells hg hr' h1 rfl).trans h1, h2.grown hg (Nat.le_trans hn h2.size) (fun k e => Nat.le_trans hB (hr k e).1)⟩

theorem three_new (W : World) (o1 o2 o3 : Obj) : ∃ V, V = ((W.alloc o1).alloc o2).alloc o3 ∧ V.heap[W.heap.size]? = some o1 ∧ V.heap[W.heap.size + 1]? = some o2 ∧ V.heap[W.heap.size + 2]? = some o3 ∧ Below W.heap.size W V ∧ V.heap.size = W.heap.size + 3 := by
  refine ⟨_, rfl, ?_, ?_, ?_, (((Below.refl _ _).alloc (Nat.le_refl _) _).alloc (by simp) _).alloc (by simp; omega) _, by simp⟩
  · rw [heap_alloc_old _ _ (by simp; omega), heap_alloc_old _ _ (by simp), heap_alloc_new]
  · rw [heap_alloc_old _ _ (by simp)]
    have := heap_alloc_new (W.alloc o1) o2
    rwa [World.size_alloc] at this
  · have := heap_alloc_new ((W.alloc o1).alloc o2) o3
    rwa [World.size_alloc, World.size_alloc] at this
theorem bs_of (Ba Bb ga gb : Nat) (l m : List Nat) (P : Nat → Prop) (h1 : P Ba) (h2 : P Bb) (h3 : l ≠ [] → P ga) (h4 : m ≠ [] → P gb) :
    ∃ bs : List Nat, (Ba ∈ bs ∧ Bb ∈ bs ∧ (l ≠ [] → ga ∈ bs) ∧ (m ≠ [] → gb ∈ bs)) ∧ ∀ b ∈ bs, P b := by
  refine ⟨[Ba, Bb, if l = [] then Ba else ga, if m = [] then Ba else gb], ⟨by simp, by simp, fun h => by simp [h], fun h => by simp [h]⟩, ?_⟩
  intro b hb
  simp at hb
  rcases hb with rfl | rfl | rfl | rfl
  · exact h1
  · exact h2
  · split
    · exact h1
    · exact h3 (by assumption)
  · split
    · exact h1
    · exact h4 (by assumption)
theorem KpB.setCell {bs : List Nat} (W : World) (b j : Nat) (v : Value) (h : b ∉ bs) : KpB bs W (W.setCell ⟨b, j, none⟩ v) := fun c hc => heap_setCell_other _ _ _ _ (fun e => h (by have e' : c = b := e; rw [← e']; exact hc))
theorem M.rd' {B : Nat} {W : World} {v : Value} {l : List Nat} (h : M B W v l) : ∃ ao cap g, v = .slice ao l.length cap ∧ Rd W g 0 ao l := by
  obtain ⟨ao, cap, rfl, _⟩ := h.slice
  obtain ⟨g, hg⟩ := h.rd
  exact ⟨ao, cap, g, rfl, hg⟩
theorem Rd.below {W V : World} {g off : Nat} {ao : Option Addr} {l : List Nat} (h : Rd W g off ao l) (hb : Below W.heap.size W V) : Rd V g off ao l := by
  refine ⟨fun hne => ⟨(h.1 hne).1, Nat.lt_of_lt_of_le (h.1 hne).2 hb.size⟩, fun i hi => ?_⟩
  have hne : l ≠ [] := by intro e; subst e; simp at hi
  exact (hb.cell (p := ⟨g, off + i, none⟩) (h.1 hne).2).trans (h.2 i hi)

set_option maxRecDepth 100000 in
set_option maxHeartbeats 4000000 in
theorem compare_rd {aa ab : Option Addr} {ca cb ga oa gb ob : Nat} {l m : List Nat} {W : World} (ha : Rd W ga oa aa l) (hb : Rd W gb ob ab m) (hl : Dig B32 l) (hm : Dig B32 m) (hla : l.length ≤ 1000000) (hlb : m.length ≤ 1000000) :
    Calls Tryd.prog 112 #[.slice aa l.length ca, .slice ab m.length cb] W fun e W' => e = .returned (.int .i64 (cmpI (val B32 l) (val B32 m))) ∧ Below W.heap.size W W' := by
  refine (callsIn_wide (n := 3)).1 ?_
  refine callsIn_of_wp_marks Tryd.func112 rfl trivial ?_ rfl
  simp only [Tryd.ntmps112, List.size_toArray, List.length_cons, List.length_nil, Nat.reduceAdd, Nat.reduceSub, Array.replicate_succ, Array.replicate_zero, List.push_toArray, List.append_toArray, List.nil_append, List.cons_append]
  refine wpIn_wide.2 ?_
  go_wp2_with (go_at_call 134; refine (pairs_any _ _ _ _ _ _ _).mono ?_; rintro e w' ⟨rfl, rfl⟩)
  obtain ⟨V, hV, v0, v1, v2, vb, vs⟩ := three_new W (Obj.cells #[Value.int IntKind.i64 0] 3) (Obj.cells #[Value.slice aa l.length ca] 44) (Obj.cells #[Value.slice ab m.length cb] 44)
  rw [← hV]
  have c1 := (cell_of_row _ _ 0 _ _ _ v1).trans rfl
  have c2 := (cell_of_row _ _ 0 _ _ _ v2).trans rfl
  have hI0 : BoxI W.heap.size W.heap.size 3 (fun pre => .int .i64 (cmpF pre)) W [] V := ⟨v0, vb⟩
  obtain ⟨bs, hbs, hbp⟩ := bs_of (W.heap.size + 1) (W.heap.size + 1 + 1) ga gb l m (fun b => b < V.heap.size ∧ b ≠ W.heap.size) (by omega) (by omega) (fun h => by have := (ha.1 h).2; omega) (fun h => by have := (hb.1 h).2; omega)
  have hnb : W.heap.size ∉ bs := fun h => (hbp _ h).2 rfl
  have HBP := Lib.hid hbp
  have HBS := Lib.hid hbs
  clear hbp hbs hV
  refine (wpIn_wide (n := 3)).1 ?_
  refine wpIn_rangeFunc_ownF rfl (by decide) (gf := 142) (lb := #[.pointer (some ⟨W.heap.size + 1, 0, none⟩), .pointer (some ⟨W.heap.size + 1 + 1, 0, none⟩)]) rfl trivial (enters_of Tryd.func142 (by kernel_rfl) rfl)
    (pairs_stops 2 (by decide) (W.heap.size + 1) (W.heap.size + 1 + 1) ga oa gb ob aa ab ca cb l m hl hm hla hlb V (by omega) (by omega) c1 c2 (ha.below vb) (hb.below vb) bs HBS.out) (fun h k => h.trans k) ?hKb (Below.refl _ _) (fun _ => rfl)
    (BoxI W.heap.size W.heap.size 3 (fun pre => .int .i64 (cmpF pre)) W)
    (fun _ _ _ => False) (boxI_own (Nat.le_refl _) vb.size) (fun _ _ _ _ _ hs _ _ => hs) hI0 ?a1 ?assign ?body ?done ?stop
  case hKb =>
    intro W1 lb o o' hl1 hW1 _ _ b hb1
    refine World.putObj_heap_other ?_
    have := (HBP.out b hb1).1
    omega
  case assign =>
    intro l x W K hK
    gi_wp2
    exact hK
  case body =>
    rintro lp pre x W1 hI _
    have hI' := hI
    obtain ⟨h1, h2⟩ := hI
    have hc1 := (cell_of_row _ _ 0 _ _ _ h1).trans rfl
    have hf1 := frozen_of_row _ _ 0 _ _ h1
    obtain ⟨⟨x, hx⟩, ⟨y, hy⟩⟩ := x
    by_cases hxy : x < y
    · gi_wp2
      refine ⟨KeepsOthers.setCell _ _ _, KpB.setCell _ _ _ _ hnb, ?_, h2.setCell (Nat.le_refl _) _⟩
      rw [heap_setCell_same _ _ _ _ _ _ h1]
      have e := (cmpF_snoc pre (⟨x, hx⟩, ⟨y, hy⟩)).trans (if_pos hxy)
      simp only [e]
      rfl
    · by_cases hyx : y < x
      · gi_wp2
        refine ⟨KeepsOthers.setCell _ _ _, KpB.setCell _ _ _ _ hnb, ?_, h2.setCell (Nat.le_refl _) _⟩
        rw [heap_setCell_same _ _ _ _ _ _ h1]
        have e := (cmpF_snoc pre (⟨x, hx⟩, ⟨y, hy⟩)).trans ((if_neg hxy).trans (if_pos hyx))
        simp only [e]
        rfl
      · gi_wp2
        refine ⟨KeepsOthers.refl _, fun _ _ => rfl, ?_, h2⟩
        rw [h1]
        have e := (cmpF_snoc pre (⟨x, hx⟩, ⟨y, hy⟩)).trans ((if_neg hxy).trans (if_neg hyx))
        simp only [e]
  case done =>
    rintro D ys W3 hD rfl hI hK
    obtain ⟨h1, h2⟩ := hI
    simp only [cmpF_all] at h1
    have hc1 := (cell_of_row _ _ 0 _ _ _ h1).trans rfl
    have HK := Lib.hid hK
    clear h1 hK
    go_wp2
    refine ⟨by simp, .inl ⟨_, _, rfl, run_takeDeferred HK.out, ?_⟩⟩
    refine ⟨_, results_tmp rfl _ _ _, rfl, ?_⟩
    exact h2.grown (grownBy_putObj' W3 D _) h2.size (fun k e => by cases e; exact Nat.le_trans vb.size hD)
  case stop =>
    rintro D c pre W _ _ h _
    exact h.elim
theorem compare_any {B B' : Nat} {va vb : Value} {l m : List Nat} {W : World} (ha : M B W va l) (hb : M B' W vb m) (hl : Dig B32 l) (hm : Dig B32 m) (hla : l.length ≤ 1000000) (hlb : m.length ≤ 1000000) :
    Calls Tryd.prog 112 #[va, vb] W fun e W' => e = .returned (.int .i64 (cmpI (val B32 l) (val B32 m))) ∧ Below W.heap.size W W' := by
  obtain ⟨aa, ca, ga, rfl, ra⟩ := ha.rd'
  obtain ⟨ab, cb, gb, rfl, rb⟩ := hb.rd'
  exact compare_rd ra rb hl hm hla hlb
end Go.Proofs.YtkpoegdcmnjedaaDoor
