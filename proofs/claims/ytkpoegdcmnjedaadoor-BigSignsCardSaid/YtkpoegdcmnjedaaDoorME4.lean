import Derived.Test.YtkpoegdcmnjedaaDoorME3b
import Derived.Deep.QuietTactic
import Derived.BigQuiet
import Derived.Deep.CutBlock
import Derived.Deep.CutRange
import Derived.Deep.RegionHeld3
namespace Go.Proofs.YtkpoegdcmnjedaaDoor
open Go.RowKit Go.Shelf
set_option linter.unusedVariables false
set_option linter.unusedSimpArgs false
attribute [local go_sem] Oper.semAt_some

/-! ### one digit of a quotient -/
/-- the guess is not too much by the two highest digits. -/
def Fits (v1 v2 top u2 g : Nat) : Prop := g * (v1 * B32 + v2) ≤ top * B32 + u2
theorem fits_zero (v1 v2 top u2 : Nat) : Fits v1 v2 top u2 0 := by unfold Fits; omega
theorem fits_iff {v1 v2 top u2 g rest : Nat} (hr : rest + g * v1 = top) : Fits v1 v2 top u2 g ↔ g * v2 ≤ rest * B32 + u2 := by
  unfold Fits
  rw [← hr, Nat.mul_add, Nat.add_mul, ← Nat.mul_assoc]
  omega
theorem fits_big {v1 v2 top u2 g rest : Nat} (hr : rest + g * v1 = top) (h : B32 ≤ rest) (hg : g < B32) (hv : v2 < B32) : Fits v1 v2 top u2 g := by
  rw [fits_iff hr]
  generalize B32 = b at *
  have h1 : g * v2 ≤ b * b := Nat.mul_le_mul (by omega) (by omega)
  have h2 : b * b ≤ rest * b := Nat.mul_le_mul_right _ h
  omega
theorem fits_over {v1 v2 top u2 g : Nat} (h : top < g * v1) (hu : u2 < B32) : ¬ Fits v1 v2 top u2 g := by
  unfold Fits
  generalize B32 = b at *
  rw [Nat.mul_add, ← Nat.mul_assoc]
  have : (top + 1) * b ≤ g * v1 * b := Nat.mul_le_mul_right _ h
  rw [Nat.add_mul] at this
  omega
theorem quo_close {b v1 v2 top u2 g W low ul : Nat} (hW : 0 < W) (hv1 : 1 ≤ v1) (hlow : low < W) (hul : ul < W) (hg : g < b)
    (hfit : g * (v1 * b + v2) ≤ top * b + u2) (hnext : g + 1 < b → ¬ (g + 1) * (v1 * b + v2) ≤ top * b + u2) (hq : (W * (top * b + u2) + ul) / (W * (v1 * b + v2) + low) < b) :
    (W * (top * b + u2) + ul) / (W * (v1 * b + v2) + low) = g ∨ (W * (top * b + u2) + ul) / (W * (v1 * b + v2) + low) + 1 = g := by
  generalize top * b + u2 = T at *
  have hC : b ≤ v1 * b + v2 := by have := Nat.mul_le_mul_right b hv1; omega
  generalize v1 * b + v2 = C at *
  generalize hU : W * T + ul = U at *
  generalize hV : W * C + low = Z at *
  have hZ : 0 < Z := by have := Nat.mul_pos hW (show 0 < C by omega); omega
  have hZ2 : W * b ≤ Z := by have := Nat.mul_le_mul_left W hC; omega
  -- not below
  have up : U / Z ≤ g := by
    by_cases h : g + 1 < b
    · have h1 := hnext h
      have h2 : T + 1 ≤ (g + 1) * C := by omega
      have h3 : W * (T + 1) ≤ W * ((g + 1) * C) := Nat.mul_le_mul_left _ h2
      have h4 : W * ((g + 1) * C) ≤ (g + 1) * Z := by
        rw [← hV, Nat.mul_add, Nat.mul_left_comm W]
        omega
      rw [Nat.mul_add] at h3
      have h5 : U < (g + 1) * Z := by omega
      have := Nat.div_lt_of_lt_mul (by rw [Nat.mul_comm]; exact h5 : U < Z * (g + 1))
      omega
    · omega
  have lo : g ≤ U / Z + 1 := by
    have h1 : W * (g * C) ≤ W * T := Nat.mul_le_mul_left _ hfit
    have h2 : g * Z = W * (g * C) + g * low := by rw [← hV, Nat.mul_add, Nat.mul_left_comm g]
    have h3 : g * low ≤ b * W := Nat.mul_le_mul (by omega) (by omega)
    have h4 : g * Z ≤ U + Z := by rw [Nat.mul_comm b] at h3; omega
    by_cases h0 : g = 0
    · rw [h0]; exact Nat.zero_le _
    · have h5 : (g - 1) * Z ≤ U := by rw [Nat.sub_mul]; omega
      have := (Nat.le_div_iff_mul_le hZ).2 h5
      omega
  omega

/-! the walk -/
/-- a window of u's digits, from j on, n + 1 of them. -/
def win (U : List Nat) (j n : Nat) : List Nat := (U.drop j).take (n + 1)
theorem win_length {U : List Nat} {j n : Nat} (h : j + n + 1 ≤ U.length) : (win U j n).length = n + 1 := by unfold win; rw [List.length_take, List.length_drop]; omega
theorem dg_drop {U : List Nat} {j i : Nat} : dg (U.drop j) i = dg U (j + i) := by simp [dg, List.getElem?_drop]
theorem dg_win {U : List Nat} {j n i : Nat} (hi : i ≤ n) : dg (win U j n) i = dg U (j + i) := by
  unfold win
  rw [dg_take, if_pos (by omega), dg_drop]
theorem dig_win {b : Nat} {U : List Nat} (h : Dig b U) (hb : 0 < b) (j n : Nat) : Dig b (win U j n) := by
  unfold win
  refine Dig.take ?_ hb _
  intro i; rw [dg_drop]; exact h _
theorem M.rdWin {B : Nat} {W : World} {g nu cap : Nat} {U : List Nat} (h : M B W (.slice (some ⟨g, 0, none⟩) nu cap) U) {j n : Nat} (hj : j + n + 1 ≤ U.length) : Rd W g j (some ⟨g, j, none⟩) (win U j n) := by
  refine ⟨fun _ => ⟨rfl, ?_⟩, fun i hi => ?_⟩
  · rcases h.2 with ⟨e, _⟩ | ⟨g', c', cur, e, _, hg, _⟩
    · cases e
    · cases e; exact lt_of_block hg
  · rw [win_length hj] at hi
    rw [h.cell (by omega), dg_win (by omega)]

theorem win_val {U : List Nat} {j n : Nat} (hn2 : 2 ≤ n) (hj : j + n + 1 ≤ U.length) :
    val B32 (win U j n) = B32 ^ (n - 2) * ((dg U (j + n) * B32 + dg U (j + (n - 1))) * B32 + dg U (j + (n - 2))) + V B32 (win U j n) (n - 2) := by
  unfold val
  rw [win_length hj]
  obtain ⟨m, rfl⟩ : ∃ m, n = m + 2 := ⟨n - 2, by omega⟩
  rw [show m + 2 - 2 = m by omega, show m + 2 - 1 = m + 1 by omega, V_succ, V_succ, V_succ, dg_win (by omega), dg_win (by omega), dg_win (by omega)]
  generalize V B32 (win U j (m + 2)) m = z
  generalize dg U (j + m) = a
  generalize dg U (j + (m + 1)) = b
  generalize dg U (j + (m + 2)) = c
  rw [Nat.pow_succ, Nat.pow_succ, Nat.mul_add, Nat.add_mul, Nat.mul_add, Nat.mul_comm c B32, Nat.mul_comm (B32 * c) B32, ← Nat.mul_assoc, ← Nat.mul_assoc, ← Nat.mul_assoc, Nat.mul_right_comm _ b B32, Nat.pow_succ]
  omega
theorem part_len {z q n : Nat} (hz : z < B32 ^ n) (hq : q < 4294967296) : (digs B32 (z * q)).length ≤ n + 1 := by
  refine (digs_length_le (by decide)).2 ?_
  rw [Nat.pow_succ]
  rcases Nat.eq_zero_or_pos q with rfl | h
  · rw [Nat.mul_zero]; exact Nat.mul_pos (Nat.pow_pos (by decide)) (by decide)
  · exact Nat.mul_lt_mul_of_lt_of_le hz (Nat.le_of_lt hq) (by decide)
theorem top_val {l : List Nat} {n : Nat} (hn : l.length = n) (hn2 : 2 ≤ n) : val B32 l = B32 ^ (n - 2) * (dg l (n - 1) * B32 + dg l (n - 2)) + V B32 l (n - 2) := by
  unfold val
  rw [hn]
  obtain ⟨m, rfl⟩ : ∃ m, n = m + 2 := ⟨n - 2, by omega⟩
  rw [show m + 2 - 2 = m by omega, show m + 2 - 1 = m + 1 by omega, V_succ, V_succ, Nat.pow_succ, Nat.mul_add, Nat.mul_assoc, Nat.mul_comm B32 (dg l (m + 1))]
  omega

/-- u's digits with the window turned. -/
def put (U : List Nat) (j : Nat) (r : List Nat) : List Nat := U.take j ++ r ++ U.drop (j + r.length)
theorem put_length {U r : List Nat} {j : Nat} (h : j + r.length ≤ U.length) : (put U j r).length = U.length := by unfold put; simp; omega
theorem dg_append {a b : List Nat} {i : Nat} : dg (a ++ b) i = if i < a.length then dg a i else dg b (i - a.length) := by
  unfold dg
  split <;> rename_i h
  · simp [List.getElem?_append_left h]
  · simp [List.getElem?_append_right (Nat.le_of_not_lt h)]
theorem dg_put {U r : List Nat} {j i : Nat} (h : j + r.length ≤ U.length) : dg (put U j r) i = if i < j then dg U i else if i < j + r.length then dg r (i - j) else dg U i := by
  unfold put
  rw [dg_append, dg_append, dg_take]
  have e1 : (U.take j).length = j := by simp; omega
  simp only [List.length_append, e1]
  by_cases h1 : i < j
  · have : i < j + r.length := by omega
    simp [h1, this]
  · by_cases h2 : i < j + r.length
    · simp [h1, h2]
    · simp only [h1, h2, if_false, dg_drop]
      congr 1; omega
theorem put_set {U r : List Nat} {j d : Nat} (h : j + r.length < U.length) : (put U j r).set (j + r.length) d = put U j (r ++ [d]) := by
  have h2 : j + (r ++ [d]).length ≤ U.length := by simp; omega
  refine dg_ext (by rw [List.length_set, put_length (by omega), put_length h2]) fun k hk => ?_
  rw [dg_set (by rw [put_length (by omega)]; omega), dg_put (by omega), dg_put h2]
  simp only [List.length_append, List.length_singleton]
  by_cases c1 : k = j + r.length
  · subst c1
    rw [if_pos rfl, if_neg (by omega), if_pos (by omega), show j + r.length - j = r.length by omega, dg_snoc_eq]
  · rw [if_neg c1]
    by_cases c2 : k < j
    · rw [if_pos c2, if_pos c2]
    · rw [if_neg c2, if_neg c2]
      by_cases c3 : k < j + r.length
      · rw [if_pos c3, if_pos (by omega), dg_snoc_lt (by omega)]
      · rw [if_neg c3, if_neg (by omega)]
theorem put_nil (U : List Nat) (j : Nat) : put U j [] = U := by unfold put; simp
/-- while the product is taken off. -/
structure QuI (B : Nat) (Ul : List Nat) (g j cap Bi Bc : Nat) (X0 : World) (pre : List (U × U)) (W : World) (r : List Nat) (b : Nat) : Prop where
  fr : ∀ k, k < X0.heap.size → k ≠ g → k ≠ Bi → k ≠ Bc → W.heap[k]? = X0.heap[k]?
  bi : W.heap[Bi]? = some (.cells #[.int .i64 (pre.length : Nat)] 3 (0, 0))
  bc : W.heap[Bc]? = some (.cells #[.int .u32 (b : Int)] 75 (0, 0))
  m : M B W (.slice (some ⟨g, 0, none⟩) Ul.length cap) (put Ul j r)
  len : r.length = pre.length
  dig : Dig B32 r
  cl : b ≤ 1
  eq : eqMinus (val B32 (fsts pre)) (val B32 (snds pre)) (val B32 r) pre.length b
  ot : W.os = X0.os ∧ W.tape = X0.tape ∧ W.output = X0.output ∧ X0.heap.size ≤ W.heap.size

theorem M.keptOther {B : Nat} {W W' : World} {v : Value} {l : List Nat} (h : M B W v l) {row : Option Nat} (hg : W.grownBy W' row) (hr : ∀ r, row = some r → ∃ o : Obj, W.heap[r]? = some o ∧ o.isCells = false) : M B W' v l := by
  refine h.kept hg ?_
  cases e : v.ownBlock with
  | none => exact Or.inl rfl
  | some k =>
    refine Or.inr fun e2 => ?_
    obtain ⟨o, ho, hc⟩ := hr k e2.symm
    exact h.isCells ho hc e.symm
theorem quI_own {B : Nat} {Ul : List Nat} {g j cap Bi Bc : Nat} {X : World} : OwnFrom X.heap.size (fun pre W' => ∃ r b, QuI B Ul g j cap Bi Bc X pre W' r b) := by
  rintro s W W' row ⟨r, b, h⟩ hg hr
  have hr' : ∀ r, row = some r → ∃ o : Obj, W.heap[r]? = some o ∧ o.isCells = false := fun r e => (hr r e).2
  refine ⟨r, b, ?_, (grownBy_keeps_cells hg hr' h.bi rfl).trans h.bi, (grownBy_keeps_cells hg hr' h.bc rfl).trans h.bc, h.m.keptOther hg hr', h.len, h.dig, h.cl, h.eq, ?_⟩
  · intro k hk h1 h2 h3
    rw [hg.block k (Nat.lt_of_lt_of_le hk h.ot.2.2.2) (fun e => by have := (hr k e.symm).1; omega)]
    exact h.fr k hk h1 h2 h3
  · exact ⟨hg.os.trans h.ot.1, hg.tape.trans h.ot.2.1, hg.output.trans h.ot.2.2.1, Nat.le_trans h.ot.2.2.2 hg.size⟩

/-- a drawn region in a round, walked with what is held behind every operation. -/
theorem wpIn_region_heldR {lr m id : Nat} {Q : Exit → Act → World → Prop} {a : Act} {w : World} {l : List Oper} {S : World → Prop} (hm : Tryd.prog.follows .mixedOrders = true)
    (hdB : (l.all fun o => match o.op with | .defer _ => false | _ => true) = true) (hQ : ∀ a w, ¬ Q .outgrown a w) (hS : S w.drew)
    (h : S w.drew → wpAnyH Tryd.prog .any l.toArray Q S l.toArray.size (Array.replicate l.toArray.size false) a w.drew) : (Code.region id l.toArray true).wpIn (Fence.wide.inRound lr) m Tryd.prog Q a w := by
  have hd : ∀ (i : Nat) (o : Oper), l.toArray[i]? = some o → ∀ c, o.op ≠ .defer c := by
    intro i o ho c hc
    have h1 : o ∈ l := List.mem_of_getElem? (by simpa using ho)
    have h2 := List.all_eq_true.1 hdB o h1
    rw [hc] at h2; cases h2
  exact wpIn_region_any hm (anyIn_of hd hQ _ _ _ _ (wpAny_of_held _ _ _ _ (h hS)))

theorem M.setElse {B : Nat} {W : World} {g n cap : Nat} {l : List Nat} (h : M B W (.slice (some ⟨g, 0, none⟩) n cap) l) {b : Nat} (hb : b ≠ g) (j : Nat) (x : Value) : M B (W.setCell ⟨b, j, none⟩ x) (.slice (some ⟨g, 0, none⟩) n cap) l :=
  h.kept (grownBy_setCell W b j x) (Or.inr fun e => hb (by cases e; rfl))
/-- one round. -/
theorem QuI.round {B : Nat} {Ul : List Nat} {g j cap Bi Bc : Nat} {X0 W : World} {pre : List (U × U)} {r : List Nat} {b d b' : Nat} (h : QuI B Ul g j cap Bi Bc X0 pre W r b) (x : U × U) (hd : d < 4294967296) (hb : b' ≤ 1)
    (he : ∀ a b2 rr k, eqMinus a b2 rr k b → eqMinus (a + B32 ^ k * x.1.val) (b2 + B32 ^ k * x.2.val) (rr + B32 ^ k * d) (k + 1) b') (hpl : j + r.length < Ul.length) (h1 : Bi ≠ g) (h2 : Bc ≠ g) (h3 : Bi ≠ Bc) :
    QuI B Ul g j cap Bi Bc X0 (pre ++ [x]) (((W.setCell ⟨g, j + pre.length, none⟩ (.int .u32 (d : Int))).setCell ⟨Bc, 0, none⟩ (.int .u32 (b' : Int))).setCell ⟨Bi, 0, none⟩ (.int .i64 ((pre.length + 1 : Nat) : Int))) (r ++ [d]) b' := by
  have hbc : ((W.setCell ⟨g, j + pre.length, none⟩ (.int .u32 (d : Int))).setCell ⟨Bc, 0, none⟩ (.int .u32 (b' : Int))).heap[Bc]? = some (.cells #[.int .u32 (b' : Int)] 75 (0, 0)) := by
    rw [heap_setCell_same _ _ _ _ _ _ ((heap_setCell_other _ _ _ _ (by simpa using h2)).trans h.bc)]; rfl
  have hbi : ((W.setCell ⟨g, j + pre.length, none⟩ (.int .u32 (d : Int))).setCell ⟨Bc, 0, none⟩ (.int .u32 (b' : Int))).heap[Bi]? = some (.cells #[.int .i64 (pre.length : Nat)] 3 (0, 0)) := by
    rw [heap_setCell_other _ _ _ _ (by simpa using h3), heap_setCell_other _ _ _ _ (by simpa using h1)]; exact h.bi
  have hm := (((h.m.set (i := j + r.length) (by rw [put_length (by omega)]; exact hpl) d).setElse h2 0 (.int .u32 (b' : Int))).setElse h1 0 (.int .i64 ((pre.length + 1 : Nat) : Int)))
  rw [put_set hpl, h.len] at hm
  refine ⟨?_, ?_, ?_, hm, by rw [List.length_append, List.length_append, h.len]; rfl, h.dig.snoc hd, hb, ?_, ?_⟩
  · intro k hk k1 k2 k3
    rw [heap_setCell_other _ _ _ _ (by simpa using k2), heap_setCell_other _ _ _ _ (by simpa using k3), heap_setCell_other _ _ _ _ (by simpa using k1)]
    exact h.fr k hk k1 k2 k3
  · rw [heap_setCell_same _ _ _ _ _ _ hbi, List.length_append]; rfl
  · rw [heap_setCell_other _ _ _ _ (by simpa using h3.symm)]; exact hbc
  · rw [fsts_snoc, snds_snoc, val_snoc, val_snoc, val_snoc, fsts_length, snds_length, h.len, List.length_append]
    exact he _ _ _ _ h.eq
  · refine ⟨h.ot.1, h.ot.2.1, h.ot.2.2.1, ?_⟩
    have := h.ot.2.2.2
    simpa [World.setCell] using this
theorem QuI.drew {B : Nat} {Ul : List Nat} {g j cap Bi Bc : Nat} {X0 W : World} {pre : List (U × U)} {r : List Nat} {b : Nat} (h : QuI B Ul g j cap Bi Bc X0 pre W r b) : QuI B Ul g j cap Bi Bc X0 pre W.drew r b :=
  ⟨h.fr, h.bi, h.bc, h.m, h.len, h.dig, h.cl, h.eq, h.ot⟩
set_option maxRecDepth 100000 in
set_option maxHeartbeats 4000000 in
theorem digit_any {B B' : Nat} {vb : Value} {U vl : List Nat} {g nu cap j n : Nat} {W : World} (hu : M B W (.slice (some ⟨g, 0, none⟩) nu cap) U) (hv : M B' W vb vl) (hU : Dig B32 U) (hV : Dig B32 vl) (hn : vl.length = n) (hn2 : 2 ≤ n) (hj : j + n + 1 ≤ U.length) (hl : U.length ≤ 500000)
    (htop : 0 < dg vl (n - 1)) (hq : val B32 (win U j n) / val B32 vl < B32) (ha : ∀ k, vb.ownBlock = some k → k ≠ g) :
    Calls Tryd.prog 138 #[.slice (some ⟨g, j, none⟩) (nu - j) (cap - j), vb] W fun e W' => e = .returned (.int .u32 ((val B32 (win U j n) / val B32 vl : Nat) : Int)) ∧ (∃ r, r.length = n + 1 ∧ Dig B32 r ∧ val B32 r = val B32 (win U j n) % val B32 vl ∧ M B W' (.slice (some ⟨g, 0, none⟩) nu cap) (put U j r)) ∧ W.grownBy W' (some g) := by
  obtain ⟨ab, cb, rfl, hc1, hc2⟩ := hv.slice
  rw [hn] at hv hc1 ⊢
  obtain ⟨gv, rfl, _, hgv⟩ := hv.block (by omega)
  have hgv2 := ha gv rfl
  obtain rfl := hu.len
  obtain ⟨_, _, e, hcap, hcapm⟩ := hu.slice
  cases e
  obtain ⟨V, hVe, bV, cV, sV, nV⟩ : ∃ V, V = W.alloc (Obj.cells #[Value.slice (some ⟨g, j, none⟩) (U.length - j) (cap - j)] 44) ∧ Below W.heap.size W V ∧ V.cell? ⟨W.heap.size, 0, none⟩ = some (Value.slice (some ⟨g, j, none⟩) (U.length - j) (cap - j)) ∧ V.heap.size = W.heap.size + 1 ∧ V.heap[W.heap.size]? = some (Obj.cells #[Value.slice (some ⟨g, j, none⟩) (U.length - j) (cap - j)] 44) :=
    ⟨_, rfl, (Below.refl _ _).alloc (Nat.le_refl _) _, by simp, by simp, heap_alloc_new W _⟩
  have hgu : g < W.heap.size := (hu.lt g rfl).2
  replace hu := hu.later bV (Nat.le_refl _)
  replace hv := hv.later bV (Nat.le_refl _)
  have hu0 := hu.cell (show j + n < U.length by omega)
  have hu1 := hu.cell (show j + (n - 1) < U.length by omega)
  have hu2 := hu.cell (show j + (n - 2) < U.length by omega)
  have hv1 := hv.cell (show n - 1 < vl.length by omega)
  have hv2 := hv.cell (show n - 2 < vl.length by omega)
  obtain ⟨x0, HX0⟩ : ∃ x, Hid (dg U (j + n) = x) := ⟨_, Lib.hid rfl⟩
  obtain ⟨x1, HX1⟩ : ∃ x, Hid (dg U (j + (n - 1)) = x) := ⟨_, Lib.hid rfl⟩
  obtain ⟨x2, HX2⟩ : ∃ x, Hid (dg U (j + (n - 2)) = x) := ⟨_, Lib.hid rfl⟩
  obtain ⟨y1, HY1⟩ : ∃ x, Hid (dg vl (n - 1) = x) := ⟨_, Lib.hid rfl⟩
  obtain ⟨y2, HY2⟩ : ∃ x, Hid (dg vl (n - 2) = x) := ⟨_, Lib.hid rfl⟩
  have lx0 : x0 < 4294967296 := by rw [← HX0.out]; exact hU.u32 _
  have lx1 : x1 < 4294967296 := by rw [← HX1.out]; exact hU.u32 _
  have lx2 : x2 < 4294967296 := by rw [← HX2.out]; exact hU.u32 _
  have ly1 : y1 < 4294967296 := by rw [← HY1.out]; exact hV.u32 _
  have ly2 : y2 < 4294967296 := by rw [← HY2.out]; exact hV.u32 _
  rw [HY1.out] at htop hv1
  rw [HX0.out] at hu0
  rw [HX1.out] at hu1
  rw [HX2.out] at hu2
  rw [HY2.out] at hv2
  have HU := Lib.hid hu
  have HV := Lib.hid hv
  have HDU := Lib.hid hU
  have HDV := Lib.hid hV
  have HN := Lib.hid hn
  clear hu hv hU hV ha hn
  have hor := or_top lx0 lx1
  obtain ⟨T, HT⟩ : ∃ t, Hid (x0 * 4294967296 + x1 = t) := ⟨_, Lib.hid rfl⟩
  rw [HT.out] at hor
  have hT : T ≤ 18446744073709551615 := by rw [← HT.out]; omega
  have e1 : ((n : Int) - 1).toNat = n - 1 := by omega
  have e2 : ((n : Int) - 2).toNat = n - 2 := by omega
  obtain ⟨q0, HQ0⟩ : ∃ t, Hid (T / y1 = t) := ⟨_, Lib.hid rfl⟩
  have hq0 : (T : Int) / (y1 : Int) = (q0 : Int) := by rw [← HQ0.out]; simp
  have hq0l : q0 ≤ 18446744073709551615 := by rw [← HQ0.out]; exact Nat.le_trans (Nat.div_le_self _ _) hT
  obtain ⟨g0, HG0⟩ : ∃ t, Hid (min q0 4294967295 = t) := ⟨_, Lib.hid rfl⟩
  have hg0 : min (q0 : Int) 4294967295 = (g0 : Int) := by rw [← HG0.out]; omega
  have hfit0 : g0 * y1 ≤ T ∧ g0 < 4294967296 ∧ ∀ g', g0 < g' → g' < B32 → ¬ Fits y1 y2 T x2 g' := by
    refine ⟨?_, by rw [← HG0.out]; omega, fun g' h1 h2 => fits_over ?_ lx2⟩
    · have h1 : g0 ≤ T / y1 := by rw [HQ0.out, ← HG0.out]; exact Nat.min_le_left _ _
      exact (Nat.le_div_iff_mul_le htop).1 h1
    · have h3 : q0 < g' := by
        have h4 : g' < 4294967296 := h2
        rw [← HG0.out] at h1
        omega
      rw [← HQ0.out] at h3
      exact (Nat.div_lt_iff_lt_mul htop).1 h3
  have HF0 := Lib.hid hfit0
  have HT0 := Lib.hid hT
  clear hfit0
  refine (callsIn_wide (n := 3)).1 ?_
  refine callsIn_of_wp_marks Tryd.func138 rfl trivial ?_ rfl
  simp only [Tryd.ntmps138, List.size_toArray, List.length_cons, List.length_nil, Nat.reduceAdd, Nat.reduceSub, Array.replicate_succ, Array.replicate_zero, List.push_toArray, List.append_toArray, List.nil_append, List.cons_append]
  refine wpIn_wide.2 ?_
  go_wp2_with fail
  rw [← hVe]
  have HVE := Lib.hid hVe
  clear hVe
  go_quiet (fail)
  go_upto_block 0 with (fail)
  clear hq0l hor hg0 hq0
  go_cut [7, 8] from 38 to 73 (fun gv' rv wx => ∃ gq : Nat, gv' = .int .u64 gq ∧ gq * y1 ≤ T ∧ gq < 4294967296 ∧ Hid (∀ g', gq < g' → g' < B32 → ¬ Fits y1 y2 T x2 g') ∧ Hid (Fits y1 y2 T x2 gq) ∧ Hid (Below V.heap.size V wx))
  case first =>
    go_wp2
    go_loopw [7, 8] (fun gv' rv wr => ∃ gq : Nat, gv' = .int .u64 gq ∧ gq * y1 ≤ T ∧ gq < 4294967296 ∧ Hid (∀ g', gq < g' → g' < B32 → ¬ Fits y1 y2 T x2 g') ∧ Hid (Below V.heap.size V wr)) (fun gv' _ _ => (intOf gv').toNat)
    case atStart => exact ⟨g0, rfl, HF0.out.1, HF0.out.2.1, Lib.hid HF0.out.2.2, Lib.hid ⟨rfl, rfl, rfl, Nat.le_refl _, fun _ _ => rfl⟩⟩
    case round =>
      obtain ⟨gq, rfl, hgT, hg32, hno, hbw⟩ := hrel
      replace hu2 := (hbw.out.cell (p := ⟨g, j + (n - 2), none⟩) (by show g < _; omega)).trans hu2
      replace hv1 := (hbw.out.cell (p := ⟨gv, n - 1, none⟩) (by show gv < _; omega)).trans hv1
      replace hv2 := (hbw.out.cell (p := ⟨gv, n - 2, none⟩) (by show gv < _; omega)).trans hv2
      have cV' := (hbw.out.cell (p := ⟨W.heap.size, 0, none⟩) (by show W.heap.size < _; omega)).trans cV
      by_cases hg : gq = 0
      · subst hg
        go_wp2
        go_meet
        exact ⟨0, rfl, hgT, hg32, hno, Lib.hid (fits_zero _ _ _ _), hbw⟩
      · obtain ⟨m, HM⟩ : ∃ m, Hid (gq * y1 = m) := ⟨_, Lib.hid rfl⟩
        have hm : (gq : Int) * (y1 : Int) = (m : Int) := by rw [← HM.out]; simp
        have HGT := Lib.hid hgT
        rw [HM.out] at hgT
        obtain ⟨rest, HR⟩ : ∃ r, Hid (T - m = r) := ⟨_, Lib.hid rfl⟩
        have hr : (T : Int) - (m : Int) = (rest : Int) := by rw [← HR.out]; omega
        have hrt : rest ≤ 18446744073709551615 := by rw [← HR.out]; omega
        have hm64 : m ≤ 18446744073709551615 := by omega
        have HRM : Hid (rest + gq * y1 = T) := Lib.hid (by rw [HM.out, ← HR.out]; omega)
        by_cases hr32 : 4294967296 ≤ rest
        · have hdr : decide (4294967296 ≤ (rest : Int)) = true := by simp; omega
          have HF : Hid (Fits y1 y2 T x2 gq) := Lib.hid (fits_big HRM.out hr32 hg32 ly2)
          go_wp2
          go_quiet (fail)
          go_wp2
          go_meet
          exact ⟨gq, rfl, HGT.out, hg32, hno, HF, Lib.hid ⟨hbw.out.os, hbw.out.tape, hbw.out.output, hbw.out.size, hbw.out.block⟩⟩
        · obtain ⟨t2, HT2⟩ : ∃ m, Hid (gq * y2 = m) := ⟨_, Lib.hid rfl⟩
          have ht2 : (gq : Int) * (y2 : Int) = (t2 : Int) := by rw [← HT2.out]; simp
          have ht2l : t2 ≤ 18446744073709551615 := by rw [← HT2.out]; exact Nat.le_trans (Nat.mul_le_mul (show gq ≤ 4294967295 by omega) (show y2 ≤ 4294967295 by omega)) (by decide)
          have hor2 := or_top (show rest < 4294967296 by omega) lx2
          obtain ⟨s2, HS2⟩ : ∃ m, Hid (rest * 4294967296 + x2 = m) := ⟨_, Lib.hid rfl⟩
          rw [HS2.out] at hor2
          have hdr : decide (4294967296 ≤ (rest : Int)) = false := by simp; omega
          by_cases hfit : t2 ≤ s2
          · have HF : Hid (Fits y1 y2 T x2 gq) := Lib.hid ((fits_iff HRM.out).2 (by rw [HT2.out]; exact Nat.le_trans hfit (Nat.le_of_eq HS2.out.symm)))
            go_wp2
            go_quiet (fail)
            go_wp2
            go_meet
            exact ⟨gq, rfl, HGT.out, hg32, hno, HF, Lib.hid ⟨hbw.out.os, hbw.out.tape, hbw.out.output, hbw.out.size, hbw.out.block⟩⟩
          · have HF : Hid (¬ Fits y1 y2 T x2 gq) := Lib.hid (fun h => hfit (by have := (fits_iff HRM.out).1 h; rw [HT2.out] at this; exact Nat.le_trans this (Nat.le_of_eq HS2.out)))
            go_wp2
            go_quiet (fail)
            go_wp2
            go_roundw
            case rel =>
              refine ⟨gq - 1, by congr 1; omega, Nat.le_trans (Nat.mul_le_mul_right _ (by omega)) HGT.out, by omega, Lib.hid (fun g' h1 h2 => ?_), Lib.hid ⟨hbw.out.os, hbw.out.tape, hbw.out.output, hbw.out.size, hbw.out.block⟩⟩
              by_cases e : g' = gq
              · rw [e]; exact HF.out
              · exact hno.out g' (by omega) h2
            case measure => simp [intOf]; omega
  case rest =>
    obtain ⟨gq, rfl, hgT, hg32, hno, hfit, hbw⟩ := hcut
    have hclose : val B32 (win U j n) / val B32 vl = gq ∨ val B32 (win U j n) / val B32 vl + 1 = gq := by
      have h1 := win_val hn2 hj
      have h2 := top_val HN.out hn2
      rw [HX0.out, HX1.out, HX2.out] at h1
      rw [HY1.out, HY2.out] at h2
      have h3 : x0 * B32 + x1 = T := HT.out
      rw [h3] at h1
      rw [h1, h2] at hq ⊢
      exact quo_close (Nat.pow_pos (by decide)) htop (V_lt HDV.out _) (V_lt (dig_win HDU.out (by decide) _ _) _) hg32 hfit.out (fun h => hno.out _ (Nat.lt_succ_self _) h) hq
    obtain ⟨uw, HUW⟩ : ∃ t, Hid (val B32 (win U j n) = t) := ⟨_, Lib.hid rfl⟩
    obtain ⟨zv, HZV⟩ : ∃ t, Hid (val B32 vl = t) := ⟨_, Lib.hid rfl⟩
    rw [HUW.out, HZV.out] at hclose
    have HCL := Lib.hid hclose
    have hzl : zv < B32 ^ n := by rw [← HZV.out, ← HN.out]; exact val_lt HDV.out
    have hzp : 0 < zv := by
      rw [← HZV.out, top_val HN.out hn2, HY1.out]
      have h1 : 0 < y1 * B32 := Nat.mul_pos htop (by decide)
      have h2 := Nat.mul_pos (Nat.pow_pos (n := n - 2) (show 0 < B32 by decide)) (show 0 < y1 * B32 + dg vl (n - 2) from Nat.lt_of_lt_of_le h1 (Nat.le_add_right _ _))
      exact Nat.lt_of_lt_of_le h2 (Nat.le_add_right _ _)
    have hWV : W.heap.size ≤ V.heap.size := by omega
    have hWx := hbw.out.size
    clear hq hclose hno hfit hu0 hu1 hu2 hv1 hv2 hgT
    go_wp2_with fail
    refine (scaled_any gq 0 (HV.out.later hbw.out (Nat.le_refl _)) HDV.out (by rw [HN.out]; omega) hg32 (by decide)).mono ?_
    rintro e w1 ⟨⟨v1, rfl, hm1⟩, hb1⟩
    have hb1v : Hid (Below V.heap.size V w1) := Lib.hid (hbw.out.trans (hb1.mono hWx))
    rw [HZV.out, Nat.add_zero] at hm1
    obtain ⟨ao1, cap1, g1, rfl, r1⟩ := hm1.rd'
    have hcmp := compare_rd (ca := cap - j) (cb := cap1) ((HU.out.later hb1v.out (Nat.le_refl _)).rdWin (n := n) hj) r1 (dig_win HDU.out (by decide) _ _) (digs_dig (by decide) _) (by rw [win_length hj]; omega) (Nat.le_trans (part_len hzl hg32) (by omega))
    rw [win_length hj, HUW.out, val_digs (by decide)] at hcmp
    obtain ⟨n1, HN1⟩ : ∃ t, Hid ((digs B32 (zv * gq)).length = t) := ⟨_, Lib.hid rfl⟩
    rw [HN1.out] at hcmp ⊢
    have HC := Lib.hid hcmp
    have HM1 := Lib.hid hm1
    have cV1 := (hb1v.out.cell (p := ⟨W.heap.size, 0, none⟩) (by show W.heap.size < _; omega)).trans cV
    clear hcmp r1 hm1 hb1
    have ecap : j + n + 1 ≤ cap := by omega
    go_wp2_with fail
    refine HC.out.mono ?_
    rintro e w2 ⟨rfl, hb2⟩
    have HB2 : Hid (Below V.heap.size V w2) := Lib.hid (hb1v.out.trans (hb2.mono hb1v.out.size))
    have HM2 : Hid (M W.heap.size w2 (.slice ao1 n1 cap1) (digs B32 (zv * gq))) := Lib.hid (by have := HM1.out.later hb2 (Nat.le_refl _); rw [HN1.out] at this; exact this.mono (by omega))
    clear hb2 cV1
    go_upto_if 84 with (fail)
    go_cut [7, 9] from 83 to 90 (fun gv' pv wx => ∃ (q : Nat), gv' = .int .u64 q ∧ q < 4294967296 ∧ Hid (uw / zv = q) ∧ Hid (M W.heap.size wx pv (digs B32 (zv * q))) ∧ Hid (Below V.heap.size V wx))
    case first =>
      by_cases hlt : uw < zv * gq
      · have hc : cmpI uw (zv * gq) = -1 := by unfold cmpI; rw [if_pos hlt]
        rw [hc]
        have hg0 : 0 < gq := Nat.pos_of_ne_zero fun e => by rw [e] at hlt; omega
        have HQ : Hid (uw / zv = gq - 1) := Lib.hid (by
          rcases HCL.out with h | h
          · exfalso
            have := Nat.div_mul_le_self uw zv
            rw [h, Nat.mul_comm] at this; omega
          · omega)
        have e3 : (gq : Int) - 1 = ((gq - 1 : Nat) : Int) := by omega
        have hz2 := HB2.out.size
        go_wp2_with fail
        refine (scaled_any (gq - 1) 0 (HV.out.later HB2.out (Nat.le_refl _)) HDV.out (by rw [HN.out]; omega) (by omega) (by decide)).mono ?_
        rintro e w3 ⟨⟨v3, rfl, hm3⟩, hb3⟩
        rw [HZV.out, Nat.add_zero] at hm3
        have HM3 := Lib.hid hm3
        have HB3 : Hid (Below V.heap.size V w3) := Lib.hid (HB2.out.trans (hb3.mono hz2))
        clear hm3 hb3
        obtain ⟨ao3, n3, cap3, rfl⟩ := HM3.out.slice3
        go_wp2
        go_meet
        have hrel : ∃ q : Nat, Value.int IntKind.u64 ((gq - 1 : Nat) : Int) = .int .u64 (q : Int) ∧ q < 4294967296 ∧ Hid (uw / zv = q) ∧ Hid (M W.heap.size w3 (.slice ao3 n3 cap3) (digs B32 (zv * q))) ∧ Hid (Below V.heap.size V w3) := ⟨gq - 1, rfl, by omega, HQ, Lib.hid (HM3.out.mono (by omega)), HB3⟩
        first | exact hrel | ((repeat apply Exists.intro); exact ⟨hrel, rfl⟩)
      · have HQ : Hid (uw / zv = gq) := Lib.hid (by
          rcases HCL.out with h | h
          · exact h
          · exfalso
            have := (Nat.le_div_iff_mul_le hzp).2 (by rw [Nat.mul_comm]; exact Nat.le_of_not_lt hlt : gq * zv ≤ uw)
            omega)
        have hc : 0 ≤ cmpI uw (zv * gq) := by unfold cmpI; rw [if_neg hlt]; split <;> decide
        go_wp2
        go_meet
        exact ⟨gq, rfl, hg32, HQ, HM2, HB2⟩
    case rest =>
      obtain ⟨q, rfl, hq32, hq, hm, hb⟩ := hcut
      obtain ⟨aop, capp, gp, rfl, rp⟩ := hm.out.rd'
      obtain ⟨np, HNP⟩ : ∃ t, Hid ((digs B32 (zv * q)).length = t) := ⟨_, Lib.hid rfl⟩
      have hnp : np ≤ n + 1 := by rw [← HNP.out]; exact part_len hzl hq32
      have HRP := Lib.hid rp
      have cVc := (hb.out.cell (p := ⟨W.heap.size, 0, none⟩) (by show W.heap.size < _; omega)).trans cV
      have nVc := (hb.out.block W.heap.size (by omega)).trans nV
      have HNV := Lib.hid nVc
      have hsz := hb.out.size
      have hlt0 : W.heap.size < wc.heap.size := by omega
      rw [HNP.out]
      clear rp nVc nV
      go_wp2_with fail
      refine (pairs_any _ _ _ _ _ _ _).mono ?_
      rintro e w9 ⟨rfl, rfl⟩
      obtain ⟨X, hX, v0, v1, v2, v3, vb, vs⟩ := four_new wc (Obj.cells #[Value.int IntKind.i64 0] 3) (Obj.cells #[Value.int IntKind.u32 0] 75) (Obj.cells #[Value.slice (some ⟨g, j, none⟩) (n + 1) (cap - j)] 44) (Obj.cells #[Value.slice aop np capp] 44)
      rw [← hX]
      clear hX
      go_wp2_with fail
      have hgX : g ≠ wc.heap.size := by omega
      have c1 := (cell_of_row _ _ 0 _ _ _ v2).trans rfl
      have c2 := (cell_of_row _ _ 0 _ _ _ v3).trans rfl
      have HV2 := Lib.hid v2
      have HV3 := Lib.hid v3
      have HX0 : Hid (QuI B U g j cap wc.heap.size (wc.heap.size + 1) X [] X [] 0) := Lib.hid ⟨fun _ _ _ _ _ => rfl, v0, v1, by rw [put_nil]; exact (HU.out.later hb.out (Nat.le_refl _)).later vb (Nat.le_refl _), rfl, Dig.nil (by decide), by omega, by simp [eqMinus, fsts, snds, val_nil], ⟨rfl, rfl, rfl, Nat.le_refl _⟩⟩
      refine (wpIn_wide (n := 3)).1 ?_
      refine wp_range_on (N := n + 1) (gf := 142) (lb := #[.pointer (some ⟨wc.heap.size + 1 + 1, 0, none⟩), .pointer (some ⟨wc.heap.size + 1 + 1 + 1, 0, none⟩)]) (by decide) rfl (enters_of Tryd.func142 (by kernel_rfl) rfl) (encs := encP) (S := fun xs => xs = pairsF (win U j n) (digs B32 (zv * q)) (dig_win HDU.out (by decide) _ _) (digs_dig (by decide) _)) (fun _ => rfl)
        (fun pre W' => ∃ r b, QuI B U g j cap wc.heap.size (wc.heap.size + 1) X pre W' r b) ?own ⟨_, _, HX0.out⟩ ?a1 ?hit ?assign ?body ?done
      case own => exact quI_own
      case hit =>
        intro lp J Jx W1 hY hJI hJ0
        have hmax : max (win U j n).length (digs B32 (zv * q)).length = n + 1 := by rw [win_length hj, HNP.out]; omega
        refine pairs_core 2 (by decide) (wc.heap.size + 1 + 1) (wc.heap.size + 1 + 1 + 1) (some ⟨g, j, none⟩) aop (cap - j) capp (win U j n) (digs B32 (zv * q)) _ _ (by rw [win_length hj]; omega) (by rw [HNP.out]; omega) lp J Jx W1 (fun pre x W2 hj2 hlt => hY pre x W2 hj2 (by rw [hmax] at hlt; exact hlt)) ?_ hJ0
        intro pre W2 hj2 hle
        obtain ⟨r, b, hI⟩ := hJI pre W2 hj2
        rw [hmax] at hle
        have k0 : ∀ k, k < X.heap.size → k ≠ g → k ≠ wc.heap.size → k ≠ wc.heap.size + 1 → W2.heap[k]? = X.heap[k]? := hI.fr
        refine ⟨?_, ?_, ?_, ?_⟩
        · rw [World.cell?_of_block (w := X) (a := ⟨wc.heap.size + 1 + 1, 0, none⟩) (k0 (wc.heap.size + 1 + 1) (by omega) (by omega) (by omega) (by omega)), win_length hj]
          exact (cell_of_row _ _ 0 _ _ _ HV2.out).trans rfl
        · rw [World.cell?_of_block (w := X) (a := ⟨wc.heap.size + 1 + 1 + 1, 0, none⟩) (k0 (wc.heap.size + 1 + 1 + 1) (by omega) (by omega) (by omega) (by omega)), HNP.out]
          exact (cell_of_row _ _ 0 _ _ _ HV3.out).trans rfl
        · intro hlt
          rw [win_length hj] at hlt ⊢
          refine ⟨g, j, _, rfl, ?_⟩
          rw [hI.m.cell (by rw [put_length (by rw [hI.len]; omega)]; omega), dg_put (by rw [hI.len]; omega), if_neg (by omega), if_neg (by rw [hI.len]; omega), dg_win (by omega)]
        · intro hlt
          have hne : digs B32 (zv * q) ≠ [] := by intro e; rw [e] at hlt; simp at hlt
          obtain ⟨e1, e2⟩ := HRP.out.1 hne
          subst e1
          rw [HNP.out]
          refine ⟨gp, 0, capp, rfl, ?_⟩
          have hgp : W.heap.size ≤ gp := by
            have := hm.out.lt gp (by rfl)
            exact this.1
          rw [World.cell?_of_block (w := wc) (a := ⟨gp, 0 + pre.length, none⟩) ((k0 gp (by omega) (by omega) (by omega) (by omega)).trans (vb.block gp e2))]
          exact HRP.out.2 _ hlt
      case assign =>
        intro l x W K hK
        gi_wp2
        exact hK
      case body =>
        rintro lp pre ⟨⟨x, hx⟩, ⟨y, hy⟩⟩ W1 ⟨r, b, hI⟩ hlen
        have i1 := (cell_of_row _ _ 0 _ _ _ hI.bi).trans rfl
        have i2 := frozen_of_row _ _ 0 _ _ hI.bi
        have i3 := (cell_of_row _ _ 0 _ _ _ hI.bc).trans rfl
        have i4 := frozen_of_row _ _ 0 _ _ hI.bc
        have i5 : W1.heap[W.heap.size]? = _ := (hI.fr W.heap.size (by omega) (by omega) (by omega) (by omega)).trans ((vb.block _ hlt0).trans HNV.out)
        have i6 := (cell_of_row _ _ 0 _ _ _ i5).trans rfl
        have hpl : j + r.length < U.length := by rw [hI.len]; omega
        have i7 := hI.m.cell (show j + pre.length < (put U j r).length by rw [put_length (by omega), ← hI.len]; exact hpl)
        have i8 := hI.m.free (j + pre.length)
        have hcl := hI.cl
        have HI := Lib.hid hI
        clear hI i5
        obtain ⟨d, HD⟩ : ∃ d : Nat, Hid (d = dif x y b) := ⟨_, Lib.hid rfl⟩
        obtain ⟨b', HB'⟩ : ∃ b' : Nat, Hid (b' = brw x y b) := ⟨_, Lib.hid rfl⟩
        have hmix : Tryd.prog.follows .mixedOrders = true := by kernel_rfl
        gi_wp2
        have HFAR : Hid (W.heap.size ≠ g ∧ g < X.heap.size ∧ wc.heap.size + 1 < X.heap.size) := Lib.hid ⟨by omega, by omega, by omega⟩
        clear hn2 hc1 hc2 hgv hgv2 bV cV sV htop lx0 lx1 lx2 ly1 ly2 hT e1 e2 hg32 hzl hzp hWV hWx hq32 hnp cVc hsz v0 v1 v2 v3 vb vs c1 c2
        have j1 : W1.cell? ⟨wc.heap.size, 0, none⟩ = some (.int .i64 (pre.length : Nat)) := i1
        have j3 : W1.cell? ⟨wc.heap.size + 1, 0, none⟩ = some (.int .u32 (b : Int)) := i3
        have j6 : W1.cell? ⟨W.heap.size, 0, none⟩ = some (Value.slice (some ⟨g, j, none⟩) (U.length - j) (cap - j)) := i6
        have hix : pre.length < U.length - j := by have := HI.out.len; omega
        clear i1 i3 i6
        refine wpIn_region_heldR (S := (fun w' => w'.cell? ⟨W.heap.size, 0, none⟩ = some (Value.slice (some ⟨g, j, none⟩) (U.length - j) (cap - j)) ∧ w'.cell? ⟨wc.heap.size, 0, none⟩ = some (.int .i64 (pre.length : Nat)))) hmix (by kernel_rfl) (fun _ _ h => h) ⟨j6, j1⟩ (fun hHeld => ?_)
        refine wpAnyH_take (i := 2) (oi := { dst := some 102, op := Op.move (Operand.tmp 12), type := 75, pos := "magnitude.go:189", after := #[], guard := none }) (v := ?_) rfl (by kernel_rfl) (by kernel_rfl) (by kernel_rfl) (fun _ _ _ h => h) (Or.inl ⟨by rfl, ?_⟩) hHeld ?_
        rotate_left
        · intro w hSw; (try dsimp only at hSw); go_simp; (try with_reducible rfl)
        (try simp only [Act.put, List.setIfInBounds_toArray, List.set_cons_zero, List.set_cons_succ])
        refine wpAnyH_take (i := 3) (oi := { dst := some 103, op := Op.move (Operand.tmp 13), type := 75, pos := "magnitude.go:189", after := #[], guard := none }) (v := ?_) rfl (by kernel_rfl) (by kernel_rfl) (by kernel_rfl) (fun _ _ _ h => h) (Or.inl ⟨by rfl, ?_⟩) hHeld ?_
        rotate_left
        · intro w hSw; (try dsimp only at hSw); go_simp; (try with_reducible rfl)
        (try simp only [Act.put, List.setIfInBounds_toArray, List.set_cons_zero, List.set_cons_succ])
        refine wpAnyH_take (i := 0) (oi := { dst := some 100, op := Op.load 44 (Operand.tmp 2), type := 44, pos := "magnitude.go:189", after := #[], guard := none }) (v := ?_) rfl (by kernel_rfl) (by kernel_rfl) (by kernel_rfl) (fun _ _ _ h => h) (Or.inl ⟨by rfl, ?_⟩) hHeld ?_
        rotate_left
        · intro w hSw; (try dsimp only at hSw); go_simp; (try with_reducible rfl)
        (try simp only [Act.put, List.setIfInBounds_toArray, List.set_cons_zero, List.set_cons_succ])
        refine wpAnyH_take (i := 1) (oi := { dst := some 101, op := Op.load 3 (Operand.tmp 10), type := 3, pos := "magnitude.go:189", after := #[], guard := none }) (v := ?_) rfl (by kernel_rfl) (by kernel_rfl) (by kernel_rfl) (fun _ _ _ h => h) (Or.inl ⟨by rfl, ?_⟩) hHeld ?_
        rotate_left
        · intro w hSw; (try dsimp only at hSw); go_simp; (try with_reducible rfl)
        (try simp only [Act.put, List.setIfInBounds_toArray, List.set_cons_zero, List.set_cons_succ])
        refine wpAnyH_ready (rs := [4]) (by kernel_rfl) (by simp) ?_
        refine AllReadyH.cons (o := { dst := some 104, op := Op.load 75 (Operand.tmp 11), type := 75, pos := "magnitude.go:189", after := #[], guard := none }) rfl (fun K hK => ?_) AllReadyH.nil
        go_simp
        refine hK.out _ _ ?_ (fun hHeld => ?_)
        · exact hHeld
        clear hK K
        (try simp only [Act.put, List.setIfInBounds_toArray, List.set_cons_zero, List.set_cons_succ])
        refine wpAnyH_ready (rs := [5]) (by kernel_rfl) (by simp) ?_
        refine AllReadyH.cons (o := { dst := some 105, op := Op.call { callee := Callee.value (Operand.func 136), args := #[Operand.tmp 102, Operand.tmp 103, Operand.tmp 104], argTypes := #[75, 75, 75] }, type := 129, pos := "magnitude.go:189", after := #[{ on := 2, ground := Ground.data }, { on := 3, ground := Ground.data }, { on := 4, ground := Ground.data }], guard := none }) rfl (fun K hK => ?_) AllReadyH.nil
        go_simp
        refine (sub32_to _ hx hy hcl HD.out HB'.out).mono ?_
        rintro e w' ⟨rfl, rfl⟩
        refine hK.out _ _ ?_ (fun hHeld => ?_)
        · exact hHeld
        clear hK K
        (try simp only [Act.put, List.setIfInBounds_toArray, List.set_cons_zero, List.set_cons_succ])
        refine wpAnyH_take (i := 6) (oi := { dst := some 99, op := Op.move (Operand.tmp 105), type := 129, pos := "magnitude.go:189", after := #[{ on := 5, ground := Ground.data }], guard := none }) (v := ?_) rfl (by kernel_rfl) (by kernel_rfl) (by kernel_rfl) (fun _ _ _ h => h) (Or.inl ⟨by rfl, ?_⟩) hHeld ?_
        rotate_left
        · intro w hSw; (try dsimp only at hSw); go_simp; (try with_reducible rfl)
        (try simp only [Act.put, List.setIfInBounds_toArray, List.set_cons_zero, List.set_cons_succ])
        refine wpAnyH_take (i := 7) (oi := { dst := some 106, op := Op.extract (Operand.tmp 99) 0, type := 75, pos := "magnitude.go:189", after := #[{ on := 6, ground := Ground.data }], guard := none }) (v := ?_) rfl (by kernel_rfl) (by kernel_rfl) (by kernel_rfl) (fun _ _ _ h => h) (Or.inl ⟨by rfl, ?_⟩) hHeld ?_
        rotate_left
        · intro w hSw; (try dsimp only at hSw); go_simp; (try with_reducible rfl)
        (try simp only [Act.put, List.setIfInBounds_toArray, List.set_cons_zero, List.set_cons_succ])
        refine wpAnyH_take (i := 8) (oi := { dst := some 107, op := Op.extract (Operand.tmp 99) 1, type := 75, pos := "magnitude.go:189", after := #[{ on := 6, ground := Ground.data }, { on := 10, ground := Ground.gcOnly Departure.lateStores }], guard := none }) (v := ?_) rfl (by kernel_rfl) (by kernel_rfl) (by kernel_rfl) (fun _ _ _ h => h) (Or.inl ⟨by rfl, ?_⟩) hHeld ?_
        rotate_left
        · intro w hSw; (try dsimp only at hSw); go_simp; (try with_reducible rfl)
        (try simp only [Act.put, List.setIfInBounds_toArray, List.set_cons_zero, List.set_cons_succ])
        refine wpAnyH_take (i := 9) (oi := { dst := some 108, op := Op.indexAddr 44 (Operand.tmp 100) (Operand.tmp 101), type := 0, pos := "magnitude.go:189", after := #[{ on := 0, ground := Ground.data }, { on := 1, ground := Ground.data }, { on := 0, ground := Ground.phase }, { on := 1, ground := Ground.phase }, { on := 2, ground := Ground.phase }, { on := 3, ground := Ground.phase }, { on := 4, ground := Ground.phase }, { on := 5, ground := Ground.phase }, { on := 6, ground := Ground.phase }, { on := 7, ground := Ground.phase }, { on := 8, ground := Ground.textOnly Departure.lateStores }], guard := none }) (v := ?_) rfl (by kernel_rfl) (by kernel_rfl) (by kernel_rfl) (fun _ _ _ h => h) (Or.inl ⟨by rfl, ?_⟩) hHeld ?_
        rotate_left
        · intro w hSw; (try dsimp only at hSw); go_simp; (try with_reducible rfl)
        (try simp only [Act.put, List.setIfInBounds_toArray, List.set_cons_zero, List.set_cons_succ])
        have hF := HFAR.out
        have n1 : g ≠ W.heap.size := Ne.symm hF.1
        have n2 : g ≠ wc.heap.size + 1 := by omega
        have n3 : wc.heap.size + 1 ≠ g := Ne.symm n2
        refine wpAnyH_ready (rs := [10]) (by kernel_rfl) (by simp) ?_
        refine AllReadyH.cons (o := { dst := none, op := Op.store 75 (Operand.tmp 108) (Operand.tmp 106), type := 0, pos := "magnitude.go:189", after := #[{ on := 9, ground := Ground.data }, { on := 7, ground := Ground.data }, { on := 5, ground := Ground.chain }, { on := 0, ground := Ground.phase }, { on := 1, ground := Ground.phase }, { on := 2, ground := Ground.phase }, { on := 3, ground := Ground.phase }, { on := 4, ground := Ground.phase }, { on := 5, ground := Ground.phase }, { on := 6, ground := Ground.phase }, { on := 7, ground := Ground.phase }, { on := 8, ground := Ground.textOnly Departure.lateStores }], guard := none }) rfl (fun K hK => ?_) AllReadyH.nil
        go_simp
        refine hK.out _ _ ?_ (fun hHeld => ?_)
        · exact ⟨(World.cell?_setCell_far _ _ _ _ (by exact n1)).trans hHeld.1, (World.cell?_setCell_far _ _ _ _ (by exact hgX)).trans hHeld.2⟩
        clear hK K
        (try simp only [Act.put, List.setIfInBounds_toArray, List.set_cons_zero, List.set_cons_succ])
        refine wpAnyH_ready (rs := [11]) (by kernel_rfl) (by simp) ?_
        refine AllReadyH.cons (o := { dst := none, op := Op.store 75 (Operand.tmp 11) (Operand.tmp 107), type := 0, pos := "magnitude.go:189", after := #[{ on := 8, ground := Ground.data }, { on := 10, ground := Ground.chain }, { on := 0, ground := Ground.phase }, { on := 1, ground := Ground.phase }, { on := 2, ground := Ground.phase }, { on := 3, ground := Ground.phase }, { on := 4, ground := Ground.phase }, { on := 5, ground := Ground.phase }, { on := 6, ground := Ground.phase }, { on := 7, ground := Ground.phase }, { on := 8, ground := Ground.phase }, { on := 9, ground := Ground.phase }, { on := 10, ground := Ground.phase }], guard := none }) rfl (fun K hK => ?_) AllReadyH.nil
        go_simp
        refine hK.out _ _ ?_ (fun hHeld => ?_)
        · exact ⟨(World.cell?_setCell_far _ _ _ _ (by show wc.heap.size + 1 ≠ W.heap.size; omega)).trans hHeld.1, (World.cell?_setCell_far _ _ _ _ (by show wc.heap.size + 1 ≠ wc.heap.size; omega)).trans hHeld.2⟩
        clear hK K
        (try simp only [Act.put, List.setIfInBounds_toArray, List.set_cons_zero, List.set_cons_succ])
        refine wpAnyH_done (by kernel_rfl) ?_ _
        have hk1 := hHeld.2
        clear hHeld
        gi_wp2
        refine ⟨((KeepsOthers.setCell _ _ _).trans ((KeepsOthers.setCell _ _ _).trans (KeepsOthers.setCell _ _ _))).trans ⟨Nat.le_refl _, fun _ _ h _ => h⟩, r ++ [d], b', ?_⟩
        exact (HI.out.round (⟨x, hx⟩, ⟨y, hy⟩) (by rw [HD.out]; exact dif_lt hx hy hcl) (by rw [HB'.out]; exact brw_le _ _ _) (fun a b2 rr k he => by rw [HD.out, HB'.out]; exact eqMinus_step he hx hy hcl) hpl (Ne.symm hgX) n3 (by omega)).drew
      case done =>
        rintro D ys W3 hD rfl ⟨r, b, hI⟩ hK
        have HI := Lib.hid hI
        have HK := Lib.hid hK
        have HVB := Lib.hid vb
        clear hI hK
        go_wp2
        refine ⟨by simp, .inl ⟨_, _, rfl, run_takeDeferred HK.out, ?_⟩⟩
        have hlr : r.length = n + 1 := by rw [HI.out.len, pairsF_length, win_length hj, HNP.out]; omega
        have hval : val B32 r = uw % zv := by
          have h1 := HI.out.eq
          unfold eqMinus at h1
          rw [fsts_pairs, snds_pairs, HUW.out, val_digs (by decide), ← HI.out.len] at h1
          have h2 := val_lt HI.out.dig
          have h4 := Nat.div_add_mod uw zv
          rw [hq.out] at h4
          have h5 : b = 0 := by
            refine Classical.byContradiction fun hne => ?_
            have h6 : 1 ≤ b := by omega
            have := Nat.mul_le_mul_left (B32 ^ r.length) h6
            omega
          rw [h5] at h1
          omega
        refine ⟨_, results_tmp rfl _ _ _, ?_, ⟨r, hlr, HI.out.dig, by rw [hval, HUW.out, HZV.out], HI.out.m.putDeferred HK.out _⟩, ?_⟩
        · rw [HUW.out, HZV.out, hq.out]; rfl
        · have ot := HI.out.ot
          refine ⟨ot.1.trans (HVB.out.os.trans (hb.out.os.trans bV.os)), ot.2.1.trans (HVB.out.tape.trans (hb.out.tape.trans bV.tape)), ot.2.2.1.trans (HVB.out.output.trans (hb.out.output.trans bV.output)), ?_, ?_⟩
          · have := ot.2.2.2
            simp [World.putObj]; omega
          · intro k hk hne
            have hkg : k ≠ g := fun e => hne (by rw [e])
            rw [World.putObj_heap_other (by omega), HI.out.fr k (by omega) hkg (by omega) (by omega), HVB.out.block k (by omega), hb.out.block k (by omega), bV.block k hk]
end Go.Proofs.YtkpoegdcmnjedaaDoor
