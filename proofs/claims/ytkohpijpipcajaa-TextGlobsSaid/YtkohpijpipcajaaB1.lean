import Derived.Test.YtkohpijpipcajaaA1
import Derived.Laws.Rows
import Derived.OneCell
import Derived.Laws.NewBlocks
import Derived.Laws.AppendOwn
import Derived.OwnWalk
namespace Go.Proofs.Ytkohpijpipcajaa
open Go.RowKit
set_option linter.unusedVariables false
set_option linter.unusedSimpArgs false

theorem zc71 : Try.zeroCells71 = Array.replicate 256 (.slice none 0 0) := by kernel_rfl
theorem info3 : (Try.prog.info? 3).map (fun i => (i.zero, i.size, i.bytes)) = some (some (.int .i64 0), 1, 8) := by kernel_rfl
theorem info71 : (Try.prog.info? 71).map (·.size) = some 256 := by kernel_rfl

theorem below_trans_of {n m : Nat} {a b c : World} (h : Below n a b) (k : Below m b c) (hnm : n ≤ m) : Below n a c := h.trans (k.mono hnm)

/-- one number appended to nil. -/
theorem wpList_app1 {ops : Array Oper} {rest : List Oper} {o : Oper} {a : Act} {Q : Exit → Act → World → Prop} (hgd : o.guard = none) (s x : Operand)
    (ho : o.op = .call { callee := .builtin .append, args := #[s, x], argTypes := #[70, 70] }) (W : World) (k : Int)
    (hs : a.eval s = .slice none 0 0) (hx : a.eval x = .slice (some ⟨W.heap.size, 0, none⟩) 1 1)
    (h : ∀ p c w', W.heap.size ≤ p → p < w'.heap.size → Below W.heap.size W w' → w'.cell? ⟨p, 0, none⟩ = some (.int .i64 k) → wpList Try.prog ops Q rest (a.put o.dst (.slice (some ⟨p, 0, none⟩) 1 c)) w') :
    wpList Try.prog ops Q (o :: rest) a (W.alloc (Obj.cells #[.int .i64 k] 3)) := by
  obtain ⟨i0, hi, hz0, hz1, hz2⟩ := info_parts info3
  refine wpList_append_own _ hgd s x 70 ho (W.heap.size) 3 i0 (.int .i64 0) 1 8 Try.underlying70 hi hz0 hz1 hz2 rfl (by decide) _ _ _ hs (World.ownsRow_nil _ _ _ _) ⟨W.heap.size, 0, none⟩ 1 1 [.int .i64 k] hx rfl ?c1 ?c2 (by decide) (by decide) (by simp) ?_
  case c1 =>
    intro j u hj
    cases j with
    | zero => simp at hj; subst hj; exact cell_of_one (heap_alloc_new W _)
    | succ j => simp at hj
  case c2 => intro u hu; simp at hu; subst hu; rfl
  intro v' w' hown hg hn
  have hne : v' ≠ .slice none 0 0 := fun e => by have := (hn.1 e).2; omega
  obtain ⟨hl, hv⟩ := hown
  rcases hv with ⟨e, _⟩ | ⟨g, cap, cur, rfl, hb, hblk, h1, h2, h3, h4⟩
  · exact absurd e hne
  · refine h g cap w' hb (lt_of_block hblk) (((Below.refl _ W).alloc (Nat.le_refl _) _).grown hg (by simp) (fun k e => by cases e)) ?_
    rw [cell_of_row _ _ _ _ _ _ hblk]
    have h5 : cur.toList.take 1 = [.int .i64 k] := by simpa using h4
    have : cur.toList[0]? = some (.int .i64 k) := by
      have h6 : (cur.toList.take 1)[0]? = some (.int .i64 k) := by rw [h5]; rfl
      simpa [List.getElem?_take] using h6
    simpa using this

/-- a store into a row. -/
theorem row_setCell {w : World} {g i : Nat} {cur : Array Value} {t : TypeId} {v : Value} (hg : w.heap[g]? = some (.cells cur t (0, 0))) :
    (w.setCell ⟨g, i, none⟩ v).heap[g]? = some (.cells (cur.setIfInBounds i v) t (0, 0)) := by
  rw [setCell_eq_setRow w g i cur t (0, 0) v hg, setRow_heap w g cur _ t (0, 0) hg]


def KeysC (w : World) (e : Ending) (w' : World) : Prop :=
  ∃ p1 c1 p2 c2, e = .returned (.agg ((Try.zeroCells71.setIfInBounds 97 (.slice (some ⟨p1, 0, none⟩) 1 c1)).setIfInBounds 98 (.slice (some ⟨p2, 0, none⟩) 1 c2))) ∧
    w'.cell? ⟨p1, 0, none⟩ = some (.int .i64 0) ∧ w'.cell? ⟨p2, 0, none⟩ = some (.int .i64 2) ∧ p1 < w'.heap.size ∧ p2 < w'.heap.size ∧ Below w.heap.size w w'

theorem below_setRow {B : Nat} {a w : World} (h : Below B a w) {g : Nat} (hg : B ≤ g) (cs : Array Value) : Below B a (w.setRow g cs) :=
  ⟨h.os, h.tape, h.output, by rw [setRow_size]; exact h.size, fun k hk => (setRow_other w g k cs (by omega)).trans (h.block k hk)⟩

/-- what a round leaves. -/
theorem keys_step {w W w1 : World} {cs : Array Value} {p i : Nat} {k : Int} (hs : w.heap.size + 2 ≤ W.heap.size)
    (r4 : W.heap[w.heap.size]? = some (.cells Try.zeroCells71 71 (0, 0))) (r5 : W.heap[w.heap.size + 1]? = some (.cells cs 71 (0, 0)))
    (bl : Below w.heap.size w W) (hp : W.heap.size ≤ p) (hq : p < w1.heap.size) (hb : Below W.heap.size W w1) (hc : w1.cell? ⟨p, 0, none⟩ = some (.int .i64 k)) (v : Value) :
    ∃ V, V = w1.setCell ⟨w.heap.size + 1, i, none⟩ v ∧ W.heap.size ≤ V.heap.size ∧ p < V.heap.size ∧ V.heap[w.heap.size]? = some (.cells Try.zeroCells71 71 (0, 0)) ∧
      V.heap[w.heap.size + 1]? = some (.cells (cs.setIfInBounds i v) 71 (0, 0)) ∧ Below w.heap.size w V ∧ V.cell? ⟨p, 0, none⟩ = some (.int .i64 k) ∧
      (∀ q, q < W.heap.size → q ≠ w.heap.size + 1 → V.cell? ⟨q, 0, none⟩ = W.cell? ⟨q, 0, none⟩) := by
  have hz : (w1.setCell ⟨w.heap.size + 1, i, none⟩ v).heap.size = w1.heap.size := by simp
  have hW := hb.size
  refine ⟨_, rfl, by rw [hz]; exact hW, by rw [hz]; exact hq, ?_, ?_, ?_, ?_, ?_⟩
  · rw [heap_setCell_other _ _ _ _ (by simp)]; exact (hb.block _ (by omega)).trans r4
  · exact row_setCell ((hb.block _ (by omega)).trans r5)
  · exact (bl.trans (hb.mono (by omega))).setCell (by simp) _
  · rw [World.cell?_of_block (w := w1) (heap_setCell_other _ _ _ _ (by simp; omega))]; exact hc
  · intro q hq hne
    rw [World.cell?_of_block (w := w1) (heap_setCell_other _ _ _ _ (by simpa using hne))]
    exact hb.cell (p := ⟨q, 0, none⟩) hq

set_option maxRecDepth 100000 in
set_option maxHeartbeats 1000000 in
theorem keys_c (w : World) (b : Nat) (h0 : w.cell? ⟨b, 0, none⟩ = some (.string ⟨#[97]⟩)) 
   (h2 : w.cell? ⟨b, 2, none⟩ = some (.string ⟨#[98]⟩)) (hb : b < w.heap.size) :
    Calls Try.prog 67 #[.slice (some ⟨b, 0, none⟩) 4 4, .bool false] w (KeysC w) := by
  go_enter Try.func67, Try.ntmps67
  go_wp2_with fail
  generalize hW : (w.alloc (Obj.cells Try.zeroCells71 71)).alloc (Obj.cells Try.zeroCells71 71) = W
  have hs : w.heap.size + 2 ≤ W.heap.size := by rw [← hW]; simp
  have r4 : W.heap[w.heap.size]? = some (.cells Try.zeroCells71 71 (0, 0)) := by rw [← hW]; exact heap_alloc2_old _ _ _
  have r5 : W.heap[w.heap.size + 1]? = some (.cells Try.zeroCells71 71 (0, 0)) := by rw [← hW]; exact heap_alloc2_new _ _ _
  have bl : Below w.heap.size w W := by rw [← hW]; exact ((Below.refl _ _).alloc (Nat.le_refl _) _).alloc (by simp) _
  have g0 := (bl.cell (p := ⟨b, 0, none⟩) hb).trans h0
  clear hW
  have z97 : W.cell? ⟨w.heap.size + 1, 97, none⟩ = some (.slice none 0 0) := by rw [cell_of_row _ _ _ _ _ _ r5, zc71]; kernel_rfl
  have H0 := Lib.hid h0
  have H2 := Lib.hid h2
  have R4 := Lib.hid r4
  have R5 := Lib.hid r5
  clear r4 r5 h0 h2
  have ea : ((⟨#[97]⟩ : ByteArray)[0]).toNat = 97 := rfl
  refine wp_loop_rounds 3 ?_
  rw [rounds_succ]
  go_wp2_with (first | (at_builtin; refine wpList_app1 rfl _ _ rfl W _ rfl rfl ?_; intro p1 c1 w1 hp1 hq1 hb1 hc1; have k1 := (hb1.cell (p := ⟨w.heap.size + 1, 97, none⟩) (by simp; omega)).trans z97; have k2 := (hb1.frozen (p := ⟨w.heap.size + 1, 97, none⟩) (by simp; omega)).trans (frozen_of_row _ _ _ _ _ R5.out)) | (go_at_call 58; refine (small_any _ _ (by omega) (by omega)).mono ?_; rintro e w' ⟨rfl, rfl⟩) | (go_at_call 60; refine (great_any _ _ (by omega) (by omega)).mono ?_; rintro e w' ⟨rfl, rfl⟩))
  obtain ⟨V, hV, s1, q1, t4, t5, bl1, d1, ho1⟩ := keys_step (i := 97) hs R4.out R5.out bl hp1 hq1 hb1 hc1 (.slice (some ⟨p1, 0, none⟩) 1 c1)
  rw [← hV]
  clear hV k1 k2 hc1 hb1 g0 z97 ho1 hq1 ea
  have g2 := (bl1.cell (p := ⟨b, 2, none⟩) hb).trans H2.out
  have z98 : V.cell? ⟨w.heap.size + 1, 98, none⟩ = some (.slice none 0 0) := by
    rw [cell_of_row _ _ _ _ _ _ t5, Array.getElem?_setIfInBounds_ne (by decide), zc71]; kernel_rfl
  have eb : ((⟨#[98]⟩ : ByteArray)[0]).toNat = 98 := rfl
  have T4 := Lib.hid t4
  have T5 := Lib.hid t5
  have D1 := Lib.hid d1
  clear t4 t5 d1
  rw [rounds_succ]
  go_wp2_with (first | (at_builtin; refine wpList_app1 rfl _ _ rfl V _ rfl rfl ?_; intro p2 c2 w2 hp2 hq2 hb2 hc2; have k1 := (hb2.cell (p := ⟨w.heap.size + 1, 98, none⟩) (by simp; omega)).trans z98; have k2 := (hb2.frozen (p := ⟨w.heap.size + 1, 98, none⟩) (by simp; omega)).trans (frozen_of_row _ _ _ _ _ T5.out)) | (go_at_call 58; refine (small_any _ _ (by omega) (by omega)).mono ?_; rintro e w' ⟨rfl, rfl⟩) | (go_at_call 60; refine (great_any _ _ (by omega) (by omega)).mono ?_; rintro e w' ⟨rfl, rfl⟩))
  obtain ⟨V2, hV, s2, q2, u4, u5, bl2, d2, ho2⟩ := keys_step (i := 98) (Nat.le_trans hs s1) T4.out T5.out bl1 hp2 hq2 hb2 hc2 (.slice (some ⟨p2, 0, none⟩) 1 c2)
  have d1 := (ho2 p1 q1 (by omega)).trans D1.out
  rw [← hV]
  clear hV k1 k2 hc2 hb2 g2 z98 ho2 hq2 eb
  have U4 := Lib.hid u4
  have U5 := Lib.hid u5
  have D1 := Lib.hid d1
  have D2 := Lib.hid d2
  clear u4 u5 d1 d2
  have hsz : ((Try.zeroCells71.setIfInBounds 97 (.slice (some ⟨p1, 0, none⟩) 1 c1)).setIfInBounds 98 (.slice (some ⟨p2, 0, none⟩) 1 c2)).size = 256 := by simp [zc71]
  have hone : ((Try.zeroCells71.setIfInBounds 97 (.slice (some ⟨p1, 0, none⟩) 1 c1)).setIfInBounds 98 (.slice (some ⟨p2, 0, none⟩) 1 c2)).all (·.oneCell') = true := by
    rw [zc71]; kernel_rfl
  have hi : (Try.prog.info? 71).map (·.size) = some ((Try.zeroCells71.setIfInBounds 97 (.slice (some ⟨p1, 0, none⟩) 1 c1)).setIfInBounds 98 (.slice (some ⟨p2, 0, none⟩) 1 c2)).size := by rw [hsz]; exact info71
  have hsz0 : Try.zeroCells71.size = ((Try.zeroCells71.setIfInBounds 97 (.slice (some ⟨p1, 0, none⟩) 1 c1)).setIfInBounds 98 (.slice (some ⟨p2, 0, none⟩) 1 c2)).size := by simp
  generalize hcs : (Try.zeroCells71.setIfInBounds 97 (.slice (some ⟨p1, 0, none⟩) 1 c1)).setIfInBounds 98 (.slice (some ⟨p2, 0, none⟩) 1 c2) = cs at hsz hone hi hsz0 U5
  have HCS := Lib.hid hcs
  have HSZ := Lib.hid hsz
  have HONE := Lib.hid hone
  have HI := Lib.hid hi
  have HSZ0 := Lib.hid hsz0
  clear hcs hsz hone hi hsz0
  rw [rounds_succ]
  go_wp2_with (first | (refine wpList_load_row rfl 71 _ rfl (w.heap.size + 1) rfl 71 _ (0,0) _ U5.out Try.underlying71 rfl HI.out ?_) | (refine wpList_store_row rfl 71 _ _ rfl (w.heap.size) _ rfl rfl 71 _ U4.out HI.out HSZ0.out HONE.out ?_))
  refine bodyPost_ret (v := .agg cs) (results_cell_row (p := 4) (ty := 71) rfl _ _ (w.heap.size) 71 cs (0, 0) _ rfl (setRow_heap _ _ _ _ _ _ U4.out) Try.underlying71 rfl HI.out) rfl ?_
  refine ⟨p1, c1, p2, c2, by rw [HCS.out], ?_, ?_, by rw [setRow_size]; omega, by rw [setRow_size]; omega, below_setRow bl2 (Nat.le_refl _) cs⟩
  · rw [cell_setRow_other _ _ _ _ (by simp; omega)]; exact D1.out
  · rw [cell_setRow_other _ _ _ _ (by simp; omega)]; exact D2.out
end Go.Proofs.Ytkohpijpipcajaa
