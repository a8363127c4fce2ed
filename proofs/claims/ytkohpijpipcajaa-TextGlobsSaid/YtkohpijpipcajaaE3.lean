import Derived.Test.YtkohpijpipcajaaE1
import Derived.Test.YtkohpijpipcajaaE2
import Derived.Laws.EntriesVeiled
import Derived.Test.YtkohpijpipcajaaE5
import Derived.LoopTactic
import Derived.Deep.Cut
namespace Go.Proofs.Ytkohpijpipcajaa
open Go.RowKit Go.Shelf
set_option linter.unusedVariables false
set_option linter.unusedSimpArgs false
attribute [local go_sem] Oper.semAt_some

theorem members_any (s : ByteArray) (w : World) : Calls Try.prog 90 #[.string s] w fun e w' => e = .returned (.func (.func 104) #[] #[.pointer (some ⟨w.heap.size, 0, none⟩)]) ∧ w' = w.alloc (.cells #[.string s] 9) := by
  go_enter Try.func90, Try.ntmps90
  go_wp2
  go_ret
  exact ⟨rfl, rfl⟩

theorem index_c (w : World) : Calls Try.prog 54 #[.string ⟨#[91, 120, 45, 122, 93, 63]⟩, .int .u8 93] w fun e w' => e = .returned (.int .i64 4) ∧ w = w' := by
  refine (Try.strings_IndexByte ⟨#[91, 120, 45, 122, 93, 63]⟩ 93 w).mono ?_
  rintro e w' ⟨rfl, rfl⟩
  exact ⟨by rfl, rfl⟩

set_option maxRecDepth 100000 in
set_option maxHeartbeats 4000000 in
theorem parts_c (w : World) :
    Calls Try.prog 71 #[.string ⟨#[97, 42, 91, 120, 45, 122, 93, 63]⟩, .bool false] w (PartsC w) := by
  refine (callsIn_wide (n := 3)).1 ?_
  refine callsIn_of_wp_marks Try.func71 rfl trivial ?_ rfl
  simp only [Try.ntmps71, List.size_toArray, List.length_cons, List.length_nil, Nat.reduceAdd, Nat.reduceSub, Array.replicate_succ, Array.replicate_zero, List.push_toArray, List.append_toArray, List.nil_append, List.cons_append]
  refine wpIn_wide.2 ?_
  go_wp2
  refine wp_loop_rounds 5 ?_
  rw [rounds_succ]
  have ef : (w.alloc (Obj.cells #[Value.bool false] 4)).cell? ⟨w.heap.size, 0, none⟩ = some (.bool false) := by simp
  generalize hW : w.alloc (Obj.cells #[Value.bool false] 4) = W
  rw [hW] at ef
  have s0 : W.heap.size = w.heap.size + 1 := by rw [← hW]; simp
  have b0 : Below w.heap.size w W := by rw [← hW]; exact (Below.refl _ _).alloc (Nat.le_refl _) _
  clear hW
  have EF := Lib.hid ef
  have S0 := Lib.hid s0
  clear ef s0
  have hlt : w.heap.size < W.heap.size := by have := S0.out; omega
  have e0 : ((⟨#[97, 42, 91, 120, 45, 122, 93, 63]⟩ : ByteArray)[0]).toNat = 97 := rfl
  go_wp2_with fail
  -- the first part: 'a'
  obtain ⟨V, hV, p0, p1, p2, p3⟩ := new_part W Try.zeroCells79 (Value.func (Fn.func 89) #[] #[Value.pointer (some { block := W.heap.size, off := 0 }), Value.pointer (some { block := w.heap.size, off := 0 })])
  rw [← hV]
  refine (put_c W.heap.size w.heap.size 97 (.bool false) V (by omega) ?_ (frozen_of_row _ _ _ _ _ p0) ((p2.cell (p := ⟨w.heap.size, 0, none⟩) hlt).trans EF.out) (by omega)).mono ?_
  · rw [cell_of_row _ _ _ _ _ _ p0, zc79]; kernel_rfl
  rintro e w' ⟨rfl, rfl⟩
  obtain ⟨q0, q1, q2⟩ := part_store (i := 1 + 97) (v := .bool true) p0 p2 (Nat.le_refl _)
  generalize V.setCell ⟨W.heap.size, 1 + 97, none⟩ (.bool true) = V1 at q0 q1 q2 ⊢
  have z0 : (Try.zeroCells79.setIfInBounds (1 + 97) (.bool true)).size = 257 ∧ (Try.zeroCells79.setIfInBounds (1 + 97) (.bool true)).all (·.oneCell') = true := by rw [zc79]; exact ⟨by kernel_rfl, by kernel_rfl⟩
  generalize hc0 : Try.zeroCells79.setIfInBounds (1 + 97) (.bool true) = cs0 at q0 z0
  have HC0 := Lib.hid hc0
  have Q0 := Lib.hid q0
  have Z0 := Lib.hid z0
  have q3 : W.heap.size + 2 ≤ V1.heap.size := by omega
  have HI := Lib.hid (show (Try.prog.info? 79).map (·.size) = some cs0.size by rw [z0.1]; exact info79)
  have P1 := Lib.hid p1
  have Q2 := Lib.hid q2
  clear hV p0 p3 q0 z0 hc0 e0 p1 q2
  go_wp2_with (first | (refine wpList_load_row rfl 79 _ rfl (W.heap.size) rfl 79 _ (0,0) _ Q0.out Try.underlying79 rfl HI.out ?_) | (refine wpList_buildP rfl _ rfl cs0 rfl Z0.out.1 ?_) | (at_builtin; refine wpList_appP rfl _ _ rfl W.heap.size V1 cs0 Z0.out.1 Z0.out.2 _ 0 [] rfl rfl (World.ownsRow_nil _ _ _ _) (by omega) (by decide) ?_; intro g0 c0 W1 hb1 ho1 hs1 _; have HB1 := Lib.hid hb1; have HO1 := Lib.hid ho1; clear hb1 ho1))
  -- the second part: '*'
  have hlt1 : w.heap.size < W1.heap.size := by omega
  have EF1 := Lib.hid ((HB1.out.cell (p := ⟨w.heap.size, 0, none⟩) hlt).trans ((q1.cell (p := ⟨w.heap.size, 0, none⟩) hlt).trans EF.out))
  have e1 : ((⟨#[97, 42, 91, 120, 45, 122, 93, 63]⟩ : ByteArray)[1]).toNat = 42 := rfl
  have y0 : Try.zeroCells79[0]? = some (.bool false) := by kernel_rfl
  rw [rounds_succ]
  go_upto_region 28 with (fail)
  obtain ⟨V2, hV, p0, p1, p2, _⟩ := new_part W1 (Try.zeroCells79.setIfInBounds 0 (.bool true)) (Value.func (Fn.func 89) #[] #[Value.pointer (some { block := W1.heap.size, off := 0 }), Value.pointer (some { block := w.heap.size, off := 0 })])
  rw [← hV]
  have z1 : (Try.zeroCells79.setIfInBounds 0 (.bool true)).size = 257 ∧ (Try.zeroCells79.setIfInBounds 0 (.bool true)).all (·.oneCell') = true := by rw [zc79]; exact ⟨by kernel_rfl, by kernel_rfl⟩
  generalize hc1 : Try.zeroCells79.setIfInBounds 0 (.bool true) = cs1 at p0 z1
  have HC1 := Lib.hid hc1
  have Q1 := Lib.hid p0
  have Z1 := Lib.hid z1
  have HI1 := Lib.hid (show (Try.prog.info? 79).map (·.size) = some cs1.size by rw [z1.1]; exact info79)
  have HO1' : Hid (V2.ownsRow W.heap.size 79 257 (.slice (some ⟨g0, 0, none⟩) 1 c0) 1 cs0.toList) := Lib.hid (owns_below HO1.out p2)
  have hz2 : W.heap.size ≤ V2.heap.size := by have := p2.size; omega
  have HP2 := Lib.hid p2
  clear hV p0 p1 p2 hc1 z1 e1 y0
  go_wp2_with (first | (refine wpList_load_row rfl 79 _ rfl (W1.heap.size) rfl 79 _ (0,0) _ Q1.out Try.underlying79 rfl HI1.out ?_) | (refine wpList_buildP rfl _ rfl cs1 rfl Z1.out.1 ?_) | (at_builtin; go_loud (refine wpList_appP rfl _ _ rfl W.heap.size V2 cs1 Z1.out.1 Z1.out.2 (.slice (some ⟨g0, 0, none⟩) 1 c0) 1 cs0.toList rfl rfl HO1'.out hz2 (by decide) ?_; intro g1 c1 W2 hb2 ho2 hs2 _; have HB2 := Lib.hid hb2; have HO2 := Lib.hid ho2; clear hb2 ho2)))
  -- the third part: '[x-z]'
  have hlt2 : w.heap.size < W2.heap.size := by omega
  have EF2 := Lib.hid ((HB2.out.cell (p := ⟨w.heap.size, 0, none⟩) hlt).trans ((HP2.out.cell (p := ⟨w.heap.size, 0, none⟩) hlt1).trans EF1.out))
  have e2 : ((⟨#[97, 42, 91, 120, 45, 122, 93, 63]⟩ : ByteArray)[2]).toNat = 91 := rfl
  have x2 : (⟨#[97, 42, 91, 120, 45, 122, 93, 63]⟩ : ByteArray).extract 2 8 = ⟨#[91, 120, 45, 122, 93, 63]⟩ := by kernel_rfl
  have x3 : (⟨#[97, 42, 91, 120, 45, 122, 93, 63]⟩ : ByteArray).extract 3 6 = ⟨#[120, 45, 122]⟩ := by kernel_rfl
  rw [rounds_succ]
  go_wp2_with (first | (go_at_call 54; refine (index_c _).mono ?_; rintro e w' ⟨rfl, rfl⟩) | (go_at_call 90; refine (members_any _ _).mono ?_; rintro e w' ⟨rfl, rfl⟩))
  clear e2 x2 x3
  obtain ⟨V3, hV, p0, p1, p2, p3, p4⟩ := new_part3 W2 Try.zeroCells79 (Value.func (Fn.func 89) #[] #[Value.pointer (some { block := W2.heap.size, off := 0 }), Value.pointer (some { block := w.heap.size, off := 0 })]) (.string ⟨#[120, 45, 122]⟩)
  rw [← hV]
  clear hV
  have HO2' : Hid (V3.ownsRow W.heap.size 79 257 (.slice (some ⟨g1, 0, none⟩) 2 c1) 2 (cs0.toList ++ cs1.toList)) := Lib.hid (owns_below HO2.out p2)
  have hI0 : PartI W2 w.heap.size (Value.func (Fn.func 89) #[] #[Value.pointer (some { block := W2.heap.size, off := 0 }), Value.pointer (some { block := w.heap.size, off := 0 })]) [] V3 := ⟨p0, p3, (p2.cell (p := ⟨w.heap.size, 0, none⟩) hlt2).trans EF2.out, p2⟩
  refine (wpIn_wide (n := 3)).1 ?_
  refine wpIn_rangeFunc_ownF rfl (by decide) (gf := 104) (lb := #[.pointer (some ⟨W2.heap.size + 1 + 1, 0, none⟩)]) rfl trivial (enters_of Try.func104 (by kernel_rfl) rfl)
    (members_stops 2 (by decide) (W2.heap.size + 1 + 1) V3 (by omega) p4) (fun h k => k.trans h) (fun W l o o' hl hW _ _ => World.putObj_heap_other (by omega)) (Below.refl _ _) (fun _ => rfl)
    (PartI W2 w.heap.size (Value.func (Fn.func 89) #[] #[Value.pointer (some { block := W2.heap.size, off := 0 }), Value.pointer (some { block := w.heap.size, off := 0 })]))
    (fun _ _ _ => False) (partI_own _ _ _ _ (by omega)) (fun _ _ _ _ _ hs _ _ => hs) hI0 ?a1 ?assign ?body ?done ?stop
  case assign =>
    intro l x W K hK
    gi_wp2
    exact hK
  case body =>
    rintro l pre x W hI _
    have hI' := hI
    obtain ⟨h1, h2, h3, h4⟩ := hI
    obtain ⟨v, hv⟩ : ∃ v, (addp pre)[1 + x.val]? = some v := ⟨_, Array.getElem?_eq_getElem (by rw [addp_size]; have := x.isLt; omega)⟩
    have hc1 := (cell_of_row W W2.heap.size (1 + x.val) _ 79 (0, 0) h1).trans hv
    have hc2 := frozen_of_row W W2.heap.size (1 + x.val) _ 79 h1
    clear h1 h4 hv
    gi_wp2
    refine ⟨trivial, ?_⟩
    refine (CallsIn.inRound l (callsIn_wide.2 (put_c W2.heap.size w.heap.size x.val v W (by have := x.isLt; omega) hc1 hc2 h3 (by omega)))).mono ?_
    rintro e w' ⟨rfl, rfl⟩
    gi_wp2
    exact ⟨KeepsOthers.setCell _ _ _, heap_setCell_other _ _ _ _ (by simp; omega), partI_put hI' (by omega) x⟩
  case done =>
    rintro D ys W3 hD rfl hI hK
    obtain ⟨h1, h2, h3, h4⟩ := hI
    have z2 : (addp [120, 121, 122]).size = 257 ∧ (addp [120, 121, 122]).all (·.oneCell') = true := ⟨addp_size _, by unfold addp; rw [zc79]; kernel_rfl⟩
    have h1' : W3.heap[W2.heap.size]? = some (.cells (addp [120, 121, 122]) 79 (0, 0)) := h1
    have HO3 : Hid (W3.ownsRow W.heap.size 79 257 (.slice (some ⟨g1, 0, none⟩) 2 c1) 2 (cs0.toList ++ cs1.toList)) := Lib.hid (owns_below HO2.out h4)
    have hz3 : W.heap.size ≤ W3.heap.size := by have := h4.size; omega
    generalize hc2 : addp [120, 121, 122] = cs2 at h1' z2
    have HC2 := Lib.hid hc2
    have R3 := Lib.hid h1'
    have Z2 := Lib.hid z2
    have HI2 := Lib.hid (show (Try.prog.info? 79).map (·.size) = some cs2.size by rw [z2.1]; exact info79)
    have HP4 := Lib.hid h4
    have HK := Lib.hid hK
    have H3 := Lib.hid h3
    clear h1 h2 h3 h4 h1' hc2 z2 hK
    go_wp2_with (first | (refine wpList_load_row rfl 79 _ rfl (W2.heap.size) rfl 79 _ (0,0) _ R3.out Try.underlying79 rfl HI2.out ?_) | (refine wpList_buildP rfl _ rfl cs2 rfl Z2.out.1 ?_) | (at_builtin; go_loud (refine wpList_appP rfl _ _ rfl W.heap.size W3 cs2 Z2.out.1 Z2.out.2 (.slice (some ⟨g1, 0, none⟩) 2 c1) 2 (cs0.toList ++ cs1.toList) rfl rfl HO3.out hz3 (by decide) ?_; intro g2 c2 W4 hb4 ho4 hs4 hd4; have HB4 := Lib.hid hb4; have HO4 := Lib.hid ho4; have HD4 := Lib.hid (hd4 D _ HK.out rfl); clear hb4 ho4 hd4)))
    have e7 : ((⟨#[97, 42, 91, 120, 45, 122, 93, 63]⟩ : ByteArray)[7]).toNat = 63 := rfl
    rw [rounds_succ]
    go_wp2_with fail
    obtain ⟨V5, hV5, p0, p1, p2, _⟩ := new_part W4 Try.zeroCells79 (Value.func (Fn.func 89) #[] #[Value.pointer (some { block := W4.heap.size, off := 0 }), Value.pointer (some { block := w.heap.size, off := 0 })])
    rw [← hV5]
    have hDl : D < W4.heap.size := lt_of_block HD4.out
    have hq0 := QRow.start p0 p2 HD4.out
    clear hV5 p0 p1 p2 e7
    go_loopw [34] (fun t wr => ∃ k : Nat, k ≤ 256 ∧ t = .int .i64 k ∧ QRow W4 D k wr) (fun t _ => 256 - (intOf t).toNat)
    case atStart => exact ⟨0, by omega, rfl, hq0⟩
    case round =>
      obtain ⟨k, hk, rfl, hq⟩ := hrel
      by_cases hlt : k < 256
      · obtain ⟨v, hv⟩ := hq.cell hlt
        have hf := hq.free
        have hq' := hq.step hlt hDl
        go_wp2
        go_roundw
        case rel => exact ⟨k + 1, by omega, by go_num, hq'⟩
        case measure => simp [intOf]; omega
      · obtain rfl : k = 256 := by omega
        obtain ⟨cs3, r1, r2, r3, r4, r5, r6, r7⟩ := hq
        have R3' := Lib.hid r1
        have Z3 := Lib.hid (show cs3.size = 257 ∧ cs3.all (·.oneCell') = true from ⟨r2, Array.all_eq_true.2 fun i hi => r5 i _ (Array.getElem?_eq_getElem hi)⟩)
        have HI3 := Lib.hid (show (Try.prog.info? 79).map (·.size) = some cs3.size by rw [r2]; exact info79)
        have HO5 : Hid (wr.ownsRow W.heap.size 79 257 (.slice (some ⟨g2, 0, none⟩) 3 c2) 3 (cs0.toList ++ cs1.toList ++ cs2.toList)) := Lib.hid (owns_below HO4.out r6)
        have hz5 : W.heap.size ≤ wr.heap.size := by have := r6.size; omega
        have K3 := Lib.hid r3
        have K4 := Lib.hid (r4 113 (by omega))
        have HB5 := Lib.hid r6
        have HD5 := Lib.hid r7
        clear r1 r2 r3 r4 r5 r6 r7
        go_upto_region 28 with (fail)
        go_wp2_with (first | (refine wpList_load_row rfl 79 _ rfl (W4.heap.size) rfl 79 _ (0,0) _ R3'.out Try.underlying79 rfl HI3.out ?_) | (refine wpList_buildP rfl _ rfl cs3 rfl Z3.out.1 ?_) | (at_builtin; go_loud (refine wpList_appP rfl _ _ rfl W.heap.size wr cs3 Z3.out.1 Z3.out.2 (.slice (some ⟨g2, 0, none⟩) 3 c2) 3 (cs0.toList ++ cs1.toList ++ cs2.toList) rfl rfl HO5.out hz5 (by decide) ?_; intro g3 c3 W6 hb6 ho6 hs6 hd6; have HB6 := Lib.hid hb6; have HO6 := Lib.hid ho6; have HD6 := Lib.hid (hd6 D _ HD5.out rfl); clear hb6 ho6 hd6)))
        rw [rounds_succ]
        go_wp2_with fail
        refine ⟨by simp, .inl ⟨_, _, rfl, run_takeDeferred HD6.out, ?_⟩⟩
        refine ⟨_, results_tmp2 rfl _ _ _, ?_⟩
        have BB : Below W.heap.size W W6 := q1.trans (HB1.out.trans ((HP2.out.mono (by omega)).trans (HB2.out.trans ((HP4.out.mono (by omega)).trans (HB4.out.trans ((HB5.out.mono (by omega)).trans HB6.out))))))
        refine parts_end Z0.out.1 Z1.out.1 Z2.out.1 Z3.out.1 HO6.out ?_ ?_ ?_ ?_ ?_ K3.out K4.out HD6.out (b0.trans (BB.mono (by omega))) (by omega)
        · rw [← HC0.out, zc79]; kernel_rfl
        · rw [← HC0.out, zc79]; kernel_rfl
        · rw [← HC1.out, zc79]; kernel_rfl
        · rw [← HC2.out]; unfold addp; rw [zc79]; kernel_rfl
        · rw [← HC2.out]; unfold addp; rw [zc79]; kernel_rfl
  case stop =>
    rintro D c pre W _ _ h _
    exact h.elim
end Go.Proofs.Ytkohpijpipcajaa
