import Derived.Test.YtkohpijpipcajaaO4
import Derived.Test.YtkohpijpipcajaaN1
import Derived.StillTailTactics
namespace Go.Proofs.Ytkohpijpipcajaa
open Go.RowKit
set_option linter.unusedVariables false
set_option linter.unusedSimpArgs false

theorem turned {P : Program} {f : FuncId} {args : Array Value} {w : World} {v : Value} (h : Calls P f args w fun e w' => e = .returned v ∧ w = w') : Calls P f args w fun e w' => e = .returned v ∧ w' = w :=
  h.mono fun e w' ⟨a, b⟩ => ⟨a, b.symm⟩

/-- the box of two numbers, and the texts of Long. -/
structure Box2At (g : Nat) (x0 x1 : Int) (V : World) : Prop where
  i0 : V.cell? ⟨g, 0, none⟩ = some (.int .i64 x0)
  i1 : V.cell? ⟨g, 1, none⟩ = some (.int .i64 x1)
theorem box2_texts (w : World) (x0 x1 : Int) (s t : ByteArray) : ∃ V, V = (w.alloc (Obj.cells #[.int .i64 x0, .int .i64 x1] 22)).alloc (Obj.cells #[.string s, .string t] 9) ∧
    Box2At w.heap.size x0 x1 V ∧ V.cell? ⟨w.heap.size + 1, 0, none⟩ = some (.string s) ∧ V.cell? ⟨w.heap.size + 1, 1, none⟩ = some (.string t) ∧ Below w.heap.size w V ∧ V.heap.size = w.heap.size + 2 := by
  have h0 := heap_alloc2_old w (Obj.cells #[.int .i64 x0, .int .i64 x1] 22) (Obj.cells #[.string s, .string t] 9)
  have h1 := heap_alloc2_new w (Obj.cells #[.int .i64 x0, .int .i64 x1] 22) (Obj.cells #[.string s, .string t] 9)
  exact ⟨_, rfl, ⟨(cell_of_row _ _ _ _ _ _ h0).trans rfl, (cell_of_row _ _ _ _ _ _ h0).trans rfl⟩, (cell_of_row _ _ _ _ _ _ h1).trans rfl, (cell_of_row _ _ _ _ _ _ h1).trans rfl,
    ((Below.refl _ _).alloc (Nat.le_refl _) _).alloc (by simp) _, by simp⟩

set_option maxRecDepth 100000 in
set_option maxHeartbeats 4000000 in
theorem textFinds_near (s t : ByteArray) (x0 x1 : Int) (w : World) (hs : s.size ≤ 400) (ht : t.size ≤ 400) (a0 : -9223372036854775808 ≤ x0) (a1 : x0 ≤ 9223372036854775807)
    (b0 : -9223372036854775808 ≤ x1) (b1 : x1 ≤ 9223372036854775807) (hmx : HasMax w) :
    Calls Try.prog 3 #[.string s, .string t, .agg #[.int .i64 x0, .int .i64 x1]] w fun e w' => e = .returned (.bool true) ∧ Below w.heap.size w w' := by
  obtain ⟨V, hV, hbox, k0, k1, bl, hsz⟩ := box2_texts w x0 x1 s t
  have HV := Lib.hid hV
  have BL := Lib.hid bl
  have hle : w.heap.size < V.heap.size := by omega
  have HL := Lib.hid (long2 s t (w.heap.size + 1) V (by omega) (by omega) k0 k1)
  have HM := Lib.hid (hmx.later (B := w.heap.size) (by obtain ⟨m, hm⟩ := hmx; exact block_lt_of_cell hm) bl)
  have HB := Lib.hid hbox
  clear hV hbox bl k0 k1 hsz hmx
  have HD := Lib.hid (show decide (400 < s.size ∨ 400 < t.size) = false by simp; omega)
  obtain ⟨c, hc⟩ : ∃ c : Int, (∀ w, HasMax w → Calls Try.prog 19 #[.string t, .string s] w fun e w' => e = .returned (.int .i64 c) ∧ w' = w) ∧ (∀ w, Calls Try.prog 20 #[.string t, .string s] w fun e w' => e = .returned (.int .i64 c) ∧ w' = w) := by
    by_cases h0 : t.size = 0
    · exact ⟨0, fun w _ => count_none s t w h0, fun w => turned (ref_count_none s t w (by omega) h0)⟩
    · exact ⟨_, fun w hm => count_val s t w (by omega) hm (by omega), fun w => turned (ref_count_val s t w (by omega) (by omega) (by omega))⟩
  have HC := Lib.hid hc
  clear hc
  go_enter Try.func3, Try.ntmps3
  go_wp2_with fail
  rw [← HV.out]
  refine HL.out.mono ?_
  rintro e w' ⟨rfl, rfl⟩
  rw [HD.out]
  go_wp2_with fail
  refine wp_region_still_tail 58 (by kernel_rfl) (by kernel_rfl) ?_
  simp only [List.take_succ_cons, List.take_zero, List.drop_succ_cons, List.drop_zero]
  generalize hD : ({ w' with drawn := w'.drawn + 1 } : World) = D
  have hz : D.heap.size = w'.heap.size := by rw [← hD]
  have BD : Hid (Below w'.heap.size w' D) := Lib.hid (by rw [← hD]; exact ⟨rfl, rfl, rfl, Nat.le_refl _, fun _ _ => rfl⟩)
  have HMD : Hid (HasMax D) := Lib.hid (by rw [← hD]; exact HM.out)
  have i0 : D.cell? ⟨w.heap.size, 0, none⟩ = some (.int .i64 x0) := by rw [← hD]; exact HB.out.i0
  have i1 : D.cell? ⟨w.heap.size, 1, none⟩ = some (.int .i64 x1) := by rw [← hD]; exact HB.out.i1
  clear hD
  repeat still_step
  still_call (compare_val s t D)
  repeat still_step
  still_call (ref_compare_val s t D)
  repeat still_step
  still_call (range_any s x0 x1 D (by omega) a0 a1 b0 b1)
  repeat still_step
  still_call (turned (ref_range_val s x0 x1 D (by omega) a0 a1 b0 b1))
  repeat still_step
  still_call (first_val s t x0 D (by omega) a0 a1 HMD.out)
  repeat still_step
  still_call (turned (ref_first_val s t x0 D (by omega) (by omega) a0 a1))
  repeat still_step
  still_call (last_val s t x1 D (by omega) (by omega) b0 b1)
  repeat still_step
  still_call (turned (ref_last_val s t x1 D (by omega) (by omega) b0 b1))
  repeat still_step
  still_call (HC.out.1 D HMD.out)
  repeat still_step
  still_call (HC.out.2 D)
  repeat still_step
  refine wpStill_nil ?_
  go_wp2_with fail
  refine (awake_any _).mono ?_
  rintro e W9 ⟨rfl, hb9⟩
  have B9 := Lib.hid (BL.out.trans ((BD.out.trans (hb9.mono (by omega))).mono (by omega)))
  clear hb9
  go_wp2
  go_ret
  exact ⟨rfl, B9.out⟩

set_option maxRecDepth 100000 in
theorem textFinds_far (s t : ByteArray) (x0 x1 : Int) (w : World) (hs0 : s.size ≤ 9223372036854775807) (ht0 : t.size ≤ 9223372036854775807) (hl : 400 < s.size ∨ 400 < t.size) :
    Calls Try.prog 3 #[.string s, .string t, .agg #[.int .i64 x0, .int .i64 x1]] w fun e w' => e = .returned (.bool true) ∧ Below w.heap.size w w' := by
  obtain ⟨V, hV, hbox, k0, k1, bl, hsz⟩ := box2_texts w x0 x1 s t
  have HV := Lib.hid hV
  have BL := Lib.hid bl
  have hle : w.heap.size < V.heap.size := by omega
  have HL := Lib.hid (long2 s t (w.heap.size + 1) V hs0 ht0 k0 k1)
  clear hV hbox bl k0 k1 hsz
  have HD := Lib.hid (show decide (400 < s.size ∨ 400 < t.size) = true by simpa using hl)
  clear hl
  go_enter Try.func3, Try.ntmps3
  go_wp2_with fail
  rw [← HV.out]
  refine HL.out.mono ?_
  rintro e w' ⟨rfl, rfl⟩
  rw [HD.out]
  go_wp2_with fail
  refine (awake_any _).mono ?_
  rintro e w2 ⟨rfl, hb⟩
  have hf := Lib.hid (BL.out.trans (hb.mono (by omega)))
  clear hb
  go_wp2
  go_ret
  exact ⟨rfl, hf.out⟩
end Go.Proofs.Ytkohpijpipcajaa
