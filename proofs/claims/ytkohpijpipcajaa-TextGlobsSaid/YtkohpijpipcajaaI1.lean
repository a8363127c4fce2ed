import Derived.Test.YtkohpijpipcajaaH2
import Derived.Test.YtkohpijpipcajaaH3
namespace Go.Proofs.Ytkohpijpipcajaa
open Go.RowKit
set_option linter.unusedVariables false
set_option linter.unusedSimpArgs false

/-- the box of the numbers, and the texts of Long. -/
structure BoxAt (g : Nat) (x0 x1 x2 : Int) (V : World) : Prop where
  i0 : V.cell? ⟨g, 0, none⟩ = some (.int .i64 x0)
  i1 : V.cell? ⟨g, 1, none⟩ = some (.int .i64 x1)
  i2 : V.cell? ⟨g, 2, none⟩ = some (.int .i64 x2)
theorem BoxAt.later {g : Nat} {x0 x1 x2 : Int} {V W : World} {B : Nat} (h : BoxAt g x0 x1 x2 V) (hg : g < B) (hb : Below B V W) : BoxAt g x0 x1 x2 W :=
  ⟨(hb.cell (p := ⟨g, 0, none⟩) hg).trans h.i0, (hb.cell (p := ⟨g, 1, none⟩) hg).trans h.i1, (hb.cell (p := ⟨g, 2, none⟩) hg).trans h.i2⟩

theorem box_texts (w : World) (x0 x1 x2 : Int) (s t : ByteArray) : ∃ V, V = (w.alloc (Obj.cells #[.int .i64 x0, .int .i64 x1, .int .i64 x2] 36)).alloc (Obj.cells #[.string s, .string t] 9) ∧
    BoxAt w.heap.size x0 x1 x2 V ∧ V.cell? ⟨w.heap.size + 1, 0, none⟩ = some (.string s) ∧ V.cell? ⟨w.heap.size + 1, 1, none⟩ = some (.string t) ∧ Below w.heap.size w V ∧ V.heap.size = w.heap.size + 2 := by
  have h0 := heap_alloc2_old w (Obj.cells #[.int .i64 x0, .int .i64 x1, .int .i64 x2] 36) (Obj.cells #[.string s, .string t] 9)
  have h1 := heap_alloc2_new w (Obj.cells #[.int .i64 x0, .int .i64 x1, .int .i64 x2] 36) (Obj.cells #[.string s, .string t] 9)
  exact ⟨_, rfl, ⟨(cell_of_row _ _ _ _ _ _ h0).trans rfl, (cell_of_row _ _ _ _ _ _ h0).trans rfl, (cell_of_row _ _ _ _ _ _ h0).trans rfl⟩, (cell_of_row _ _ _ _ _ _ h1).trans rfl, (cell_of_row _ _ _ _ _ _ h1).trans rfl,
    ((Below.refl _ _).alloc (Nat.le_refl _) _).alloc (by simp) _, by simp⟩

set_option maxRecDepth 100000 in
set_option maxHeartbeats 1000000 in
theorem textRepeats_any (s t : ByteArray) (x0 x1 x2 : Int) (w : World) (hs0 : s.size ≤ 9223372036854775807) (ht0 : t.size ≤ 9223372036854775807) (a0 : -9223372036854775808 ≤ x0) (a1 : x0 ≤ 9223372036854775807)
    (b0 : -9223372036854775808 ≤ x1) (b1 : x1 ≤ 9223372036854775807) (c0 : -9223372036854775808 ≤ x2) (c1 : x2 ≤ 9223372036854775807) :
    Calls Try.prog 5 #[.string s, .string t, .agg #[.int .i64 x0, .int .i64 x1, .int .i64 x2]] w fun e w' => e = .returned (.bool true) ∧ Below w.heap.size w w' := by
  obtain ⟨V, hV, hbox, k0, k1, bl, hsz⟩ := box_texts w x0 x1 x2 s t
  have HV := Lib.hid hV
  have HB := Lib.hid hbox
  have BL := Lib.hid bl
  have hle : w.heap.size < V.heap.size := by omega
  have HL := Lib.hid (long2 s t (w.heap.size + 1) V hs0 ht0 k0 k1)
  clear hV hbox bl k0 k1 hsz
  by_cases hl : 400 < s.size ∨ 400 < t.size
  · have HD := Lib.hid (show decide (400 < s.size ∨ 400 < t.size) = true by simpa using hl)
    clear hl
    go_enter Try.func5, Try.ntmps5
    go_wp2_with fail
    rw [← HV.out]
    refine HL.out.mono ?_
    rintro e w' ⟨rfl, rfl⟩
    rw [HD.out]
    go_wp2_with fail
    refine (awake_any _).mono ?_
    rintro e w2 ⟨rfl, hb⟩
    have hf := Lib.hid (BL.out.trans (hb.mono (by omega)))
    clear hb
    go_wp2
    go_ret
    exact ⟨rfl, hf.out⟩
  · have HD := Lib.hid (show decide (400 < s.size ∨ 400 < t.size) = false by simpa using hl)
    have hs : s.size ≤ 400 := by omega
    have ht : t.size ≤ 400 := by omega
    obtain ⟨r, hr1, hr2⟩ := replace_both s t x1 x2 hs ht b0 b1 c0 c1
    have HR1 := Lib.hid hr1
    have HR2 := Lib.hid hr2
    clear hl hr1 hr2
    go_enter Try.func5, Try.ntmps5
    go_wp2_with fail
    rw [← HV.out]
    refine HL.out.mono ?_
    rintro e w' ⟨rfl, rfl⟩
    rw [HD.out]
    obtain ⟨i0, i1, i2⟩ := HB.out
    go_wp2_with fail
    refine (repeat_any s x0 _ hs a0 a1).mono ?_
    rintro e W1 ⟨rfl, hb1⟩
    clear i0 i1 i2
    obtain ⟨i0, i1, i2⟩ := HB.out.later hle hb1
    have B1 := Lib.hid hb1
    clear hb1
    go_wp2_with fail
    refine (ref_repeat_any s x0 _ hs a0 a1).mono ?_
    rintro e W2 ⟨rfl, hb2⟩
    clear i0 i1 i2
    have B2 := Lib.hid (B1.out.trans (hb2.mono B1.out.size))
    obtain ⟨i0, i1, i2⟩ := HB.out.later hle B2.out
    clear hb2
    go_wp2_with fail
    refine (HR1.out _).mono ?_
    rintro e W3 ⟨rfl, hb3⟩
    clear i0 i1 i2
    have B3 := Lib.hid (B2.out.trans (hb3.mono B2.out.size))
    obtain ⟨i0, i1, i2⟩ := HB.out.later hle B3.out
    clear hb3
    go_wp2_with fail
    refine (HR2.out _).mono ?_
    rintro e W4 ⟨rfl, hb4⟩
    clear i0 i1 i2
    have B4 := Lib.hid (B3.out.trans (hb4.mono B3.out.size))
    clear hb4
    go_wp2_with fail
    refine (awake_any _).mono ?_
    rintro e W5 ⟨rfl, hb5⟩
    have B5 := Lib.hid (BL.out.trans ((B4.out.trans (hb5.mono B4.out.size)).mono (by omega)))
    clear hb5
    go_wp2_with fail
    go_ret
    exact ⟨rfl, B5.out⟩
end Go.Proofs.Ytkohpijpipcajaa
