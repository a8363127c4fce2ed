import Derived.Test.YtkohpijpipcajaaN1
import Derived.Test.YtkohpijpipcajaaI1
namespace Go.Proofs.Ytkohpijpipcajaa
open Go.RowKit
set_option linter.unusedVariables false
set_option linter.unusedSimpArgs false

set_option maxRecDepth 100000 in
set_option maxHeartbeats 4000000 in
/-- the ways on which nothing but the examples is asked. -/
theorem textBack_far (s t : ByteArray) (x0 x1 x2 : Int) (w : World) (hs0 : s.size ≤ 9223372036854775807) (ht0 : t.size ≤ 9223372036854775807)
    (hfar : (400 < s.size ∨ 400 < t.size) ∨ x0 < 0 ∨ 20 < x0 ∨ x1 < 0 ∨ 20 < x1) :
    Calls Try.prog 8 #[.string s, .string t, .agg #[.int .i64 x0, .int .i64 x1, .int .i64 x2]] w fun e w' => e = .returned (.bool true) ∧ Below w.heap.size w w' := by
  obtain ⟨V, hV, hbox, k0, k1, bl, hsz⟩ := box_texts w x0 x1 x2 s t
  have HV := Lib.hid hV
  have HB := Lib.hid hbox
  have BL := Lib.hid bl
  have hle : w.heap.size < V.heap.size := by omega
  have HL := Lib.hid (long2 s t (w.heap.size + 1) V hs0 ht0 k0 k1)
  clear hV hbox bl k0 k1 hsz
  rcases (show (400 < s.size ∨ 400 < t.size) ∨ (¬ (400 < s.size ∨ 400 < t.size) ∧ x0 < 0) ∨ (¬ (400 < s.size ∨ 400 < t.size) ∧ 0 ≤ x0 ∧ 20 < x0) ∨ (¬ (400 < s.size ∨ 400 < t.size) ∧ 0 ≤ x0 ∧ x0 ≤ 20 ∧ x1 < 0) ∨
      (¬ (400 < s.size ∨ 400 < t.size) ∧ 0 ≤ x0 ∧ x0 ≤ 20 ∧ 0 ≤ x1 ∧ 20 < x1) by omega) with hl | ⟨hl, h1⟩ | ⟨hl, h1, h2⟩ | ⟨hl, h1, h2, h3⟩ | ⟨hl, h1, h2, h3, h4⟩
  · have HD := Lib.hid (show decide (400 < s.size ∨ 400 < t.size) = true by simpa using hl)
    clear hl hfar
    go_enter Try.func8, Try.ntmps8
    go_wp2_with fail
    rw [← HV.out]
    refine HL.out.mono ?_
    rintro e w' ⟨rfl, rfl⟩
    rw [HD.out]
    go_wp2_with fail
    refine (awake_any _).mono ?_
    rintro e w2 ⟨rfl, hb⟩
    have hf := Lib.hid (BL.out.trans (hb.mono (by omega)))
    clear hb
    go_wp2
    go_ret
    exact ⟨rfl, hf.out⟩
  all_goals
    have HD := Lib.hid (show decide (400 < s.size ∨ 400 < t.size) = false by simpa using hl)
    obtain ⟨i0, i1, i2⟩ := HB.out
    clear hl hfar
    go_enter Try.func8, Try.ntmps8
    go_wp2_with fail
    rw [← HV.out]
    refine HL.out.mono ?_
    rintro e w' ⟨rfl, rfl⟩
    rw [HD.out]
    go_wp2_with fail
    refine (awake_any _).mono ?_
    rintro e w2 ⟨rfl, hb⟩
    have hf := Lib.hid (BL.out.trans (hb.mono (by omega)))
    clear hb i0 i1 i2
    go_wp2
    go_ret
    exact ⟨rfl, hf.out⟩
end Go.Proofs.Ytkohpijpipcajaa
