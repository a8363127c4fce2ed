import Derived.Test.YtkohpijpipcajaaU2
import Derived.Test.YtkohpijpipcajaaR3
import Derived.Test.YtkohpijpipcajaaP1
import Derived.Deep.RegionHeld3
namespace Go.Proofs.Ytkohpijpipcajaa
open Go.RowKit
set_option linter.unusedVariables false
set_option linter.unusedSimpArgs false

theorem trim_all (s ch : ByteArray) (l r : Bool) (w : World) (hs : s.size ≤ 400) (hcs : ch.size ≤ 100000) :
    Calls Try.prog 33 #[.string s, .string ch, .bool l, .bool r] w fun e w' => e = .returned (.string (trimT s ch l r)) ∧ Below w.heap.size w w' := by
  cases l <;> cases r
  · exact trim_false_false s ch w hs hcs
  · exact trim_false_true s ch w hs hcs
  · exact trim_true_false s ch w hs hcs
  · exact trim_true_true s ch w hs hcs
theorem ref_trim_all (s ch : ByteArray) (l r : Bool) (w : World) (hs : s.size ≤ 400) (hcs : ch.size ≤ 100000) :
    Calls Try.prog 34 #[.string s, .string ch, .bool l, .bool r] w fun e w' => e = .returned (.string (trimT s ch l r)) ∧ w = w' := by
  cases l <;> cases r
  · exact ref_trim_false_false s ch w hs hcs
  · exact ref_trim_false_true s ch w hs hcs
  · exact ref_trim_true_false s ch w hs hcs
  · exact ref_trim_true_true s ch w hs hcs
theorem ref_white_any (c : Int) (w : World) (h0 : 0 ≤ c) (h1 : c ≤ 255) : Calls Try.prog 32 #[.int .u8 c] w fun e w' => e = .returned (.bool (wht c)) ∧ w = w' := by
  rcases (show (c < 9) ∨ (9 ≤ c ∧ c ≤ 13) ∨ (13 < c ∧ c < 32) ∨ c = 32 ∨ 32 < c by omega) with h2 | ⟨h2, h3⟩ | ⟨h2, h3⟩ | h2 | h2
  · have HE := Lib.hid (show wht c = false by unfold wht; simp; omega)
    go_enter Try.func32, Try.ntmps32
    go_wp2
    go_ret
    exact ⟨by rw [HE.out]; simp; omega, rfl⟩
  · have HE := Lib.hid (show wht c = true by unfold wht; simp; omega)
    go_enter Try.func32, Try.ntmps32
    go_wp2
    go_ret
    exact ⟨by rw [HE.out]; rfl, rfl⟩
  · have HE := Lib.hid (show wht c = false by unfold wht; simp; omega)
    go_enter Try.func32, Try.ntmps32
    go_wp2
    go_ret
    exact ⟨by rw [HE.out]; simp; omega, rfl⟩
  · subst h2
    have HE := Lib.hid (show wht 32 = true by decide)
    go_enter Try.func32, Try.ntmps32
    go_wp2
    go_ret
    exact ⟨by rw [HE.out]; rfl, rfl⟩
  · have HE := Lib.hid (show wht c = false by unfold wht; simp; omega)
    go_enter Try.func32, Try.ntmps32
    go_wp2
    go_ret
    exact ⟨by rw [HE.out]; simp; omega, rfl⟩

/-- the box of two answers, and the texts of Long. -/
structure BoxBAt (g : Nat) (x0 x1 : Bool) (V : World) : Prop where
  i0 : V.cell? ⟨g, 0, none⟩ = some (.bool x0)
  i1 : V.cell? ⟨g, 1, none⟩ = some (.bool x1)
theorem BoxBAt.later {g : Nat} {x0 x1 : Bool} {V W : World} {B : Nat} (h : BoxBAt g x0 x1 V) (hg : g < B) (hb : Below B V W) : BoxBAt g x0 x1 W :=
  ⟨(hb.cell (p := ⟨g, 0, none⟩) hg).trans h.i0, (hb.cell (p := ⟨g, 1, none⟩) hg).trans h.i1⟩
theorem boxB_texts (w : World) (x0 x1 : Bool) (s t : ByteArray) : ∃ V, V = (w.alloc (Obj.cells #[.bool x0, .bool x1] 29)).alloc (Obj.cells #[.string s, .string t] 9) ∧
    BoxBAt w.heap.size x0 x1 V ∧ V.cell? ⟨w.heap.size + 1, 0, none⟩ = some (.string s) ∧ V.cell? ⟨w.heap.size + 1, 1, none⟩ = some (.string t) ∧ Below w.heap.size w V ∧ V.heap.size = w.heap.size + 2 := by
  have h0 := heap_alloc2_old w (Obj.cells #[.bool x0, .bool x1] 29) (Obj.cells #[.string s, .string t] 9)
  have h1 := heap_alloc2_new w (Obj.cells #[.bool x0, .bool x1] 29) (Obj.cells #[.string s, .string t] 9)
  exact ⟨_, rfl, ⟨(cell_of_row _ _ _ _ _ _ h0).trans rfl, (cell_of_row _ _ _ _ _ _ h0).trans rfl⟩, (cell_of_row _ _ _ _ _ _ h1).trans rfl, (cell_of_row _ _ _ _ _ _ h1).trans rfl,
    ((Below.refl _ _).alloc (Nat.le_refl _) _).alloc (by simp) _, by simp⟩

set_option maxRecDepth 100000 in
theorem textForms_far (s t : ByteArray) (x0 x1 : Bool) (w : World) (hs0 : s.size ≤ 9223372036854775807) (ht0 : t.size ≤ 9223372036854775807) (hl : 400 < s.size ∨ 400 < t.size) :
    Calls Try.prog 4 #[.string s, .string t, .agg #[.bool x0, .bool x1]] w fun e w' => e = .returned (.bool true) ∧ Below w.heap.size w w' := by
  obtain ⟨V, hV, hbox, k0, k1, bl, hsz⟩ := boxB_texts w x0 x1 s t
  have HV := Lib.hid hV
  have BL := Lib.hid bl
  have hle : w.heap.size < V.heap.size := by omega
  have HL := Lib.hid (long2 s t (w.heap.size + 1) V hs0 ht0 k0 k1)
  clear hV hbox bl k0 k1 hsz
  have HD := Lib.hid (show decide (400 < s.size ∨ 400 < t.size) = true by simpa using hl)
  clear hl
  go_enter Try.func4, Try.ntmps4
  go_wp2_with fail
  rw [← HV.out]
  refine HL.out.mono ?_
  rintro e w' ⟨rfl, rfl⟩
  rw [HD.out]
  go_wp2_with fail
  refine (awake_any _).mono ?_
  rintro e w2 ⟨rfl, hb⟩
  have hf := Lib.hid (BL.out.trans (hb.mono (by omega)))
  clear hb
  go_wp2
  go_ret
  exact ⟨rfl, hf.out⟩

theorem below_drewN {B : Nat} {a w : World} (h : Below B a w) (n : Nat) : Below B a (w.drewN n) := ⟨h.os, h.tape, h.output, h.size, h.block⟩
theorem keepS {g : Nat} {x0 x1 : Bool} {W u u' : World} (hg : g < W.heap.size) (h : u.cell? ⟨g, 0, none⟩ = some (.bool x0) ∧ u.cell? ⟨g, 1, none⟩ = some (.bool x1) ∧ Below W.heap.size W u) (hb : Below u.heap.size u u') :
    u'.cell? ⟨g, 0, none⟩ = some (.bool x0) ∧ u'.cell? ⟨g, 1, none⟩ = some (.bool x1) ∧ Below W.heap.size W u' := by
  have hz := h.2.2.size
  exact ⟨(hb.cell (p := ⟨g, 0, none⟩) (by simp; omega)).trans h.1, (hb.cell (p := ⟨g, 1, none⟩) (by simp; omega)).trans h.2.1, h.2.2.trans (hb.mono hz)⟩

set_option maxRecDepth 100000 in
set_option maxHeartbeats 8000000 in
theorem textForms_near (s t : ByteArray) (x0 x1 : Bool) (w : World) (hs : s.size ≤ 400) (ht : t.size ≤ 400) :
    Calls Try.prog 4 #[.string s, .string t, .agg #[.bool x0, .bool x1]] w fun e w' => e = .returned (.bool true) ∧ Below w.heap.size w w' := by
  obtain ⟨V, hV, hbox, k0, k1, bl, hsz⟩ := boxB_texts w x0 x1 s t
  have HV := Lib.hid hV
  have BL := Lib.hid bl
  have HB := Lib.hid hbox
  have hle : w.heap.size < V.heap.size := by omega
  have HL := Lib.hid (long2 s t (w.heap.size + 1) V (by omega) (by omega) k0 k1)
  clear hV hbox bl k0 k1 hsz
  have HD := Lib.hid (show decide (400 < s.size ∨ 400 < t.size) = false by simp; omega)
  obtain ⟨c, n, hun⟩ := un_same s hs
  have HU1 := Lib.hid hun.2.2.2.2.1
  have HU2 := Lib.hid hun.2.2.2.2.2
  obtain ⟨out, ho, hol⟩ := unseq_exists s.size s rfl hs
  have HO := Lib.hid ho
  have hol4 : out.length ≤ 400 := by omega
  clear hun ho hol
  go_enter Try.func4, Try.ntmps4
  go_wp2_with fail
  rw [← HV.out]
  refine HL.out.mono ?_
  rintro e w' ⟨rfl, rfl⟩
  rw [HD.out]
  go_wp2_with fail
  refine (HU1.out _).mono ?_
  rintro e W1 ⟨rfl, hb⟩
  have B1 := Lib.hid hb
  clear hb
  go_wp2_with fail
  refine (HU2.out _).mono ?_
  rintro e W2 ⟨rfl, hb⟩
  have B2 := Lib.hid (B1.out.trans (hb.mono B1.out.size))
  clear hb
  go_wp2_with fail
  refine (reverse_any s _ (by omega)).mono ?_
  rintro e W3 ⟨rfl, hb⟩
  have B3 := Lib.hid (B2.out.trans (hb.mono B2.out.size))
  clear hb
  go_wp2_with fail
  refine (ref_reverse_any s _ (by omega)).mono ?_
  rintro e W4 ⟨rfl, hb⟩
  have B4 := Lib.hid (B3.out.trans (hb.mono B3.out.size))
  clear hb
  go_wp2_with fail
  refine (lower_any s _ (by omega)).mono ?_
  rintro e W5 ⟨rfl, hb⟩
  have B5 := Lib.hid (B4.out.trans (hb.mono B4.out.size))
  clear hb
  go_wp2_with fail
  refine (ref_lower_any s _ (by omega)).mono ?_
  rintro e W6 ⟨rfl, hb⟩
  have B6 := Lib.hid (B5.out.trans (hb.mono B5.out.size))
  clear hb
  go_wp2_with fail
  refine (upper_any s _ (by omega)).mono ?_
  rintro e W7 ⟨rfl, hb⟩
  have B7 := Lib.hid (B6.out.trans (hb.mono B6.out.size))
  clear hb
  go_wp2_with fail
  refine (ref_upper_any s _ (by omega)).mono ?_
  rintro e W8 ⟨rfl, hb⟩
  have B8 := Lib.hid (B7.out.trans (hb.mono B7.out.size))
  clear hb
  go_wp2_with fail
  refine (title_any s _ hs).mono ?_
  rintro e W9 ⟨rfl, hb⟩
  have B9 := Lib.hid (B8.out.trans (hb.mono B8.out.size))
  clear hb
  go_wp2_with fail
  refine (ref_title_any s _ hs).mono ?_
  rintro e WA ⟨rfl, hb⟩
  have BA := Lib.hid (B9.out.trans (hb.mono B9.out.size))
  clear hb
  go_wp2_with fail
  go_loopw [11] (fun i wr => ∃ k : Nat, i = .int .i64 k ∧ k ≤ s.size ∧ Hid (Below w'.heap.size w' wr)) (fun i _ => s.size - (intOf i).toNat)
  case atStart => exact ⟨0, rfl, Nat.zero_le _, BA⟩
  case round =>
    obtain ⟨k, rfl, hk, HBr⟩ := hrel
    by_cases hlt : k < s.size
    · have hx := byte_num s hlt
      have hb := numsB_at s k
      generalize (numsB s).getD k 0 = x at hx hb
      have k1 : (k : Int) < (s.size : Int) := by omega
      have k0 : (0 : Int) ≤ (k : Int) := by omega
      go_wp2
      go_quiet ((first | (go_at_call 31; exact Calls.quiet_of_same (turned (white_any _ _ hb.1 hb.2))) | (go_at_call 32; exact Calls.quiet_of_same (turned (ref_white_any _ _ hb.1 hb.2)))))
      go_wp2
      go_roundw
      case rel => exact ⟨k + 1, by go_num, by omega, Lib.hid (below_drewN HBr.out _)⟩
      case measure => simp [intOf]; omega
    · obtain ⟨i0, i1⟩ := HB.out.later hle HBr.out
      have hg : w.heap.size < wr.heap.size := Nat.lt_of_lt_of_le hle HBr.out.size
      have F0 := Lib.hid (show wr.drew.cell? ⟨w.heap.size, 0, none⟩ = some (.bool x0) ∧ wr.drew.cell? ⟨w.heap.size, 1, none⟩ = some (.bool x1) ∧ Below wr.heap.size wr wr.drew from ⟨i0, i1, (Below.refl _ _).drew⟩)
      go_wp2
      go_region_held3 (fun w2 => w2.cell? ⟨w.heap.size, 0, none⟩ = some (.bool x0) ∧ w2.cell? ⟨w.heap.size, 1, none⟩ = some (.bool x1) ∧ Below wr.heap.size wr w2) (first | exact F0.out | exact keepS hg F0.out hb1 | exact keepS hg (keepS hg F0.out hb1) hb2 | exact keepS hg (keepS hg (keepS hg F0.out hb1) hb2) hb3 | exact keepS hg (keepS hg (keepS hg (keepS hg F0.out hb1) hb2) hb3) hb4) (first | (go_at_call 33; refine (trim_all s t x0 x1 _ hs (by omega)).mono ?_; rintro e w1 ⟨rfl, hb1⟩) | (go_at_call 34; refine (ref_trim_all s t x0 x1 _ hs (by omega)).mono ?_; rintro e w' ⟨rfl, rfl⟩) | (go_at_call 35; refine (unescaped_any s out _ hs HO.out hol4).mono ?_; rintro e w2 ⟨rfl, hb2⟩) | (go_at_call 36; refine (ref_unescaped_any s out _ hs HO.out hol4).mono ?_; rintro e w3 ⟨rfl, hb3⟩) | (go_at_call 37; refine (detail_any s _ hs).mono ?_; rintro e w' ⟨rfl, rfl⟩) | (go_at_call 38; refine (ref_detail_any s _ hs).mono ?_; rintro e w' ⟨rfl, rfl⟩) | (go_at_call 10; refine (awake_any _).mono ?_; rintro e w4 ⟨rfl, hb4⟩))
      all_goals
        have hfin : Below w.heap.size w w4 := BL.out.trans ((HBr.out.trans ((keepS hg (keepS hg (keepS hg (keepS hg F0.out hb1) hb2) hb3) hb4).2.2.mono HBr.out.size)).mono (Nat.le_of_lt hle))
        clear hb1 hb2 hb3 hb4
        go_wp2
        go_ret
        exact ⟨rfl, hfin⟩
end Go.Proofs.Ytkohpijpipcajaa
