import Derived.Test.YtkpoegdcmnjedaaDoorRE1
namespace Go.Proofs.YtkpoegdcmnjedaaDoor
open Go.RowKit
set_option linter.unusedVariables false
set_option linter.unusedSimpArgs false

set_option maxHeartbeats 1000000 in
/-- told of a number alone. -/
theorem ref_told_nil {B : Nat} {W : World} {v : Value} {x : Int} (h : Qn B W v x) : Calls Tryd.prog 61 #[v, .slice none 0 0] W fun e W' => e = .returned (.tuple #[.string (toldS x), .int .i64 (toldE x)]) ∧ Below W.heap.size W W' := by
  obtain ⟨m, a, n, p, rfl, hq, -, -, -⟩ := h.parts
  obtain ⟨V, hV, hbox, vb, vs⟩ := box2_new W (.bool m) (.slice a n p)
  have HBX := Lib.hid hbox
  have HVB := Lib.hid vb
  have HQ := Lib.hid (hq.later vb (Nat.le_refl _))
  have c0 := hbox.c0
  have c1 := hbox.c1
  clear hbox vb hq h
  by_cases hl : x.natAbs < Lim
  · have HS : Hid (toldS x = ren x ∧ toldE x = 0) := Lib.hid (by unfold toldS toldE; rw [if_pos hl, if_pos hl]; exact ⟨rfl, rfl⟩)
    rw [HS.out.1, HS.out.2]
    have HL : Hid (∀ w v, Qn B w v x → Calls Tryd.prog 86 #[v] w fun e W' => e = .returned (.bool false) ∧ Below w.heap.size w W') := Lib.hid fun w v h => by
      have := ref_Long_any h
      rwa [decide_eq_false (by omega)] at this
    have HNT : Hid (nt x.natAbs ≤ 1000000) := Lib.hid (by have := nt_lim' (n := x.natAbs); omega)
    clear hl
    go_enter Tryd.func61, Tryd.ntmps61
    go_upto_region 1 with (fail)
    rw [← hV]
    clear hV
    go_wp2
    refine wp_loop_rounds 1 ?_
    rw [rounds_succ]
    go_wp2_with (first | (go_at_call 86; refine (HL.out _ _ HQ.out).mono ?_; rintro e w2 ⟨rfl, hb2⟩; have HB2 := Lib.hid hb2; have d0 := cell_after hb2 c0; have d1 := cell_after hb2 c1; have HQ2 := Lib.hid (HQ.out.later hb2 (Nat.le_refl _)); clear hb2) | (go_at_call 79; refine (ref_Text_any HQ2.out HNT.out).mono ?_; rintro e w3 ⟨rfl, hb3⟩; have HB3 := Lib.hid hb3; clear hb3))
    go_ret2
    exact ⟨rfl, (HVB.out.trans (HB2.out.mono (by omega))).trans (HB3.out.mono (by have := HB2.out.size; omega))⟩
  · have HS : Hid (toldS x = ⟨#[]⟩ ∧ toldE x = 4) := Lib.hid (by unfold toldS toldE; rw [if_neg hl, if_neg hl]; exact ⟨rfl, rfl⟩)
    rw [HS.out.1, HS.out.2]
    have HL : Hid (∀ w v, Qn B w v x → Calls Tryd.prog 86 #[v] w fun e W' => e = .returned (.bool true) ∧ Below w.heap.size w W') := Lib.hid fun w v h => by
      have := ref_Long_any h
      rwa [decide_eq_true (by omega)] at this
    clear hl
    go_enter Tryd.func61, Tryd.ntmps61
    go_upto_region 1 with (fail)
    rw [← hV]
    clear hV
    go_wp2
    refine wp_loop_rounds 1 ?_
    rw [rounds_succ]
    go_wp2_with (go_at_call 86; refine (HL.out _ _ HQ.out).mono ?_; rintro e w2 ⟨rfl, hb2⟩; have HB2 := Lib.hid hb2; clear hb2)
    go_ret2
    exact ⟨rfl, HVB.out.trans (HB2.out.mono (by omega))⟩

set_option maxHeartbeats 1000000 in
theorem ref_canonical_any (s : ByteArray) (W : World) (hs : s.size ≤ 2000000) : Calls Tryd.prog 14 #[.string s] W (OneQ (fun x => x) s W) := by
  go_enter Tryd.func14, Tryd.ntmps14
  go_wp2_with fail
  refine (ref_Number_any s _ hs).mono ?_
  rintro e w2 hq
  obtain ⟨m, ao, n, cap, ok, rfl, hok, hr, hb⟩ := hq.read
  have HOK := Lib.hid hok
  have HR := Lib.hid hr
  have HB := Lib.hid hb
  clear hok hr hb hq
  cases ok
  · have HN : Hid (¬ IsNum s) := Lib.hid fun h => by have := HOK.out.2 h; cases this
    go_wp2
    exact bodyPost_ret (v := .tuple #[.string ⟨#[]⟩, .int .i64 2]) (by simp [results, Tryd.results14, go_sem]) rfl ⟨_, 2, rfl, Or.inl ⟨HN.out, rfl, rfl⟩, HB.out.alloc (HB.out.size) _⟩
  · have HI : Hid (IsNum s) := Lib.hid (HOK.out.1 rfl)
    obtain ⟨x, hx1, hx2⟩ := HR.out HI.out
    have HX1 := Lib.hid hx1
    have HX2 := Lib.hid hx2
    clear hx1 hx2
    go_wp2_with (go_at_call 61; refine (ref_told_nil (HX1.out.later ((Below.refl _ _).alloc (Nat.le_refl _) _) (Nat.le_refl _))).mono ?_; rintro e w3 ⟨rfl, hb3⟩; have HB3 := Lib.hid hb3; clear hb3)
    refine bodyPost_ret (v := .tuple #[.string (toldS x), .int .i64 (toldE x)]) (by simp [results, Tryd.results14, go_sem]) rfl ⟨_, _, rfl, ?_, (HB.out.alloc HB.out.size _).trans (HB3.out.mono (by have := HB.out.size; simp; omega))⟩
    rcases HX2.out with ⟨h1, h2⟩ | ⟨h1, h2, h3⟩
    · subst h2
      exact Or.inr (Or.inr ⟨HI.out, h1, rfl, rfl⟩)
    · have h4 : ¬ x.natAbs < Lim := by omega
      refine Or.inr (Or.inl ⟨HI.out, h1, ?_, ?_⟩)
      · unfold toldS; rw [if_neg h4]
      · unfold toldE; rw [if_neg h4]
set_option maxHeartbeats 1000000 in
theorem ref_valid_any (s : ByteArray) (W : World) (hs : s.size ≤ 2000000) [Decidable (IsNum s)] : Calls Tryd.prog 16 #[.string s] W fun e W' => e = .returned (.bool (decide (IsNum s ∧ natT s < Lim))) ∧ Below W.heap.size W W' := by
  obtain ⟨o, HO⟩ : ∃ b, Hid (decide (IsNum s ∧ natT s < Lim) = b) := ⟨_, Lib.hid rfl⟩
  rw [HO.out]
  go_enter Tryd.func16, Tryd.ntmps16
  go_wp2_with (go_at_call 14; refine (ref_canonical_any s _ hs).mono ?_; rintro e w2 ⟨r, er, rfl, hd, hb⟩; have HD := Lib.hid hd; have HB := Lib.hid hb; clear hd hb)
  go_ret
  refine ⟨?_, HB.out⟩
  have h4 : ((4 : Int) == 0) = false := rfl
  have h2 : ((2 : Int) == 0) = false := rfl
  rcases HD.out with ⟨h1, _, rfl⟩ | ⟨h1, h2, _, rfl⟩ | ⟨h1, h2, _, he⟩
  · have hh : decide (IsNum s ∧ natT s < Lim) = false := by rw [decide_eq_false_iff_not]; exact fun h => h1 h.1
    rw [← HO.out, hh]; rfl
  · have hh : decide (IsNum s ∧ natT s < Lim) = false := by rw [decide_eq_false_iff_not]; exact fun h => by have := h.2; omega
    rw [← HO.out, hh]; rfl
  · have hh : decide (IsNum s ∧ natT s < Lim) = true := by rw [decide_eq_true_eq]; exact ⟨h1, h2⟩
    have hE : toldE (valT s) = 0 := by unfold toldE; rw [if_pos (by rw [valT_abs]; exact h2)]
    rw [hE] at he
    subst he
    rw [← HO.out, hh]; rfl
end Go.Proofs.YtkpoegdcmnjedaaDoor
