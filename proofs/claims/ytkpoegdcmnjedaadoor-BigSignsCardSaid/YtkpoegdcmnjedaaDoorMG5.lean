import Derived.Test.YtkpoegdcmnjedaaDoorMG3
namespace Go.Proofs.YtkpoegdcmnjedaaDoor
open Go.RowKit
set_option linter.unusedVariables false
set_option linter.unusedSimpArgs false

/-- a text is a number. -/
def IsNum (s : ByteArray) : Prop := AllD (pbs s) (pds s)
/-- the number without its sign. -/
def natT (s : ByteArray) : Nat := rd (pbs s) (pds s) (pds s).size
/-- the number. -/
def valT (s : ByteArray) : Int := if pneg (ptext s) = true then -(natT s : Int) else (natT s : Int)
theorem valT_abs (s : ByteArray) : (valT s).natAbs = natT s := by unfold valT; split <;> omega
theorem nd_lim {n : Nat} (h : n < Lim) : nd n ≤ 63 :=
  nd_of_bits (k := 63) (Nat.le_trans ((bits_T94 n).2 (Nat.lt_of_lt_of_le h lim_T94)) (by decide))
/-- what parse tells, in three ways. -/
def NumQ (s : ByteArray) (W : World) (e : Ending) (W' : World) : Prop :=
  ∃ m ao n cap lg od, ∃ er : Int, e = .returned (.tuple #[numV m (.slice ao n cap) lg od, .int .i64 er]) ∧
    ((¬ IsNum s ∧ er = 2) ∨ (IsNum s ∧ Lim ≤ natT s ∧ er = 0 ∧ lg = true) ∨ (IsNum s ∧ natT s < Lim ∧ er = 0 ∧ lg = false ∧ Nm 63 W' (numV m (.slice ao n cap) lg od) (valT s) ∧ M W.heap.size W' (.slice ao n cap) (digs B32 (natT s)))) ∧ Below W.heap.size W W'
theorem parse_num (s : ByteArray) (W : World) (hs : s.size ≤ 1000000) : Calls Tryd.prog 62 #[.string s] W (NumQ s W) := by
  refine (parse_any s W hs).mono ?_
  rintro e w ⟨ao, n, cap, lg, od, er, rfl, h, hb⟩
  refine ⟨_, ao, n, cap, lg, od, er, rfl, ?_, hb⟩
  rcases h with ⟨h1, h2, h3, h4, h5⟩ | ⟨h1, _, _, _, _, _, h7⟩
  · by_cases hl : Lim ≤ natT s
    · exact Or.inr (Or.inl ⟨h1, hl, h4, by rw [h2]; exact decide_eq_true hl⟩)
    · have hl2 : natT s < Lim := by omega
      have hlg : lg = false := by rw [h2]; exact decide_eq_false hl
      refine Or.inr (Or.inr ⟨h1, hl2, h4, hlg, ?_, h5 hl2⟩)
      subst hlg
      refine Nm.mk (a := natT s) ((h5 hl2).mono (Nat.zero_le _)) (valT_abs s) ?_ (nd_lim hl2)
      intro hz
      unfold valT
      by_cases hp : pneg (ptext s) = true
      · rw [if_pos hp, hp]; symm; rw [decide_eq_true_eq]; omega
      · rw [if_neg hp]
        have : pneg (ptext s) = false := by simpa using hp
        rw [this]; symm; rw [decide_eq_false_iff_not]; omega
  · exact Or.inl ⟨h1, h7⟩

set_option maxHeartbeats 1000000 in
theorem negated_any {K : Nat} {W : World} {v : Value} {x : Int} (h : Nm K W v x) : Calls Tryd.prog 89 #[v] W fun e W' => (∃ v', e = .returned v' ∧ Nm K W' v' (-x)) ∧ Below W.heap.size W W' := by
  obtain ⟨ao, n, cap, od, rfl, hm, hn⟩ := h
  have HM := Lib.hid hm
  have HN := Lib.hid hn
  obtain ⟨sx, HS⟩ : ∃ b, Hid (decide (x < 0) = b) := ⟨_, Lib.hid rfl⟩
  rw [HS.out]
  clear hm hn
  obtain ⟨V1, hV1, hbox1, vb1, vs1⟩ := box_new W (.bool sx) (.slice ao n cap) (.bool false) (.bool od)
  obtain ⟨V, hV, hbox, vb, vs⟩ := box_new V1 (.bool false) (.slice none 0 0) (.bool false) (.bool false)
  rw [vs1] at hbox
  have HBX := Lib.hid hbox
  have HVB := Lib.hid (vb1.trans (vb.mono (by omega)))
  have hVV : V = (W.alloc (Obj.cells #[.bool sx, .slice ao n cap, .bool false, .bool od] 46)).alloc (Obj.cells #[.bool false, .slice none 0 0, .bool false, .bool false] 46) := by rw [hV, hV1]
  clear hbox vb hV hV1 hbox1 vb1
  go_enter Tryd.func89, Tryd.ntmps89
  go_wp2_with (go_at_call 80; rw [← hVV]; clear hVV; refine (signed_any sx false od (!sx) ao n cap _).mono ?_; rintro e w4 ⟨rfl, hb4⟩; have hB4 := Lib.hid (HBX.out.after hb4); obtain ⟨x0, x1, x2, x3, y0, y1, y2, y3⟩ := hB4.out; have HB4 := Lib.hid hb4; clear hb4)
  refine bodyPost_ret (v := numV ((!sx) && (false || decide (0 < n))) (.slice ao n cap) false od) (by simp [results, Tryd.results89, go_sem, x0, x1, x2, x3]) rfl ⟨⟨_, rfl, ?_⟩, ?_⟩
  · refine Nm.mk (a := x.natAbs) (HM.out.later (below_four (g := W.heap.size + 1) (HVB.out.trans (HB4.out.mono (by omega))) (by omega) _ _ _ _) (Nat.le_refl _)) (by omega) ?_ HN.out
    intro hz
    rw [← HS.out]
    by_cases c : x < 0
    · have c2 : ¬ -x < 0 := by omega
      rw [decide_eq_true c, decide_eq_false c2]; rfl
    · have c2 : -x < 0 := by omega
      rw [decide_eq_false c, decide_eq_true c2]; rfl
  · exact below_four (HVB.out.trans (HB4.out.mono (by omega))) (by omega) _ _ _ _

set_option maxHeartbeats 1000000 in
theorem valid_any (s : ByteArray) (W : World) (hs : s.size ≤ 1000000) [Decidable (IsNum s)] : Calls Tryd.prog 15 #[.string s] W fun e W' => e = .returned (.bool (decide (IsNum s ∧ natT s < Lim))) ∧ Below W.heap.size W W' := by
  obtain ⟨o, HO⟩ : ∃ b, Hid (decide (IsNum s ∧ natT s < Lim) = b) := ⟨_, Lib.hid rfl⟩
  rw [HO.out]
  go_enter Tryd.func15, Tryd.ntmps15
  go_wp2_with (go_at_call 62; refine (parse_num s _ hs).mono ?_; rintro e w2 ⟨m, ao, n, cap, lg, od, er, rfl, hd, hb⟩; have HD := Lib.hid hd; have HB := Lib.hid hb; clear hd hb; rcases HD.out with ⟨h1, rfl⟩ | ⟨h1, h2, rfl, rfl⟩ | ⟨h1, h2, rfl, rfl, h3⟩)
  · have hh : Hid (false = o) := Lib.hid (by rw [← HO.out]; symm; rw [decide_eq_false_iff_not]; exact fun h => h1 h.1)
    exact bodyPost_ret (v := .bool false) (by simp [results, Tryd.results15, go_sem]) rfl ⟨congrArg (fun b => Ending.returned (Value.bool b)) hh.out, HB.out.alloc (HB.out.size) _⟩
  · have hh : Hid (false = o) := Lib.hid (by rw [← HO.out]; symm; rw [decide_eq_false_iff_not]; exact fun h => by have := h.2; omega)
    exact bodyPost_ret (v := .bool false) (by simp [results, Tryd.results15, go_sem]) rfl ⟨congrArg (fun b => Ending.returned (Value.bool b)) hh.out, HB.out.alloc (HB.out.size) _⟩
  · have hh : Hid (true = o) := Lib.hid (by rw [← HO.out]; symm; rw [decide_eq_true_eq]; exact ⟨h1, h2⟩)
    exact bodyPost_ret (v := .bool true) (by simp [results, Tryd.results15, go_sem]) rfl ⟨congrArg (fun b => Ending.returned (Value.bool b)) hh.out, HB.out.alloc (HB.out.size) _⟩

/-- what a function of one number's text tells. -/
def OneQ (f : Int → Int) (s : ByteArray) (W : World) (e : Ending) (W' : World) : Prop :=
  ∃ (r : ByteArray) (er : Int), e = .returned (.tuple #[.string r, .int .i64 er]) ∧
    ((¬ IsNum s ∧ r = ⟨#[]⟩ ∧ er = 2) ∨ (IsNum s ∧ Lim ≤ natT s ∧ r = ⟨#[]⟩ ∧ er = 4) ∨ (IsNum s ∧ natT s < Lim ∧ r = toldS (f (valT s)) ∧ er = toldE (f (valT s)))) ∧ Below W.heap.size W W'

end Go.Proofs.YtkpoegdcmnjedaaDoor
namespace Go.Proofs.YtkpoegdcmnjedaaDoor
open Go.RowKit
set_option linter.unusedVariables false
set_option linter.unusedSimpArgs false

theorem Nm.four4 {K : Nat} {v : Value} {x : Int} {W W' : World} (h : Nm K W v x) (hb : Below W.heap.size W W') : Nm K W' v x := h.later hb (Nat.le_refl _)
set_option maxHeartbeats 1000000 in
/-- Canonical's function hands back what it takes. -/
theorem same_any {K : Nat} {W : World} {v : Value} {x : Int} (h : Nm K W v x) : Calls Tryd.prog 59 #[v] W fun e W' => (∃ v', e = .returned v' ∧ Nm K W' v' x) ∧ Below W.heap.size W W' := by
  have HN := Lib.hid h
  obtain ⟨ao, n, cap, od, rfl, hm, hn⟩ := h
  obtain ⟨sx, HS⟩ : ∃ b, Hid (decide (x < 0) = b) := ⟨_, Lib.hid rfl⟩
  rw [HS.out] at HN ⊢
  clear hm hn
  obtain ⟨V1, hV1, hbox1, vb1, vs1⟩ := box_new W (.bool sx) (.slice ao n cap) (.bool false) (.bool od)
  obtain ⟨V, hV, hbox, vb, vs⟩ := box_new V1 (.bool false) (.slice none 0 0) (.bool false) (.bool false)
  have HVB := Lib.hid (vb1.trans (vb.mono (by omega)))
  have hVV : V = (W.alloc (Obj.cells #[.bool sx, .slice ao n cap, .bool false, .bool od] 46)).alloc (Obj.cells #[.bool false, .slice none 0 0, .bool false, .bool false] 46) := by rw [hV, hV1]
  clear hbox vb hV hV1 hbox1 vb1
  go_enter Tryd.func59, Tryd.ntmps59
  go_wp2
  have hBB : Below W.heap.size W ((W.alloc (Obj.cells #[.bool sx, .slice ao n cap, .bool false, .bool od] 46)).alloc (Obj.cells #[.bool sx, .slice ao n cap, .bool false, .bool od] 46)) := ((Below.refl _ _).alloc (Nat.le_refl _) _).alloc (by simp) _
  refine bodyPost_ret (v := numV sx (.slice ao n cap) false od) (by simp [results, Tryd.results59, go_sem]) rfl ⟨⟨_, rfl, HN.out.later hBB (Nat.le_refl _)⟩, hBB⟩
set_option maxRecDepth 100000 in
set_option maxHeartbeats 2000000 in
theorem one_same (s : ByteArray) (W : World) (hs : s.size ≤ 1000000) : Calls Tryd.prog 58 #[.string s, .func (.func 59) #[] #[]] W (OneQ (fun x => x) s W) := by
  go_enter Tryd.func58, Tryd.ntmps58
  go_wp2_with (first | (go_at_call 62; refine (parse_num s _ hs).mono ?_; rintro e w2 ⟨m, ao, n, cap, lg, od, er, rfl, hd, hb⟩; have HD := Lib.hid hd; have HB := Lib.hid hb; clear hd hb; rcases HD.out with ⟨h1, rfl⟩ | ⟨h1, h2, rfl, rfl⟩ | ⟨h1, h2, rfl, rfl, h3, _⟩) | (go_at_call 59; refine (same_any (h3.later ((Below.refl _ _).alloc (Nat.le_refl _) _) (Nat.le_refl _))).mono ?_; rintro e w4 ⟨⟨v4, rfl, h4⟩, hb4⟩; have HB4 := Lib.hid hb4; have H4 := Lib.hid h4; clear hb4 h4) | (go_at_call 77; refine (written_any H4.out (by decide)).mono ?_; rintro e w5 ⟨rfl, hb5⟩; have HB5 := Lib.hid hb5; clear hb5))
  · exact bodyPost_ret (v := .tuple #[.string ⟨#[]⟩, .int .i64 2]) (by simp [results, Tryd.results58, go_sem]) rfl ⟨_, 2, rfl, Or.inl ⟨h1, rfl, rfl⟩, HB.out.alloc (HB.out.size) _⟩
  · exact bodyPost_ret (v := .tuple #[.string ⟨#[]⟩, .int .i64 4]) (by simp [results, Tryd.results58, go_sem]) rfl ⟨_, 4, rfl, Or.inr (Or.inl ⟨h1, h2, rfl, rfl⟩), HB.out.alloc (HB.out.size) _⟩
  · exact bodyPost_ret (v := .tuple #[.string (toldS (valT s)), .int .i64 (toldE (valT s))]) (by simp [results, Tryd.results58, go_sem]) rfl ⟨_, _, rfl, Or.inr (Or.inr ⟨h1, h2, rfl, rfl⟩),
      ((HB.out.alloc (HB.out.size) _).trans (HB4.out.mono (by have := HB.out.size; simp; omega))).trans (HB5.out.mono (by have h6 := HB.out.size; have h7 := HB4.out.size; simp at h7; omega))⟩
set_option maxHeartbeats 1000000 in
theorem canonical_any (s : ByteArray) (W : World) (hs : s.size ≤ 1000000) : Calls Tryd.prog 13 #[.string s] W (OneQ (fun x => x) s W) := by
  go_enter Tryd.func13, Tryd.ntmps13
  go_wp2_with (go_at_call 58; refine (one_same s _ hs).mono ?_; rintro e w ⟨r, er, rfl, h, hb⟩)
  exact bodyPost_ret (v := .tuple #[.string r, .int .i64 er]) (by simp [results, Tryd.results13, go_sem]) rfl ⟨_, _, rfl, h, hb⟩
end Go.Proofs.YtkpoegdcmnjedaaDoor
