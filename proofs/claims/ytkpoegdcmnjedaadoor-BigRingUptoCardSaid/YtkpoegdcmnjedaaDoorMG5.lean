import Derived.Test.YtkpoegdcmnjedaaDoorMG4
namespace Go.Proofs.YtkpoegdcmnjedaaDoor
open Go.RowKit
set_option linter.unusedVariables false
set_option linter.unusedSimpArgs false

theorem Nm.four4 {K : Nat} {v : Value} {x : Int} {W W' : World} (h : Nm K W v x) (hb : Below W.heap.size W W') : Nm K W' v x := h.later hb (Nat.le_refl _)
set_option maxHeartbeats 1000000 in
/-- Canonical's function hands back what it takes. -/
theorem same_any {K : Nat} {W : World} {v : Value} {x : Int} (h : Nm K W v x) : Calls Tryd.prog 59 #[v] W fun e W' => (∃ v', e = .returned v' ∧ Nm K W' v' x) ∧ Below W.heap.size W W' := by
  have HN := Lib.hid h
  obtain ⟨ao, n, cap, od, rfl, hm, hn⟩ := h
  obtain ⟨sx, HS⟩ : ∃ b, Hid (decide (x < 0) = b) := ⟨_, Lib.hid rfl⟩
  rw [HS.out] at HN ⊢
  clear hm hn
  obtain ⟨V1, hV1, hbox1, vb1, vs1⟩ := box_new W (.bool sx) (.slice ao n cap) (.bool false) (.bool od)
  obtain ⟨V, hV, hbox, vb, vs⟩ := box_new V1 (.bool false) (.slice none 0 0) (.bool false) (.bool false)
  have HVB := Lib.hid (vb1.trans (vb.mono (by omega)))
  have hVV : V = (W.alloc (Obj.cells #[.bool sx, .slice ao n cap, .bool false, .bool od] 46)).alloc (Obj.cells #[.bool false, .slice none 0 0, .bool false, .bool false] 46) := by rw [hV, hV1]
  clear hbox vb hV hV1 hbox1 vb1
  go_enter Tryd.func59, Tryd.ntmps59
  go_wp2
  have hBB : Below W.heap.size W ((W.alloc (Obj.cells #[.bool sx, .slice ao n cap, .bool false, .bool od] 46)).alloc (Obj.cells #[.bool sx, .slice ao n cap, .bool false, .bool od] 46)) := ((Below.refl _ _).alloc (Nat.le_refl _) _).alloc (by simp) _
  refine bodyPost_ret (v := numV sx (.slice ao n cap) false od) (by simp [results, Tryd.results59, go_sem]) rfl ⟨⟨_, rfl, HN.out.later hBB (Nat.le_refl _)⟩, hBB⟩
set_option maxRecDepth 100000 in
set_option maxHeartbeats 2000000 in
theorem one_same (s : ByteArray) (W : World) (hs : s.size ≤ 1000000) : Calls Tryd.prog 58 #[.string s, .func (.func 59) #[] #[]] W (OneQ (fun x => x) s W) := by
  go_enter Tryd.func58, Tryd.ntmps58
  go_wp2_with (first | (go_at_call 62; refine (parse_num s _ hs).mono ?_; rintro e w2 ⟨m, ao, n, cap, lg, od, er, rfl, hd, hb⟩; have HD := Lib.hid hd; have HB := Lib.hid hb; clear hd hb; rcases HD.out with ⟨h1, rfl⟩ | ⟨h1, h2, rfl, rfl⟩ | ⟨h1, h2, rfl, rfl, h3, _⟩) | (go_at_call 59; refine (same_any (h3.later ((Below.refl _ _).alloc (Nat.le_refl _) _) (Nat.le_refl _))).mono ?_; rintro e w4 ⟨⟨v4, rfl, h4⟩, hb4⟩; have HB4 := Lib.hid hb4; have H4 := Lib.hid h4; clear hb4 h4) | (go_at_call 77; refine (written_any H4.out (by decide)).mono ?_; rintro e w5 ⟨rfl, hb5⟩; have HB5 := Lib.hid hb5; clear hb5))
  · exact bodyPost_ret (v := .tuple #[.string ⟨#[]⟩, .int .i64 2]) (by simp [results, Tryd.results58, go_sem]) rfl ⟨_, 2, rfl, Or.inl ⟨h1, rfl, rfl⟩, HB.out.alloc (HB.out.size) _⟩
  · exact bodyPost_ret (v := .tuple #[.string ⟨#[]⟩, .int .i64 4]) (by simp [results, Tryd.results58, go_sem]) rfl ⟨_, 4, rfl, Or.inr (Or.inl ⟨h1, h2, rfl, rfl⟩), HB.out.alloc (HB.out.size) _⟩
  · exact bodyPost_ret (v := .tuple #[.string (toldS (valT s)), .int .i64 (toldE (valT s))]) (by simp [results, Tryd.results58, go_sem]) rfl ⟨_, _, rfl, Or.inr (Or.inr ⟨h1, h2, rfl, rfl⟩),
      ((HB.out.alloc (HB.out.size) _).trans (HB4.out.mono (by have := HB.out.size; simp; omega))).trans (HB5.out.mono (by have h6 := HB.out.size; have h7 := HB4.out.size; simp at h7; omega))⟩
set_option maxHeartbeats 1000000 in
theorem canonical_any (s : ByteArray) (W : World) (hs : s.size ≤ 1000000) : Calls Tryd.prog 13 #[.string s] W (OneQ (fun x => x) s W) := by
  go_enter Tryd.func13, Tryd.ntmps13
  go_wp2_with (go_at_call 58; refine (one_same s _ hs).mono ?_; rintro e w ⟨r, er, rfl, h, hb⟩)
  exact bodyPost_ret (v := .tuple #[.string r, .int .i64 er]) (by simp [results, Tryd.results13, go_sem]) rfl ⟨_, _, rfl, h, hb⟩
end Go.Proofs.YtkpoegdcmnjedaaDoor
