import Derived.Test.YtkpoegdcmnjedaaDoorNB4
namespace Go.Proofs.YtkpoegdcmnjedaaDoor
open Go.RowKit
set_option linter.unusedVariables false
set_option linter.unusedSimpArgs false

/-! ### Not, Neg -/
theorem Nm.minus1 {K : Nat} (hK : 1 ≤ K) (w : World) : Nm K (w.alloc (Obj.cells #[.int .u32 1] 75)) (numV true (.slice (some ⟨w.heap.size, 0, none⟩) 1 1) false false) (-1) := by
  have e : digs B32 ((-1 : Int).natAbs) = [1] := by
    show digs B32 1 = [1]
    rw [digs_pos (by decide) (by decide)]
    show 1 :: digs B32 0 = [1]
    rw [digs_zero]
  refine ⟨_, _, _, _, rfl, ?_, ?_⟩
  · rw [e]
    exact (M.single w 1).mono (Nat.zero_le _)
  · show (digs B32 _).length ≤ K
    rw [e]; exact hK
set_option maxRecDepth 100000 in
set_option maxHeartbeats 1000000 in
theorem inverted_any {K : Nat} {W : World} {v : Value} {x : Int} (h : Nm K W v x) (hK : 1 ≤ K) (hK2 : K ≤ 1000) : Calls Tryd.prog 92 #[v] W fun e W' => (∃ v', e = .returned v' ∧ Nm (K + 1) W' v' (-x + -1)) ∧ Below W.heap.size W W' := by
  obtain ⟨m, ao, n, cap, od, rfl, hn⟩ := h.parts
  have HN := Lib.hid hn
  obtain ⟨V1, hV1, hbox1, vb1, vs1⟩ := box_new W (.bool m) (.slice ao n cap) (.bool false) (.bool od)
  obtain ⟨V, hV2, hbox2, vb2, vs2⟩ := box_new V1 (.bool false) (.slice none 0 0) (.bool false) (.bool false)
  have HV : Hid (V = (W.alloc (Obj.cells #[.bool m, .slice ao n cap, .bool false, .bool od] 46)).alloc (Obj.cells #[.bool false, .slice none 0 0, .bool false, .bool false] 46)) := Lib.hid (by rw [hV2, hV1])
  have HVB : Hid (Below W.heap.size W V) := Lib.hid (vb1.trans (vb2.mono (by omega)))
  have HVS : Hid (V.heap.size = W.heap.size + 2) := Lib.hid (by omega)
  rw [vs1] at hbox2
  have F0 : Hid (Box4 W.heap.size (.bool m) (.slice ao n cap) (.bool false) (.bool od) V ∧ Box4 (W.heap.size + 1) (.bool false) (.slice none 0 0) (.bool false) (.bool false) V) := Lib.hid ⟨hbox1.after vb2, hbox2⟩
  have HNV := Lib.hid (HN.out.later HVB.out (Nat.le_refl _))
  obtain ⟨c0, c1, c2, c3, _⟩ := F0.out.1
  clear h hn hV1 hV2 hbox1 hbox2 vb1 vb2 vs1 vs2
  go_enter Tryd.func92, Tryd.ntmps92
  go_upto_region 1 with (fail)
  rw [← HV.out]
  go_wp2_with (first | (go_at_call 89; (with_reducible refine (negated_any HNV.out).mono ?_); rintro e w5 ⟨⟨v5, rfl, hm5⟩, hb5⟩; obtain ⟨b5, a5, n5, p5, o5, rfl, hm5'⟩ := hm5.parts; have HM5 := Lib.hid hm5'; have HB5 := Lib.hid hb5; clear hm5 hm5' hb5) | (go_at_call 64; (with_reducible refine (nplus_any (K := K) (x := -x) (y := -1) (HM5.out.later ((Below.refl _ _).alloc (Nat.le_refl _) _) (Nat.le_refl _)) (Nm.minus1 hK _) (by omega)).mono ?_); rintro e w6 ⟨⟨v6, rfl, hm6⟩, hb6⟩; obtain ⟨b6, a6, n6, p6, o6, rfl, hm6'⟩ := hm6.parts; have HM6 := Lib.hid hm6'; have HB6 := Lib.hid (((Below.refl _ _).alloc (Nat.le_refl _) (Obj.cells #[.int .u32 1] 75)).trans (hb6.mono (by simp))); clear hm6 hm6' hb6; have F6 := Lib.hid ((F0.out.2.after HB5.out).after HB6.out); have f6 := F6.out; obtain ⟨r0, r1, r2, r3, k0, k1, k2, k3⟩ := f6))
  refine bodyPost_ret (v := numV b6 (.slice a6 n6 p6) false o6) (by simp [results, Tryd.results92, go_sem, r0, r1, r2, r3]) rfl ⟨⟨_, rfl, ?_⟩, ?_⟩
  · exact (HM6.out.four (g := W.heap.size + 1) (by have := HVS.out; have := HB5.out.size; simp; omega) _ _ _ _).nm
  · exact below_four (g := W.heap.size + 1) ((HVB.out.trans (HB5.out.mono HVB.out.size)).trans (HB6.out.mono (Nat.le_trans HVB.out.size HB5.out.size))) (by omega) _ _ _ _
set_option maxRecDepth 100000 in
set_option maxHeartbeats 1000000 in
theorem one_neg (s : ByteArray) (W : World) (hs : s.size ≤ 1000000) : Calls Tryd.prog 58 #[.string s, .func (.func 89) #[] #[]] W (OneQ (fun x => -x) s W) := by
  go_enter Tryd.func58, Tryd.ntmps58
  go_wp2_with (first | (go_at_call 62; refine (parse_num s _ hs).mono ?_; rintro e w2 ⟨m, ao, n, cap, lg, od, er, rfl, hd, hb⟩; have HD := Lib.hid hd; have HB := Lib.hid hb; clear hd hb; rcases HD.out with ⟨h1, rfl⟩ | ⟨h1, h2, rfl, rfl⟩ | ⟨h1, h2, rfl, rfl, h3, _⟩) | (go_at_call 89; refine (negated_any (h3.later ((Below.refl _ _).alloc (Nat.le_refl _) _) (Nat.le_refl _))).mono ?_; rintro e w4 ⟨⟨v4, rfl, h4⟩, hb4⟩; have HB4 := Lib.hid hb4; have H4 := Lib.hid h4; clear hb4 h4) | (go_at_call 77; refine (written_any H4.out (by decide)).mono ?_; rintro e w5 ⟨rfl, hb5⟩; have HB5 := Lib.hid hb5; clear hb5))
  · exact bodyPost_ret (v := .tuple #[.string ⟨#[]⟩, .int .i64 2]) (by simp [results, Tryd.results58, go_sem]) rfl ⟨_, 2, rfl, Or.inl ⟨h1, rfl, rfl⟩, HB.out.alloc (HB.out.size) _⟩
  · exact bodyPost_ret (v := .tuple #[.string ⟨#[]⟩, .int .i64 4]) (by simp [results, Tryd.results58, go_sem]) rfl ⟨_, 4, rfl, Or.inr (Or.inl ⟨h1, h2, rfl, rfl⟩), HB.out.alloc (HB.out.size) _⟩
  · exact bodyPost_ret (v := .tuple #[.string (toldS (-(valT s))), .int .i64 (toldE (-(valT s)))]) (by simp [results, Tryd.results58, go_sem]) rfl ⟨_, _, rfl, Or.inr (Or.inr ⟨h1, h2, rfl, rfl⟩),
      ((HB.out.alloc (HB.out.size) _).trans (HB4.out.mono (by have := HB.out.size; simp; omega))).trans (HB5.out.mono (by have h6 := HB.out.size; have h7 := HB4.out.size; simp at h7; omega))⟩
set_option maxRecDepth 100000 in
set_option maxHeartbeats 1000000 in
theorem one_not (s : ByteArray) (W : World) (hs : s.size ≤ 1000000) : Calls Tryd.prog 58 #[.string s, .func (.func 92) #[] #[]] W (OneQ (fun x => -x + -1) s W) := by
  go_enter Tryd.func58, Tryd.ntmps58
  go_wp2_with (first | (go_at_call 62; refine (parse_num s _ hs).mono ?_; rintro e w2 ⟨m, ao, n, cap, lg, od, er, rfl, hd, hb⟩; have HD := Lib.hid hd; have HB := Lib.hid hb; clear hd hb; rcases HD.out with ⟨h1, rfl⟩ | ⟨h1, h2, rfl, rfl⟩ | ⟨h1, h2, rfl, rfl, h3, _⟩) | (go_at_call 92; refine (inverted_any (h3.later ((Below.refl _ _).alloc (Nat.le_refl _) _) (Nat.le_refl _)) (by decide) (by decide)).mono ?_; rintro e w4 ⟨⟨v4, rfl, h4⟩, hb4⟩; have HB4 := Lib.hid hb4; have H4 := Lib.hid h4; clear hb4 h4) | (go_at_call 77; refine (written_any H4.out (by decide)).mono ?_; rintro e w5 ⟨rfl, hb5⟩; have HB5 := Lib.hid hb5; clear hb5))
  · exact bodyPost_ret (v := .tuple #[.string ⟨#[]⟩, .int .i64 2]) (by simp [results, Tryd.results58, go_sem]) rfl ⟨_, 2, rfl, Or.inl ⟨h1, rfl, rfl⟩, HB.out.alloc (HB.out.size) _⟩
  · exact bodyPost_ret (v := .tuple #[.string ⟨#[]⟩, .int .i64 4]) (by simp [results, Tryd.results58, go_sem]) rfl ⟨_, 4, rfl, Or.inr (Or.inl ⟨h1, h2, rfl, rfl⟩), HB.out.alloc (HB.out.size) _⟩
  · exact bodyPost_ret (v := .tuple #[.string (toldS (-(valT s) + -1)), .int .i64 (toldE (-(valT s) + -1))]) (by simp [results, Tryd.results58, go_sem]) rfl ⟨_, _, rfl, Or.inr (Or.inr ⟨h1, h2, rfl, rfl⟩),
      ((HB.out.alloc (HB.out.size) _).trans (HB4.out.mono (by have := HB.out.size; simp; omega))).trans (HB5.out.mono (by have h6 := HB.out.size; have h7 := HB4.out.size; simp at h7; omega))⟩
theorem neg_any (s : ByteArray) (W : World) (hs : s.size ≤ 1000000) : Calls Tryd.prog 31 #[.string s] W (OneQ (fun x => -x) s W) := by
  go_enter Tryd.func31, Tryd.ntmps31
  go_wp2_with (go_at_call 58; refine (one_neg s _ hs).mono ?_; rintro e w ⟨r, er, rfl, h, hb⟩)
  exact bodyPost_ret (v := .tuple #[.string r, .int .i64 er]) (by simp [results, Tryd.results31, go_sem]) rfl ⟨_, _, rfl, h, hb⟩
theorem not_any (s : ByteArray) (W : World) (hs : s.size ≤ 1000000) : Calls Tryd.prog 35 #[.string s] W (OneQ (fun x => -x + -1) s W) := by
  go_enter Tryd.func35, Tryd.ntmps35
  go_wp2_with (go_at_call 58; refine (one_not s _ hs).mono ?_; rintro e w ⟨r, er, rfl, h, hb⟩)
  exact bodyPost_ret (v := .tuple #[.string r, .int .i64 er]) (by simp [results, Tryd.results35, go_sem]) rfl ⟨_, _, rfl, h, hb⟩
end Go.Proofs.YtkpoegdcmnjedaaDoor
