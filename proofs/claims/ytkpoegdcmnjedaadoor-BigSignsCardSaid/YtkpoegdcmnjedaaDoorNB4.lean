import Derived.Test.YtkpoegdcmnjedaaDoorNB3
namespace Go.Proofs.YtkpoegdcmnjedaaDoor
open Go.RowKit
set_option linter.unusedVariables false
set_option linter.unusedSimpArgs false

/-! ### And, Or, Xor -/
theorem digF_and : DigF 100 fAnd := ⟨isGo_of Tryd.func100 (by kernel_rfl) (by kernel_rfl), fAnd_lt, fun a b w ha hb => by
  have h := u32_and_nat a b ha hb
  go_enter Tryd.func100, Tryd.ntmps100
  go_wp2
  go_ret
  exact ⟨rfl, rfl⟩⟩
theorem digF_or : DigF 102 fOr := ⟨isGo_of Tryd.func102 (by kernel_rfl) (by kernel_rfl), fOr_lt, fun a b w ha hb => by
  have h := u32_or_nat a b ha hb
  go_enter Tryd.func102, Tryd.ntmps102
  go_wp2
  go_ret
  exact ⟨rfl, rfl⟩⟩
theorem digF_xor : DigF 103 fXor := ⟨isGo_of Tryd.func103 (by kernel_rfl) (by kernel_rfl), fXor_lt, fun a b w ha hb => by
  have h := u32_xor_nat a b ha hb
  go_enter Tryd.func103, Tryd.ntmps103
  go_wp2
  go_ret
  exact ⟨rfl, rfl⟩⟩
theorem withBits_any (k : FuncId) (w : World) : Calls Tryd.prog 99 #[Fv k #[]] w fun e w' => e = .returned (Fv 122 #[.pointer (some ⟨w.heap.size, 0, none⟩)]) ∧ w' = w.alloc (.cells #[Fv k #[]] 93) := by
  go_enter Tryd.func99, Tryd.ntmps99
  go_wp2
  exact bodyPost_ret (v := Fv 122 #[.pointer (some ⟨w.heap.size, 0, none⟩)]) (by simp [results, Tryd.results99, go_sem]) rfl ⟨rfl, rfl⟩
set_option maxRecDepth 100000 in
set_option maxHeartbeats 2000000 in
theorem two_bits {k : FuncId} {f : Nat → Nat → Nat} (hk : DigF k f) (a b : ByteArray) (W : World) (ha : a.size ≤ 1000000) (hb : b.size ≤ 1000000) (g : Nat) (hg : W.cell? ⟨g, 0, none⟩ = some (Fv k #[])) : Calls Tryd.prog 63 #[.string a, .string b, Fv 122 #[.pointer (some ⟨g, 0, none⟩)]] W (TwoR (fun x y => twZ f x y) a b W) := by
  have HG := Lib.hid hg
  have HK := Lib.hid hk
  clear hg hk
  go_enter Tryd.func63, Tryd.ntmps63
  go_wp2_with (first | (go_at_call 69; refine (parseTwo_any a b _ ha hb).mono ?_; rintro e w2 ⟨m1, ao1, n1, cap1, lg1, od1, m2, ao2, n2, cap2, lg2, od2, er, rfl, hd, hbd⟩; have HD := Lib.hid hd; have HB := Lib.hid hbd; clear hd hbd; rcases HD.out with ⟨h1, rfl⟩ | ⟨h1, rfl, h2 | ⟨h2, rfl, h3⟩, h4 | ⟨h4, rfl, h5⟩⟩) | (go_at_call 122; refine (bits_any2 HK.out (h3.later (((Below.refl _ _).alloc (Nat.le_refl _) _).alloc (by simp) _) (Nat.le_refl _)) (h5.later (((Below.refl _ _).alloc (Nat.le_refl _) _).alloc (by simp) _) (Nat.le_refl _)) (by decide) g (cell_after (((Below.refl _ _).alloc (Nat.le_refl _) _).alloc (by simp) _) (cell_after HB.out HG.out))).mono ?_; rintro e w4 ⟨⟨v4, rfl, h6⟩, hb4⟩; have HB4 := Lib.hid hb4; have H6 := Lib.hid h6; clear hb4 h6) | (go_at_call 77; refine (written_any H6.out (by decide)).mono ?_; rintro e w5 ⟨rfl, hb5⟩; have HB5 := Lib.hid hb5; clear hb5))
  · exact bodyPost_ret (v := .tuple #[.string ⟨#[]⟩, .int .i64 2]) (by simp [results, Tryd.results63, go_sem]) rfl ⟨_, 2, rfl, Or.inl ⟨h1, rfl, rfl⟩, ((HB.out.alloc HB.out.size _).alloc (by have := HB.out.size; simp; omega) _)⟩
  · exact bodyPost_ret (v := .tuple #[.string ⟨#[]⟩, .int .i64 4]) (by simp [results, Tryd.results63, go_sem]) rfl ⟨_, 4, rfl, Or.inr (Or.inl ⟨h1, Or.inl h2.1, rfl, rfl⟩), ((HB.out.alloc HB.out.size _).alloc (by have := HB.out.size; simp; omega) _)⟩
  · exact bodyPost_ret (v := .tuple #[.string ⟨#[]⟩, .int .i64 4]) (by simp [results, Tryd.results63, go_sem]) rfl ⟨_, 4, rfl, Or.inr (Or.inl ⟨h1, Or.inl h2.1, rfl, rfl⟩), ((HB.out.alloc HB.out.size _).alloc (by have := HB.out.size; simp; omega) _)⟩
  · exact bodyPost_ret (v := .tuple #[.string ⟨#[]⟩, .int .i64 4]) (by simp [results, Tryd.results63, go_sem]) rfl ⟨_, 4, rfl, Or.inr (Or.inl ⟨h1, Or.inr h4.1, rfl, rfl⟩), ((HB.out.alloc HB.out.size _).alloc (by have := HB.out.size; simp; omega) _)⟩
  · exact bodyPost_ret (v := .tuple #[.string (toldS (twZ f (valT a) (valT b))), .int .i64 (toldE (twZ f (valT a) (valT b)))]) (by simp [results, Tryd.results63, go_sem]) rfl ⟨_, _, rfl, Or.inr (Or.inr ⟨h1, h2, h4, rfl, rfl⟩),
      (((HB.out.alloc HB.out.size _).alloc (by have := HB.out.size; simp; omega) _).trans (HB4.out.mono (by have := HB.out.size; simp; omega))).trans (HB5.out.mono (by have h8 := HB.out.size; have h7 := HB4.out.size; simp at h7; omega))⟩
theorem TwoR.old {f : Int → Int → Int} {a b : ByteArray} {W V : World} {e : Ending} {W' : World} (h : TwoR f a b V e W') (hb : Below W.heap.size W V) : TwoR f a b W e W' := by
  obtain ⟨r, er, h1, h2, h3⟩ := h
  exact ⟨r, er, h1, h2, hb.trans (h3.mono hb.size)⟩
theorem box_fn (W : World) (k : FuncId) : (W.alloc (.cells #[Fv k #[]] 93)).cell? ⟨W.heap.size, 0, none⟩ = some (Fv k #[]) ∧ Below W.heap.size W (W.alloc (.cells #[Fv k #[]] 93)) :=
  ⟨(cell_of_row _ _ _ _ _ _ (heap_alloc_new W _)).trans rfl, (Below.refl _ _).alloc (Nat.le_refl _) _⟩
set_option maxHeartbeats 1000000 in
theorem and_any (a b : ByteArray) (W : World) (ha : a.size ≤ 1000000) (hb : b.size ≤ 1000000) : Calls Tryd.prog 47 #[.string a, .string b] W (TwoR (fun x y => twZ fAnd x y) a b W) := by
  go_enter Tryd.func47, Tryd.ntmps47
  go_wp2_with (first | (go_at_call 99; refine (withBits_any 100 _).mono ?_; rintro e w ⟨rfl, rfl⟩) | (go_at_call 63; refine (two_bits digF_and a b _ ha hb _ (box_fn W 100).1).mono ?_; rintro e w ⟨r, er, rfl, h, hbl⟩))
  exact bodyPost_ret (v := .tuple #[.string r, .int .i64 er]) (by simp [results, Tryd.results47, go_sem]) rfl (TwoR.old ⟨_, _, rfl, h, hbl⟩ (box_fn W 100).2)
set_option maxHeartbeats 1000000 in
theorem or_any (a b : ByteArray) (W : World) (ha : a.size ≤ 1000000) (hb : b.size ≤ 1000000) : Calls Tryd.prog 49 #[.string a, .string b] W (TwoR (fun x y => twZ fOr x y) a b W) := by
  go_enter Tryd.func49, Tryd.ntmps49
  go_wp2_with (first | (go_at_call 99; refine (withBits_any 102 _).mono ?_; rintro e w ⟨rfl, rfl⟩) | (go_at_call 63; refine (two_bits digF_or a b _ ha hb _ (box_fn W 102).1).mono ?_; rintro e w ⟨r, er, rfl, h, hbl⟩))
  exact bodyPost_ret (v := .tuple #[.string r, .int .i64 er]) (by simp [results, Tryd.results49, go_sem]) rfl (TwoR.old ⟨_, _, rfl, h, hbl⟩ (box_fn W 102).2)
set_option maxHeartbeats 1000000 in
theorem xor_any (a b : ByteArray) (W : World) (ha : a.size ≤ 1000000) (hb : b.size ≤ 1000000) : Calls Tryd.prog 51 #[.string a, .string b] W (TwoR (fun x y => twZ fXor x y) a b W) := by
  go_enter Tryd.func51, Tryd.ntmps51
  go_wp2_with (first | (go_at_call 99; refine (withBits_any 103 _).mono ?_; rintro e w ⟨rfl, rfl⟩) | (go_at_call 63; refine (two_bits digF_xor a b _ ha hb _ (box_fn W 103).1).mono ?_; rintro e w ⟨r, er, rfl, h, hbl⟩))
  exact bodyPost_ret (v := .tuple #[.string r, .int .i64 er]) (by simp [results, Tryd.results51, go_sem]) rfl (TwoR.old ⟨_, _, rfl, h, hbl⟩ (box_fn W 103).2)
end Go.Proofs.YtkpoegdcmnjedaaDoor
