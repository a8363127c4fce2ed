import Derived.Test.YtkpoegdcmnjedaaDoorMH2
namespace Go.Proofs.YtkpoegdcmnjedaaDoor
open Go.RowKit
set_option linter.unusedVariables false
set_option linter.unusedSimpArgs false

set_option maxRecDepth 100000 in
set_option maxHeartbeats 2000000 in
theorem two_less (a b : ByteArray) (W : World) (ha : a.size ≤ 1000000) (hb : b.size ≤ 1000000) : Calls Tryd.prog 63 #[.string a, .string b, .func (.func 67) #[] #[]] W (TwoR (fun x y => x - y) a b W) := by
  go_enter Tryd.func63, Tryd.ntmps63
  go_wp2_with (first | (go_at_call 69; refine (parseTwo_any a b _ ha hb).mono ?_; rintro e w2 ⟨m1, ao1, n1, cap1, lg1, od1, m2, ao2, n2, cap2, lg2, od2, er, rfl, hd, hbd⟩; have HD := Lib.hid hd; have HB := Lib.hid hbd; clear hd hbd; rcases HD.out with ⟨h1, rfl⟩ | ⟨h1, rfl, h2 | ⟨h2, rfl, h3⟩, h4 | ⟨h4, rfl, h5⟩⟩) | (go_at_call 67; refine (less_any (h3.later (((Below.refl _ _).alloc (Nat.le_refl _) _).alloc (by simp) _) (Nat.le_refl _)) (h5.later (((Below.refl _ _).alloc (Nat.le_refl _) _).alloc (by simp) _) (Nat.le_refl _)) (by decide)).mono ?_; rintro e w4 ⟨⟨v4, rfl, h6⟩, hb4⟩; have HB4 := Lib.hid hb4; have H6 := Lib.hid h6.nm; clear hb4 h6) | (go_at_call 77; refine (written_any H6.out (by decide)).mono ?_; rintro e w5 ⟨rfl, hb5⟩; have HB5 := Lib.hid hb5; clear hb5))
  · exact bodyPost_ret (v := .tuple #[.string ⟨#[]⟩, .int .i64 2]) (by simp [results, Tryd.results63, go_sem]) rfl ⟨_, 2, rfl, Or.inl ⟨h1, rfl, rfl⟩, ((HB.out.alloc HB.out.size _).alloc (by have := HB.out.size; simp; omega) _)⟩
  · exact bodyPost_ret (v := .tuple #[.string ⟨#[]⟩, .int .i64 4]) (by simp [results, Tryd.results63, go_sem]) rfl ⟨_, 4, rfl, Or.inr (Or.inl ⟨h1, Or.inl h2.1, rfl, rfl⟩), ((HB.out.alloc HB.out.size _).alloc (by have := HB.out.size; simp; omega) _)⟩
  · exact bodyPost_ret (v := .tuple #[.string ⟨#[]⟩, .int .i64 4]) (by simp [results, Tryd.results63, go_sem]) rfl ⟨_, 4, rfl, Or.inr (Or.inl ⟨h1, Or.inl h2.1, rfl, rfl⟩), ((HB.out.alloc HB.out.size _).alloc (by have := HB.out.size; simp; omega) _)⟩
  · exact bodyPost_ret (v := .tuple #[.string ⟨#[]⟩, .int .i64 4]) (by simp [results, Tryd.results63, go_sem]) rfl ⟨_, 4, rfl, Or.inr (Or.inl ⟨h1, Or.inr h4.1, rfl, rfl⟩), ((HB.out.alloc HB.out.size _).alloc (by have := HB.out.size; simp; omega) _)⟩
  · exact bodyPost_ret (v := .tuple #[.string (toldS (valT a - valT b)), .int .i64 (toldE (valT a - valT b))]) (by simp [results, Tryd.results63, go_sem]) rfl ⟨_, _, rfl, Or.inr (Or.inr ⟨h1, h2, h4, rfl, rfl⟩),
      (((HB.out.alloc HB.out.size _).alloc (by have := HB.out.size; simp; omega) _).trans (HB4.out.mono (by have := HB.out.size; simp; omega))).trans (HB5.out.mono (by have h8 := HB.out.size; have h7 := HB4.out.size; simp at h7; omega))⟩
set_option maxHeartbeats 1000000 in
theorem sub_any (a b : ByteArray) (W : World) (ha : a.size ≤ 1000000) (hb : b.size ≤ 1000000) : Calls Tryd.prog 19 #[.string a, .string b] W (TwoR (fun x y => x - y) a b W) := by
  go_enter Tryd.func19, Tryd.ntmps19
  go_wp2_with (go_at_call 63; refine (two_less a b _ ha hb).mono ?_; rintro e w ⟨r, er, rfl, h, hb⟩)
  exact bodyPost_ret (v := .tuple #[.string r, .int .i64 er]) (by simp [results, Tryd.results19, go_sem]) rfl ⟨_, _, rfl, h, hb⟩
/-- what Compare tells. -/
def CmpQ (a b : ByteArray) (W : World) (e : Ending) (W' : World) : Prop :=
  ∃ (r er : Int), e = .returned (.tuple #[.int .i64 r, .int .i64 er]) ∧
    ((¬ (IsNum a ∧ IsNum b) ∧ r = 0 ∧ er = 2) ∨ ((IsNum a ∧ IsNum b) ∧ (Lim ≤ natT a ∨ Lim ≤ natT b) ∧ r = 0 ∧ er = 4) ∨
     ((IsNum a ∧ IsNum b) ∧ natT a < Lim ∧ natT b < Lim ∧ r = cmpZ (valT a) (valT b) ∧ er = 0)) ∧ Below W.heap.size W W'
set_option maxRecDepth 100000 in
set_option maxHeartbeats 2000000 in
theorem compareT_any (a b : ByteArray) (W : World) (ha : a.size ≤ 1000000) (hb : b.size ≤ 1000000) : Calls Tryd.prog 21 #[.string a, .string b] W (CmpQ a b W) := by
  go_enter Tryd.func21, Tryd.ntmps21
  go_wp2_with (first | (go_at_call 69; refine (parseTwo_any a b _ ha hb).mono ?_; rintro e w2 ⟨m1, ao1, n1, cap1, lg1, od1, m2, ao2, n2, cap2, lg2, od2, er, rfl, hd, hbd⟩; have HD := Lib.hid hd; have HB := Lib.hid hbd; clear hd hbd; rcases HD.out with ⟨h1, rfl⟩ | ⟨h1, rfl, h2 | ⟨h2, rfl, h3⟩, h4 | ⟨h4, rfl, h5⟩⟩) | (go_at_call 70; refine (ncompare_any (h3.later (((Below.refl _ _).alloc (Nat.le_refl _) _).alloc (by simp) _) (Nat.le_refl _)) (h5.later (((Below.refl _ _).alloc (Nat.le_refl _) _).alloc (by simp) _) (Nat.le_refl _)) (by decide)).mono ?_; rintro e w4 ⟨rfl, hb4⟩; have HB4 := Lib.hid hb4; clear hb4))
  · exact bodyPost_ret (v := .tuple #[.int .i64 0, .int .i64 2]) (by simp [results, Tryd.results21, go_sem]) rfl ⟨_, 2, rfl, Or.inl ⟨h1, rfl, rfl⟩, ((HB.out.alloc HB.out.size _).alloc (by have := HB.out.size; simp; omega) _)⟩
  · exact bodyPost_ret (v := .tuple #[.int .i64 0, .int .i64 4]) (by simp [results, Tryd.results21, go_sem]) rfl ⟨_, 4, rfl, Or.inr (Or.inl ⟨h1, Or.inl h2.1, rfl, rfl⟩), ((HB.out.alloc HB.out.size _).alloc (by have := HB.out.size; simp; omega) _)⟩
  · exact bodyPost_ret (v := .tuple #[.int .i64 0, .int .i64 4]) (by simp [results, Tryd.results21, go_sem]) rfl ⟨_, 4, rfl, Or.inr (Or.inl ⟨h1, Or.inl h2.1, rfl, rfl⟩), ((HB.out.alloc HB.out.size _).alloc (by have := HB.out.size; simp; omega) _)⟩
  · exact bodyPost_ret (v := .tuple #[.int .i64 0, .int .i64 4]) (by simp [results, Tryd.results21, go_sem]) rfl ⟨_, 4, rfl, Or.inr (Or.inl ⟨h1, Or.inr h4.1, rfl, rfl⟩), ((HB.out.alloc HB.out.size _).alloc (by have := HB.out.size; simp; omega) _)⟩
  · exact bodyPost_ret (v := .tuple #[.int .i64 (cmpZ (valT a) (valT b)), .int .i64 0]) (by simp [results, Tryd.results21, go_sem]) rfl ⟨_, _, rfl, Or.inr (Or.inr ⟨h1, h2, h4, rfl, rfl⟩),
      ((HB.out.alloc HB.out.size _).alloc (by have := HB.out.size; simp; omega) _).trans (HB4.out.mono (by have := HB.out.size; simp; omega))⟩
end Go.Proofs.YtkpoegdcmnjedaaDoor
