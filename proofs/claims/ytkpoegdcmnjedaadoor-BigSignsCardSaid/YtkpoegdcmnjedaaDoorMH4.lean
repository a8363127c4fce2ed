import Derived.Test.YtkpoegdcmnjedaaDoorMH3
import Derived.Test.YtkpoegdcmnjedaaDoorMD1
namespace Go.Proofs.YtkpoegdcmnjedaaDoor
open Go.RowKit
set_option linter.unusedVariables false
set_option linter.unusedSimpArgs false

theorem nd_mul (a b : Nat) {K : Nat} (ha : nd a ≤ K) (hb : nd b ≤ K) : nd (a * b) ≤ K + K := by
  refine (digs_length_le (by decide)).2 ?_
  have h1 := Nat.lt_of_lt_of_le (lt_nd (a := a)) (Nat.pow_le_pow_right (by decide) ha)
  have h2 := Nat.lt_of_lt_of_le (lt_nd (a := b)) (Nat.pow_le_pow_right (by decide) hb)
  rw [Nat.pow_add]
  exact Nat.mul_lt_mul_of_lt_of_le h1 (Nat.le_of_lt h2) (Nat.pow_pos (by decide))
theorem mul_sign {x y : Int} (hx : x ≠ 0) (hy : y ≠ 0) : decide (x * y < 0) = (decide (x < 0) != decide (y < 0)) := by
  rcases Int.lt_or_gt_of_ne hx with h1 | h1 <;> rcases Int.lt_or_gt_of_ne hy with h2 | h2
  · have := Int.mul_pos_of_neg_of_neg h1 h2
    rw [decide_eq_false (by omega), decide_eq_true h1, decide_eq_true h2]; rfl
  · have := Int.mul_neg_of_neg_of_pos h1 h2
    rw [decide_eq_true (by omega), decide_eq_true h1, decide_eq_false (by omega)]; rfl
  · have := Int.mul_neg_of_pos_of_neg h1 h2
    rw [decide_eq_true (by omega), decide_eq_false (by omega), decide_eq_true h2]; rfl
  · have := Int.mul_pos h1 h2
    rw [decide_eq_false (by omega), decide_eq_false (by omega), decide_eq_false (by omega)]; rfl

set_option maxRecDepth 100000 in
set_option maxHeartbeats 4000000 in
theorem ntimes_any {K : Nat} {W : World} {va vb : Value} {x y : Int} (ha : Nm K W va x) (hb : Nm K W vb y) (hK : K ≤ 100000) :
    Calls Tryd.prog 73 #[va, vb] W fun e W' => (∃ v, e = .returned v ∧ NmB W.heap.size (K + K) W' v (x * y)) ∧ Below W.heap.size W W' := by
  obtain ⟨a1, n1, p1, o1, rfl, hm1, hn1⟩ := ha
  obtain ⟨a2, n2, p2, o2, rfl, hm2, hn2⟩ := hb
  obtain ⟨s1, HS1⟩ : ∃ s, Hid (decide (x < 0) = s) := ⟨_, Lib.hid rfl⟩
  obtain ⟨s2, HS2⟩ : ∃ s, Hid (decide (y < 0) = s) := ⟨_, Lib.hid rfl⟩
  rw [HS1.out, HS2.out]
  obtain ⟨V, hV, v0, v1, v2, vb, vs⟩ := three_new W (Obj.cells #[.bool s1, .slice a1 n1 p1, .bool false, .bool o1] 46) (Obj.cells #[.bool s2, .slice a2 n2 p2, .bool false, .bool o2] 46) (Obj.cells #[.bool false, .slice none 0 0, .bool false, .bool false] 46)
  have HM1 := Lib.hid (hm1.later vb (Nat.le_refl _))
  have HM2 := Lib.hid (hm2.later vb (Nat.le_refl _))
  have HVB := Lib.hid vb
  have F0 := Lib.hid (And.intro (Box4.of v0) (And.intro (Box4.of v1) (Box4.of v2)))
  have l1 : (digs B32 x.natAbs).length ≤ 1000000 := by show nd x.natAbs ≤ _; omega
  have l2 : (digs B32 y.natAbs).length ≤ 1000000 := by show nd y.natAbs ≤ _; omega
  have HPH : Hid (∀ w', M 0 w' (.slice a1 n1 p1) (digs B32 x.natAbs) → M 0 w' (.slice a2 n2 p2) (digs B32 y.natAbs) → Calls Tryd.prog 116 #[.slice a1 n1 p1, .slice a2 n2 p2] w' fun e W' => (∃ v', e = .returned v' ∧ M w'.heap.size W' v' (digs B32 (x.natAbs * y.natAbs))) ∧ Below w'.heap.size w' W') := Lib.hid fun w' h1 h2 => by
    have HP := times_any h1 h2 (digs_dig (by decide) _) (digs_dig (by decide) _) l1 l2
    rw [val_digs (by decide), val_digs (by decide)] at HP
    exact HP
  clear hm1 hm2 vb v0 v1 v2 l1 l2
  obtain ⟨s3, HS3⟩ : ∃ s, Hid ((s1 != s2) = s) := ⟨_, Lib.hid rfl⟩
  have hs3 := HS3.out
  go_enter Tryd.func73, Tryd.ntmps73
  go_upto_region 1 with (fail)
  rw [← hV]
  clear hV
  go_region_held3 (fun w' => (w'.cell? ⟨W.heap.size, 0, none⟩ = some (.bool s1) ∧ w'.cell? ⟨W.heap.size, 1, none⟩ = some (.slice a1 n1 p1) ∧ w'.cell? ⟨W.heap.size, 2, none⟩ = some (.bool false) ∧ w'.cell? ⟨W.heap.size, 3, none⟩ = some (.bool o1) ∧ w'.cell? ⟨W.heap.size + 1, 0, none⟩ = some (.bool s2) ∧ w'.cell? ⟨W.heap.size + 1, 1, none⟩ = some (.slice a2 n2 p2) ∧ w'.cell? ⟨W.heap.size + 1, 2, none⟩ = some (.bool false) ∧ w'.cell? ⟨W.heap.size + 1, 3, none⟩ = some (.bool o2))) (first | exact eight_cells (F0.out.1.after (Below.drew (Below.refl _ _))) (F0.out.2.1.after (Below.drew (Below.refl _ _))) | exact eight_cells (F0.out.1.after (undrew hb5)) (F0.out.2.1.after (undrew hb5)) | exact eight_cells ((F0.out.1.after (undrew hb5)).after hb6) ((F0.out.2.1.after (undrew hb5)).after hb6) | exact eight_cells (((F0.out.1.after (undrew hb5)).after hb6).far4 (by omega)) (((F0.out.2.1.after (undrew hb5)).after hb6).far4 (by omega))) (first | (go_at_call 116; refine (HPH.out V.drew (HM1.out.later (Below.drew (Below.refl _ _)) (Nat.le_refl _)) (HM2.out.later (Below.drew (Below.refl _ _)) (Nat.le_refl _))).mono ?_; rintro e w5 ⟨⟨v5, rfl, hm5⟩, hb5⟩; obtain ⟨a5, n5, p5, rfl⟩ := hm5.slice3) | (go_at_call 80; refine (signed_any _ _ _ _ _ _ _ _).mono ?_; rintro e w6 ⟨rfl, hb6⟩; obtain ⟨g0, g1, g2, g3, g4, g5, g6, g7⟩ := (F0.out.2.2.after (undrew hb5)).after hb6))
  go_wp2
  have B5 := undrew hb5
  refine bodyPost_ret (v := numV ((!(s1 == s2)) && (false || decide (0 < n5))) (.slice a5 n5 p5) false false) (by simp [results, Tryd.results73, go_sem, g0, g1, g2, g3]) rfl ⟨⟨_, rfl, ?_⟩, ?_⟩
  · refine NmB.mk (((hm5.later hb6 (Nat.le_refl _)).four (g := W.heap.size + 1 + 1) (by show _ < V.heap.size; omega) _ _ _ _).mono (by show _ ≤ V.heap.size; omega)) (Int.natAbs_mul x y) ?_ (nd_mul _ _ hn1 hn2)
    intro h0
    have hx : x ≠ 0 := by rintro rfl; simp at h0
    have hy : y ≠ 0 := by rintro rfl; simp at h0
    rw [mul_sign hx hy, HS1.out, HS2.out]; rfl
  · exact below_four ((HVB.out.trans (B5.mono (by omega))).trans (hb6.mono (by have := B5.size; omega))) (by omega) _ _ _ _
set_option maxRecDepth 100000 in
set_option maxHeartbeats 2000000 in
theorem two_times (a b : ByteArray) (W : World) (ha : a.size ≤ 1000000) (hb : b.size ≤ 1000000) : Calls Tryd.prog 63 #[.string a, .string b, .func (.func 73) #[] #[]] W (TwoR (fun x y => x * y) a b W) := by
  go_enter Tryd.func63, Tryd.ntmps63
  go_wp2_with (first | (go_at_call 69; refine (parseTwo_any a b _ ha hb).mono ?_; rintro e w2 ⟨m1, ao1, n1, cap1, lg1, od1, m2, ao2, n2, cap2, lg2, od2, er, rfl, hd, hbd⟩; have HD := Lib.hid hd; have HB := Lib.hid hbd; clear hd hbd; rcases HD.out with ⟨h1, rfl⟩ | ⟨h1, rfl, h2 | ⟨h2, rfl, h3⟩, h4 | ⟨h4, rfl, h5⟩⟩) | (go_at_call 73; refine (ntimes_any (h3.later (((Below.refl _ _).alloc (Nat.le_refl _) _).alloc (by simp) _) (Nat.le_refl _)) (h5.later (((Below.refl _ _).alloc (Nat.le_refl _) _).alloc (by simp) _) (Nat.le_refl _)) (by decide)).mono ?_; rintro e w4 ⟨⟨v4, rfl, h6⟩, hb4⟩; have HB4 := Lib.hid hb4; have H6 := Lib.hid h6.nm; clear hb4 h6) | (go_at_call 77; refine (written_any H6.out (by decide)).mono ?_; rintro e w5 ⟨rfl, hb5⟩; have HB5 := Lib.hid hb5; clear hb5))
  · exact bodyPost_ret (v := .tuple #[.string ⟨#[]⟩, .int .i64 2]) (by simp [results, Tryd.results63, go_sem]) rfl ⟨_, 2, rfl, Or.inl ⟨h1, rfl, rfl⟩, ((HB.out.alloc HB.out.size _).alloc (by have := HB.out.size; simp; omega) _)⟩
  · exact bodyPost_ret (v := .tuple #[.string ⟨#[]⟩, .int .i64 4]) (by simp [results, Tryd.results63, go_sem]) rfl ⟨_, 4, rfl, Or.inr (Or.inl ⟨h1, Or.inl h2.1, rfl, rfl⟩), ((HB.out.alloc HB.out.size _).alloc (by have := HB.out.size; simp; omega) _)⟩
  · exact bodyPost_ret (v := .tuple #[.string ⟨#[]⟩, .int .i64 4]) (by simp [results, Tryd.results63, go_sem]) rfl ⟨_, 4, rfl, Or.inr (Or.inl ⟨h1, Or.inl h2.1, rfl, rfl⟩), ((HB.out.alloc HB.out.size _).alloc (by have := HB.out.size; simp; omega) _)⟩
  · exact bodyPost_ret (v := .tuple #[.string ⟨#[]⟩, .int .i64 4]) (by simp [results, Tryd.results63, go_sem]) rfl ⟨_, 4, rfl, Or.inr (Or.inl ⟨h1, Or.inr h4.1, rfl, rfl⟩), ((HB.out.alloc HB.out.size _).alloc (by have := HB.out.size; simp; omega) _)⟩
  · exact bodyPost_ret (v := .tuple #[.string (toldS (valT a * valT b)), .int .i64 (toldE (valT a * valT b))]) (by simp [results, Tryd.results63, go_sem]) rfl ⟨_, _, rfl, Or.inr (Or.inr ⟨h1, h2, h4, rfl, rfl⟩),
      (((HB.out.alloc HB.out.size _).alloc (by have := HB.out.size; simp; omega) _).trans (HB4.out.mono (by have := HB.out.size; simp; omega))).trans (HB5.out.mono (by have h8 := HB.out.size; have h7 := HB4.out.size; simp at h7; omega))⟩
set_option maxHeartbeats 1000000 in
theorem mul_any (a b : ByteArray) (W : World) (ha : a.size ≤ 1000000) (hb : b.size ≤ 1000000) : Calls Tryd.prog 23 #[.string a, .string b] W (TwoR (fun x y => x * y) a b W) := by
  go_enter Tryd.func23, Tryd.ntmps23
  go_wp2_with (go_at_call 63; refine (two_times a b _ ha hb).mono ?_; rintro e w ⟨r, er, rfl, h, hb⟩)
  exact bodyPost_ret (v := .tuple #[.string r, .int .i64 er]) (by simp [results, Tryd.results23, go_sem]) rfl ⟨_, _, rfl, h, hb⟩
end Go.Proofs.YtkpoegdcmnjedaaDoor
