import Derived.Test.YtkpoegdcmnjedaaDoorRF3
import Derived.Test.YtkpoegdcmnjedaaDoorMG7
namespace Go.Proofs.YtkpoegdcmnjedaaDoor
open Go.RowKit
set_option linter.unusedVariables false
set_option linter.unusedSimpArgs false

theorem rd_lt16 {b : Nat} {s : ByteArray} : ∀ k, (∀ j, j < k → dvS s j < b) → rd b s k < b ^ k
  | 0, _ => by show 0 < 1; decide
  | k + 1, h => by
    have h1 := rd_lt16 k (fun j hj => h j (by omega))
    have h2 := h k (by omega)
    have h3 : (rd b s k + 1) * b ≤ b ^ k * b := Nat.mul_le_mul_right _ h1
    rw [Nat.add_mul, Nat.one_mul] at h3
    rw [Nat.pow_succ]
    show rd b s k * b + dvS s k < _
    omega
theorem pds_size (s : ByteArray) : (pds s).size ≤ s.size := by
  have := ptext_size s
  have k1 : (pbody (ptext s)).size ≤ (ptext s).size := by
    unfold pbody; split
    · rw [ByteArray.size_extract]; omega
    · exact Nat.le_refl _
  have k2 : (pdig (pbody (ptext s))).size ≤ (pbody (ptext s)).size := by
    unfold pdig; split
    · exact Nat.le_refl _
    · rw [ByteArray.size_extract]; omega
  show (pdig (pbody (ptext s))).size ≤ _
  omega
theorem natT_nt {s : ByteArray} (h : IsNum s) : nt (natT s) ≤ 2 * s.size := by
  have h1 : natT s < pbs s ^ (pds s).size := rd_lt16 _ h.2
  have h2 : pbs s ≤ 10 ^ 2 := by
    rcases pbase_cases (pbody (ptext s)) with h | h | h | h <;> (show pbase _ ≤ 100; omega)
  have h3 : pbs s ^ (pds s).size ≤ (10 ^ 2) ^ (pds s).size := Nat.pow_le_pow_left h2 _
  rw [← Nat.pow_mul] at h3
  have h4 := nt_of_lt (a := natT s) (k := 2 * (pds s).size) (by omega)
  have := pds_size s
  omega
theorem Rn.read {B : Nat} {s : ByteArray} {W : World} {v : Value} (h : Rn B s W v) (hi : IsNum s) (hs : s.size ≤ 400000) :
    ∃ x, Qn B W v x ∧ nt x.natAbs ≤ 1000000 ∧ (Lim ≤ x.natAbs ↔ Lim ≤ natT s) ∧ (natT s < Lim → x = valT s) := by
  obtain ⟨x, h1, h2⟩ := h
  have hn := natT_nt hi
  rcases h2 with ⟨h3, h4⟩ | ⟨h3, h4, _, h5⟩
  · have h5 : x.natAbs = natT s := by rw [h4, valT_abs]
    exact ⟨x, h1, by rw [h5]; omega, by rw [h5], fun _ => h4⟩
  · exact ⟨x, h1, Nat.le_trans (nt_mono h5) (by omega), by omega, fun h => by omega⟩
set_option maxRecDepth 100000 in
set_option maxHeartbeats 8000000 in
theorem ref_add_any (a b : ByteArray) (W : World) (ha : a.size ≤ 400000) (hb : b.size ≤ 400000) : Calls Tryd.prog 18 #[.string a, .string b] W (TwoR (fun x y => x + y) a b W) := by
  go_enter Tryd.func18, Tryd.ntmps18
  go_wp2_with fail
  refine (ref_both_any a b _ (by omega) (by omega)).mono ?_
  rintro e w2 ⟨m1, ao1, n1, cap1, m2, ao2, n2, cap2, er, rfl, hd, hbd⟩
  have HB := Lib.hid hbd
  clear hbd
  rcases hd with ⟨h1, rfl⟩ | ⟨h1, rfl, h2, h3⟩
  · go_wp2
    exact bodyPost_ret (v := .tuple #[.string ⟨#[]⟩, .int .i64 2]) (by simp [results, Tryd.results18, go_sem]) rfl ⟨_, 2, rfl, Or.inl ⟨h1, rfl, rfl⟩, ((HB.out.alloc HB.out.size _).alloc (by have := HB.out.size; simp; omega) _)⟩
  · obtain ⟨x, hx1, hx2, hx3, hx4⟩ := h2.read h1.1 ha
    obtain ⟨y, hy1, hy2, hy3, hy4⟩ := h3.read h1.2 hb
    obtain ⟨V1, hV1, hbox1, vb1, vs1⟩ := box2_new w2 (.bool m1) (.slice ao1 n1 cap1)
    obtain ⟨V, hV, hbox, vb, vs⟩ := box2_new V1 (.bool m2) (.slice ao2 n2 cap2)
    rw [vs1] at hbox
    have hvb := vb1.trans (vb.mono (by omega))
    have HVB := Lib.hid hvb
    have F0 := Lib.hid (And.intro (hbox1.after vb) hbox)
    have hqx := hx1.later hvb (Nat.le_refl _)
    have hqy := hy1.later hvb (Nat.le_refl _)
    obtain ⟨rs, re, HRS⟩ : ∃ (rs : ByteArray) (re : Int), Hid (((Lim ≤ natT a ∨ Lim ≤ natT b) ∧ rs = ⟨#[]⟩ ∧ re = 4 ∨ (natT a < Lim ∧ natT b < Lim) ∧ rs = toldS (valT a + valT b) ∧ re = toldE (valT a + valT b)) ∧
        ((Lim ≤ x.natAbs ∨ Lim ≤ y.natAbs) ∧ rs = ⟨#[]⟩ ∧ re = 4 ∨ (x.natAbs < Lim ∧ y.natAbs < Lim) ∧ rs = toldS (x + y) ∧ re = toldE (x + y))) := by
      by_cases hl : Lim ≤ natT a ∨ Lim ≤ natT b
      · exact ⟨_, _, Lib.hid ⟨Or.inl ⟨hl, rfl, rfl⟩, Or.inl ⟨by rw [hx3, hy3]; exact hl, rfl, rfl⟩⟩⟩
      · have hl1 : natT a < Lim := by omega
        have hl2 : natT b < Lim := by omega
        refine ⟨_, _, Lib.hid ⟨Or.inr ⟨⟨hl1, hl2⟩, rfl, rfl⟩, Or.inr ⟨⟨by omega, by omega⟩, ?_, ?_⟩⟩⟩ <;> rw [hx4 hl1, hy4 hl2]
    have HTOLD : Hid (∀ (w' : World) (g : Nat) (m5 : Bool) (a5 : Option Addr) (n5 p5 : Nat), Below V.heap.size V w' → Qn 0 w' (numR m5 (.slice a5 n5 p5)) (x + y) → Two4 g m1 (.slice ao1 n1 cap1) m2 (.slice ao2 n2 cap2) w' →
        Calls Tryd.prog 61 #[numR m5 (.slice a5 n5 p5), .slice (some ⟨g, 0, none⟩) 2 2] w' fun e W' => e = .returned (.tuple #[.string rs, .int .i64 re]) ∧ Below V.heap.size V W') := Lib.hid fun w' g m5 a5 n5 p5 hb hq ht => by
      refine (ref_told_two hq (hqx.later hb (Nat.le_refl _)) (hqy.later hb (Nat.le_refl _)) ht).mono ?_
      rintro e W' ⟨he, hb2⟩
      refine ⟨?_, hb.trans (hb2.mono hb.size)⟩
      rcases HRS.out.2 with ⟨h4, h5, h6⟩ | ⟨h4, h5, h6⟩ <;> rcases he with ⟨h7, h8⟩ | ⟨h7, h8⟩
      · rw [h8, h5, h6]
      · omega
      · omega
      · rw [h8, h5, h6]
    have HP : Hid (∀ w' : World, Below V.heap.size V w' → Calls Tryd.prog 66 #[numR m1 (.slice ao1 n1 cap1), numR m2 (.slice ao2 n2 cap2)] w' fun e W' => ∃ m a n p, e = .returned (numR m (.slice a n p)) ∧ Qn 0 W' (numR m (.slice a n p)) (x + y) ∧ Below V.heap.size V W' ∧ Below w'.heap.size w' W') := Lib.hid fun w' hb => by
      refine (ref_Plus_any (hqx.later hb (Nat.le_refl _)) (hqy.later hb (Nat.le_refl _)) hx2 hy2).mono ?_
      rintro e W' ⟨⟨v, rfl, hq⟩, hb2⟩
      obtain ⟨m, a, n, p, rfl, hq', -⟩ := hq.parts
      exact ⟨m, a, n, p, rfl, hq'.mono (Nat.zero_le _), hb.trans (hb2.mono hb.size), hb2⟩
    have HI := Lib.hid h1
    have HVZ := Lib.hid (show w2.heap.size ≤ V.heap.size by omega)
    have hVV : V = (w2.alloc (Obj.cells #[.bool m1, .slice ao1 n1 cap1] 51)).alloc (Obj.cells #[.bool m2, .slice ao2 n2 cap2] 51) := by rw [hV, hV1]
    clear hbox hvb vb hV hV1 hbox1 vb1 vs vs1 hx1 hy1 hx2 hy2 hx3 hy3 hx4 hy4 h2 h3 h1 hqx hqy
    go_upto_region 4 with (fail)
    rw [← hVV]
    clear hVV
    go_region_held3 (fun w' => (w'.cell? ⟨w2.heap.size, 0, none⟩ = some (.bool m1) ∧ w'.cell? ⟨w2.heap.size, 1, none⟩ = some (.slice ao1 n1 cap1) ∧ w'.cell? ⟨w2.heap.size + 1, 0, none⟩ = some (.bool m2) ∧ w'.cell? ⟨w2.heap.size + 1, 1, none⟩ = some (.slice ao2 n2 cap2))) (with_reducible first | (with_reducible exact four_cells2 (F0.out.1.after (Below.drew (Below.refl _ _))) (F0.out.2.after (Below.drew (Below.refl _ _)))) | (with_reducible exact four_cells2 (F0.out.1.after (Below.drew ((Below.refl _ _).alloc (Nat.le_refl _) _))) (F0.out.2.after (Below.drew ((Below.refl _ _).alloc (Nat.le_refl _) _)))) | (with_reducible exact four_cells2 (F0.out.1.after (HW4.out)) (F0.out.2.after (HW4.out))) | (with_reducible exact four_cells2 (F0.out.1.after (HW5.out)) (F0.out.2.after (HW5.out))) | (with_reducible exact four_cells2 (F0.out.1.after (HW6.out)) (F0.out.2.after (HW6.out))) | (with_reducible exact four_cells2 ((F0.out.1.after HW4.out).after ((Below.refl _ _).alloc (Nat.le_refl _) _)) ((F0.out.2.after HW4.out).after ((Below.refl _ _).alloc (Nat.le_refl _) _))) | (with_reducible exact four_cells2 ((F0.out.1.after HW5.out).after ((Below.refl _ _).alloc (Nat.le_refl _) _)) ((F0.out.2.after HW5.out).after ((Below.refl _ _).alloc (Nat.le_refl _) _)))) (first | (go_at_call 66; refine (HP.out _ (by first | exact Below.drew (Below.refl _ _) | exact Below.drew ((Below.refl _ _).alloc (Nat.le_refl _) _))).mono ?_; rintro e w5 ⟨m5, a5, n5, p5, rfl, hq5, hb5, hbw⟩; have HQ5 := Lib.hid hq5; have HW5 := Lib.hid hb5; (try have HF5 : Hid (Two4 V.heap.size m1 (.slice ao1 n1 cap1) m2 (.slice ao2 n2 cap2) w5) := Lib.hid (((Two4.new V _ _ _ _).after (Below.drew (Below.refl _ _))).after hbw)); clear hq5 hb5 hbw) | (go_at_call 61; (first | (with_reducible refine (HTOLD.out _ _ _ _ _ _ HW5.out HQ5.out HF5.out).mono ?_) | (with_reducible refine (HTOLD.out _ _ _ _ _ _ (HW5.out.alloc HW5.out.size _) (HQ5.out.later ((Below.refl _ _).alloc (Nat.le_refl _) _) (Nat.le_refl _)) (Two4.new _ _ _ _ _)).mono ?_)); rintro e w6 ⟨rfl, hb6⟩; have HW6 := Lib.hid hb6; clear hb6))
    all_goals
      go_wp2
      refine bodyPost_ret (v := .tuple #[.string rs, .int .i64 re]) (by simp [results, Tryd.results18, go_sem]) rfl ⟨_, _, rfl, ?_, (HB.out.trans (HVB.out.mono HB.out.size)).trans (HW6.out.mono (by have := HB.out.size; have := HVZ.out; omega))⟩
      rcases HRS.out.1 with ⟨h4, h5, h6⟩ | ⟨h4, h5, h6⟩
      · exact Or.inr (Or.inl ⟨HI.out, h4, h5, h6⟩)
      · exact Or.inr (Or.inr ⟨HI.out, h4.1, h4.2, h5, h6⟩)
set_option maxRecDepth 100000 in
set_option maxHeartbeats 8000000 in
theorem ref_sub_any (a b : ByteArray) (W : World) (ha : a.size ≤ 400000) (hb : b.size ≤ 400000) : Calls Tryd.prog 20 #[.string a, .string b] W (TwoR (fun x y => x - y) a b W) := by
  go_enter Tryd.func20, Tryd.ntmps20
  go_wp2_with fail
  refine (ref_both_any a b _ (by omega) (by omega)).mono ?_
  rintro e w2 ⟨m1, ao1, n1, cap1, m2, ao2, n2, cap2, er, rfl, hd, hbd⟩
  have HB := Lib.hid hbd
  clear hbd
  rcases hd with ⟨h1, rfl⟩ | ⟨h1, rfl, h2, h3⟩
  · go_wp2
    exact bodyPost_ret (v := .tuple #[.string ⟨#[]⟩, .int .i64 2]) (by simp [results, Tryd.results20, go_sem]) rfl ⟨_, 2, rfl, Or.inl ⟨h1, rfl, rfl⟩, ((HB.out.alloc HB.out.size _).alloc (by have := HB.out.size; simp; omega) _)⟩
  · obtain ⟨x, hx1, hx2, hx3, hx4⟩ := h2.read h1.1 ha
    obtain ⟨y, hy1, hy2, hy3, hy4⟩ := h3.read h1.2 hb
    obtain ⟨V1, hV1, hbox1, vb1, vs1⟩ := box2_new w2 (.bool m1) (.slice ao1 n1 cap1)
    obtain ⟨V, hV, hbox, vb, vs⟩ := box2_new V1 (.bool m2) (.slice ao2 n2 cap2)
    rw [vs1] at hbox
    have hvb := vb1.trans (vb.mono (by omega))
    have HVB := Lib.hid hvb
    have F0 := Lib.hid (And.intro (hbox1.after vb) hbox)
    have hqx := hx1.later hvb (Nat.le_refl _)
    have hqy := hy1.later hvb (Nat.le_refl _)
    obtain ⟨rs, re, HRS⟩ : ∃ (rs : ByteArray) (re : Int), Hid (((Lim ≤ natT a ∨ Lim ≤ natT b) ∧ rs = ⟨#[]⟩ ∧ re = 4 ∨ (natT a < Lim ∧ natT b < Lim) ∧ rs = toldS (valT a - valT b) ∧ re = toldE (valT a - valT b)) ∧
        ((Lim ≤ x.natAbs ∨ Lim ≤ y.natAbs) ∧ rs = ⟨#[]⟩ ∧ re = 4 ∨ (x.natAbs < Lim ∧ y.natAbs < Lim) ∧ rs = toldS (x + -y) ∧ re = toldE (x + -y))) := by
      by_cases hl : Lim ≤ natT a ∨ Lim ≤ natT b
      · exact ⟨_, _, Lib.hid ⟨Or.inl ⟨hl, rfl, rfl⟩, Or.inl ⟨by rw [hx3, hy3]; exact hl, rfl, rfl⟩⟩⟩
      · have hl1 : natT a < Lim := by omega
        have hl2 : natT b < Lim := by omega
        refine ⟨_, _, Lib.hid ⟨Or.inr ⟨⟨hl1, hl2⟩, rfl, rfl⟩, Or.inr ⟨⟨by omega, by omega⟩, ?_, ?_⟩⟩⟩ <;> rw [hx4 hl1, hy4 hl2] <;> rfl
    have HTOLD : Hid (∀ (w' : World) (g : Nat) (m5 : Bool) (a5 : Option Addr) (n5 p5 : Nat), Below V.heap.size V w' → Qn 0 w' (numR m5 (.slice a5 n5 p5)) (x + -y) → Two4 g m1 (.slice ao1 n1 cap1) m2 (.slice ao2 n2 cap2) w' →
        Calls Tryd.prog 61 #[numR m5 (.slice a5 n5 p5), .slice (some ⟨g, 0, none⟩) 2 2] w' fun e W' => e = .returned (.tuple #[.string rs, .int .i64 re]) ∧ Below V.heap.size V W') := Lib.hid fun w' g m5 a5 n5 p5 hb hq ht => by
      refine (ref_told_two hq (hqx.later hb (Nat.le_refl _)) (hqy.later hb (Nat.le_refl _)) ht).mono ?_
      rintro e W' ⟨he, hb2⟩
      refine ⟨?_, hb.trans (hb2.mono hb.size)⟩
      rcases HRS.out.2 with ⟨h4, h5, h6⟩ | ⟨h4, h5, h6⟩ <;> rcases he with ⟨h7, h8⟩ | ⟨h7, h8⟩
      · rw [h8, h5, h6]
      · omega
      · omega
      · rw [h8, h5, h6]
    have HO : Hid (∀ w' : World, Below V.heap.size V w' → Calls Tryd.prog 68 #[numR m2 (.slice ao2 n2 cap2)] w' fun e W' => ∃ m a n p, e = .returned (numR m (.slice a n p)) ∧ Qn 0 W' (numR m (.slice a n p)) (-y) ∧ Below V.heap.size V W' ∧ Below w'.heap.size w' W') := Lib.hid fun w' hb => by
      refine (ref_opposite_any (hqy.later hb (Nat.le_refl _))).mono ?_
      rintro e W' ⟨⟨v, rfl, hq⟩, hb2⟩
      obtain ⟨m, a, n, p, rfl, hq', -⟩ := hq.parts
      exact ⟨m, a, n, p, rfl, hq'.mono (Nat.zero_le _), hb.trans (hb2.mono hb.size), hb2⟩
    have HP : Hid (∀ (w' : World) (m3 : Bool) (a3 : Option Addr) (n3 p3 : Nat), Below V.heap.size V w' → Qn 0 w' (numR m3 (.slice a3 n3 p3)) (-y) → Calls Tryd.prog 66 #[numR m1 (.slice ao1 n1 cap1), numR m3 (.slice a3 n3 p3)] w' fun e W' => ∃ m a n p, e = .returned (numR m (.slice a n p)) ∧ Qn 0 W' (numR m (.slice a n p)) (x + -y) ∧ Below V.heap.size V W' ∧ Below w'.heap.size w' W') := Lib.hid fun w' m3 a3 n3 p3 hb h3 => by
      refine (ref_Plus_any (hqx.later hb (Nat.le_refl _)) h3 hx2 (by rw [Int.natAbs_neg]; exact hy2)).mono ?_
      rintro e W' ⟨⟨v, rfl, hq⟩, hb2⟩
      obtain ⟨m, a, n, p, rfl, hq', -⟩ := hq.parts
      exact ⟨m, a, n, p, rfl, hq'.mono (Nat.zero_le _), hb.trans (hb2.mono hb.size), hb2⟩
    have HI := Lib.hid h1
    have HVZ := Lib.hid (show w2.heap.size ≤ V.heap.size by omega)
    have hVV : V = (w2.alloc (Obj.cells #[.bool m1, .slice ao1 n1 cap1] 51)).alloc (Obj.cells #[.bool m2, .slice ao2 n2 cap2] 51) := by rw [hV, hV1]
    clear hbox hvb vb hV hV1 hbox1 vb1 vs vs1 hx1 hy1 hx2 hy2 hx3 hy3 hx4 hy4 h2 h3 h1 hqx hqy
    go_upto_region 4 with (fail)
    rw [← hVV]
    clear hVV
    go_region_held3 (fun w' => (w'.cell? ⟨w2.heap.size, 0, none⟩ = some (.bool m1) ∧ w'.cell? ⟨w2.heap.size, 1, none⟩ = some (.slice ao1 n1 cap1) ∧ w'.cell? ⟨w2.heap.size + 1, 0, none⟩ = some (.bool m2) ∧ w'.cell? ⟨w2.heap.size + 1, 1, none⟩ = some (.slice ao2 n2 cap2))) (with_reducible first | (with_reducible exact four_cells2 (F0.out.1.after (Below.drew (Below.refl _ _))) (F0.out.2.after (Below.drew (Below.refl _ _)))) | (with_reducible exact four_cells2 (F0.out.1.after (Below.drew ((Below.refl _ _).alloc (Nat.le_refl _) _))) (F0.out.2.after (Below.drew ((Below.refl _ _).alloc (Nat.le_refl _) _)))) | (with_reducible exact four_cells2 (F0.out.1.after (HW4.out)) (F0.out.2.after (HW4.out))) | (with_reducible exact four_cells2 (F0.out.1.after (HW5.out)) (F0.out.2.after (HW5.out))) | (with_reducible exact four_cells2 (F0.out.1.after (HW6.out)) (F0.out.2.after (HW6.out))) | (with_reducible exact four_cells2 ((F0.out.1.after HW4.out).after ((Below.refl _ _).alloc (Nat.le_refl _) _)) ((F0.out.2.after HW4.out).after ((Below.refl _ _).alloc (Nat.le_refl _) _))) | (with_reducible exact four_cells2 ((F0.out.1.after HW5.out).after ((Below.refl _ _).alloc (Nat.le_refl _) _)) ((F0.out.2.after HW5.out).after ((Below.refl _ _).alloc (Nat.le_refl _) _)))) (first | (go_at_call 68; refine (HO.out _ (by first | exact Below.drew (Below.refl _ _) | exact Below.drew ((Below.refl _ _).alloc (Nat.le_refl _) _))).mono ?_; rintro e w4 ⟨m3, a3, n3, p3, rfl, hq5, hb5, hbw⟩; have HQ4 := Lib.hid hq5; have HW4 := Lib.hid hb5; (try have HF4 : Hid (Two4 V.heap.size m1 (.slice ao1 n1 cap1) m2 (.slice ao2 n2 cap2) w4) := Lib.hid (((Two4.new V _ _ _ _).after (Below.drew (Below.refl _ _))).after hbw)); clear hq5 hb5 hbw) | (go_at_call 66; (first | (with_reducible refine (HP.out _ _ _ _ _ HW4.out HQ4.out).mono ?_) | (with_reducible refine (HP.out _ _ _ _ _ (HW4.out.alloc HW4.out.size _) (HQ4.out.later ((Below.refl _ _).alloc (Nat.le_refl _) _) (Nat.le_refl _))).mono ?_)); rintro e w5 ⟨m5, a5, n5, p5, rfl, hq5, hb5, hbw⟩; have HQ5 := Lib.hid hq5; have HW5 := Lib.hid hb5; (try have HF5 : Hid (Two4 V.heap.size m1 (.slice ao1 n1 cap1) m2 (.slice ao2 n2 cap2) w5) := Lib.hid (HF4.out.after hbw)); (try have HF5 := Lib.hid ((Two4.new w4 m1 m2 (.slice ao1 n1 cap1) (.slice ao2 n2 cap2)).after hbw)); clear hq5 hb5 hbw) | (go_at_call 61; (first | (with_reducible refine (HTOLD.out _ _ _ _ _ _ HW5.out HQ5.out HF5.out).mono ?_) | (with_reducible refine (HTOLD.out _ _ _ _ _ _ (HW5.out.alloc HW5.out.size _) (HQ5.out.later ((Below.refl _ _).alloc (Nat.le_refl _) _) (Nat.le_refl _)) (Two4.new _ _ _ _ _)).mono ?_)); rintro e w6 ⟨rfl, hb6⟩; have HW6 := Lib.hid hb6; clear hb6))
    all_goals
      go_wp2
      refine bodyPost_ret (v := .tuple #[.string rs, .int .i64 re]) (by simp [results, Tryd.results20, go_sem]) rfl ⟨_, _, rfl, ?_, (HB.out.trans (HVB.out.mono HB.out.size)).trans (HW6.out.mono (by have := HB.out.size; have := HVZ.out; omega))⟩
      rcases HRS.out.1 with ⟨h4, h5, h6⟩ | ⟨h4, h5, h6⟩
      · exact Or.inr (Or.inl ⟨HI.out, h4, h5, h6⟩)
      · exact Or.inr (Or.inr ⟨HI.out, h4.1, h4.2, h5, h6⟩)
end Go.Proofs.YtkpoegdcmnjedaaDoor
