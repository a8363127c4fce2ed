import Derived.Test.YtkpoegdcmnjedaaDoorRJ2
import Derived.Test.YtkpoegdcmnjedaaDoorPR3
import Derived.Deep.RegionHeld3
import Derived.Test.YtkpoegdcmnjedaaDoorQI1
import Derived.Deep.CutRange
import Derived.Test.YtkpoegdcmnjedaaDoorShelf
import Derived.Test.YtkpoegdcmnjedaaDoorMB1
import Derived.Lib.LaidTab
import Derived.Lib.AppendIntMem
import Derived.Stop.LaidErr
import Derived.WalkLawsBesides
import Derived.Test.YtkpoegdcmnjedaaDoorRows
import Derived.Test.YtkpoegdcmnjedaaDoorQR2
import Derived.Test.YtkpoegdcmnjedaaDoorMJ1
import Derived.Test.YtkpoegdcmnjedaaDoorNB5
import Derived.Test.YtkpoegdcmnjedaaDoorSC3
namespace Go.Proofs.YtkpoegdcmnjedaaDoor
open Go.RowKit
set_option linter.unusedVariables false
set_option linter.unusedSimpArgs false

/-! ### the reference's Neg, Abs, Not -/
set_option maxRecDepth 100000 in
set_option maxHeartbeats 2000000 in
theorem ref_neg_any (s : ByteArray) (W : World) (hs : s.size ≤ 400000) (la : IsNum s → natT s + 1 < Lim) : Calls Tryd.prog 32 #[.string s] W (OneQ (fun x => -x) s W) := by
  go_enter Tryd.func32, Tryd.ntmps32
  go_wp2_with fail
  refine (ref_one_any s _ (by omega)).mono ?_
  rintro e w2 ⟨m, ao, nn, cap, er, rfl, hd, hb⟩
  obtain ⟨V2, hV2, hbx, vb2, vs2⟩ := box2_new w2 (.bool m) (.slice ao nn cap)
  have HB2 := Lib.hid (hb.trans (vb2.mono hb.size))
  have FX := Lib.hid hbx
  have HV2 := Lib.hid vb2
  obtain ⟨x0, x1, -, -⟩ := FX.out
  clear hb
  go_upto_region 2 with (fail)
  rw [← hV2]
  clear hV2 hbx vb2 vs2
  rcases hd with ⟨h1, rfl⟩ | ⟨h1, rfl, hrn⟩
  · clear la
    go_wp2
    exact bodyPost_ret (v := .tuple #[.string ⟨#[]⟩, .int .i64 2]) (by simp [results, Tryd.results32, go_sem]) rfl ⟨_, 2, rfl, Or.inl ⟨h1, rfl, rfl⟩, HB2.out⟩
  obtain ⟨x, hq, hx⟩ := hrn
  have hnl := la h1
  rcases hx with ⟨hlt, hxv⟩ | ⟨hge, _⟩
  case inr => omega
  have HXV := Lib.hid hxv
  have HQ := Lib.hid (hq.later HV2.out (Nat.le_refl _))
  have H1 := Lib.hid (And.intro h1 hlt)
  have HXL : Hid (x.natAbs + 1 < Lim) := Lib.hid (by rw [hxv, valT_abs]; exact hnl)
  obtain ⟨_, _, _, _, ea, hna, hsa⟩ := hq.view
  simp only [numR, Value.agg.injEq, Array.mk.injEq, List.cons.injEq, Value.slice.injEq, Value.bool.injEq] at ea
  obtain ⟨rfl, ⟨rfl, rfl, rfl⟩, -⟩ := ea
  have HNA := Lib.hid (hna.later HV2.out (Nat.le_refl _))
  clear hq hlt hxv hnl la h1 hna hsa
  have H68 := Lib.hid (ref_opposite_any HQ.out)
  go_wp2_with (first | (go_at_call 68; (with_reducible refine H68.out.mono ?_); rintro e w3 ⟨⟨v3, rfl, hm3⟩, hb3⟩; have HM3 := Lib.hid hm3; have HB3 := Lib.hid hb3; clear hm3 hb3) | (go_at_call 61; (with_reducible refine (ref_told_nil HM3.out).mono ?_); rintro e w4 ⟨rfl, hb4⟩; have HB4 := Lib.hid hb4; clear hb4))
  exact bodyPost_ret (v := .tuple #[.string (toldS (-x)), .int .i64 (toldE (-x))]) (by simp [results, Tryd.results32, go_sem]) rfl ⟨_, _, rfl, Or.inr (Or.inr ⟨H1.out.1, H1.out.2, by rw [← HXV.out], by rw [← HXV.out]⟩), (HB2.out.trans (HB3.out.mono HB2.out.size)).trans (HB4.out.mono (Nat.le_trans HB2.out.size HB3.out.size))⟩
set_option maxRecDepth 100000 in
set_option maxHeartbeats 2000000 in
theorem ref_abs_any (s : ByteArray) (W : World) (hs : s.size ≤ 400000) (la : IsNum s → natT s + 1 < Lim) : Calls Tryd.prog 34 #[.string s] W (OneQ (fun x => ((x.natAbs : Nat) : Int)) s W) := by
  go_enter Tryd.func34, Tryd.ntmps34
  go_wp2_with fail
  refine (ref_one_any s _ (by omega)).mono ?_
  rintro e w2 ⟨m, ao, nn, cap, er, rfl, hd, hb⟩
  obtain ⟨V2, hV2, hbx, vb2, vs2⟩ := box2_new w2 (.bool m) (.slice ao nn cap)
  have HB2 := Lib.hid (hb.trans (vb2.mono hb.size))
  have FX := Lib.hid hbx
  have HV2 := Lib.hid vb2
  obtain ⟨x0, x1, -, -⟩ := FX.out
  clear hb
  go_upto_region 2 with (fail)
  rw [← hV2]
  clear hV2 hbx vb2 vs2
  rcases hd with ⟨h1, rfl⟩ | ⟨h1, rfl, hrn⟩
  · clear la
    go_wp2
    exact bodyPost_ret (v := .tuple #[.string ⟨#[]⟩, .int .i64 2]) (by simp [results, Tryd.results34, go_sem]) rfl ⟨_, 2, rfl, Or.inl ⟨h1, rfl, rfl⟩, HB2.out⟩
  obtain ⟨x, hq, hx⟩ := hrn
  have hnl := la h1
  rcases hx with ⟨hlt, hxv⟩ | ⟨hge, _⟩
  case inr => omega
  have HXV := Lib.hid hxv
  have HQ := Lib.hid (hq.later HV2.out (Nat.le_refl _))
  have H1 := Lib.hid (And.intro h1 hlt)
  have HXL : Hid (x.natAbs + 1 < Lim) := Lib.hid (by rw [hxv, valT_abs]; exact hnl)
  obtain ⟨_, _, _, _, ea, hna, hsa⟩ := hq.view
  simp only [numR, Value.agg.injEq, Array.mk.injEq, List.cons.injEq, Value.slice.injEq, Value.bool.injEq] at ea
  obtain ⟨rfl, ⟨rfl, rfl, rfl⟩, -⟩ := ea
  have HNA := Lib.hid (hna.later HV2.out (Nat.le_refl _))
  clear hq hlt hxv hnl la h1 hna hsa
  obtain ⟨b, HBA⟩ : ∃ b : Nat, Hid (x.natAbs = b) := ⟨_, Lib.hid rfl⟩
  have HQA : Hid (Qn 0 V2 (numR false (.slice ao nn cap)) ((b : Nat) : Int)) := Lib.hid ⟨ao, nn, cap, by rw [decide_eq_false (by omega : ¬ ((b : Nat) : Int) < 0)], by rw [Int.natAbs_natCast, ← HBA.out]; exact HNA.out.mono (Nat.zero_le _)⟩
  go_wp2_with (first | (go_at_call 83; (with_reducible refine (ref_num_any _ _ _ _ _).mono ?_); rintro e w3 ⟨rfl, hb3⟩; have HB3 := Lib.hid hb3; clear hb3) | (go_at_call 61; (with_reducible refine (ref_told_nil (HQA.out.later HB3.out (Nat.le_refl _))).mono ?_); rintro e w4 ⟨rfl, hb4⟩; have HB4 := Lib.hid hb4; clear hb4))
  exact bodyPost_ret (v := .tuple #[.string (toldS ((b : Nat) : Int)), .int .i64 (toldE ((b : Nat) : Int))]) (by simp [results, Tryd.results34, go_sem]) rfl ⟨_, _, rfl, Or.inr (Or.inr ⟨H1.out.1, H1.out.2, by rw [← HXV.out, ← HBA.out], by rw [← HXV.out, ← HBA.out]⟩), (HB2.out.trans (HB3.out.mono HB2.out.size)).trans (HB4.out.mono (Nat.le_trans HB2.out.size HB3.out.size))⟩
end Go.Proofs.YtkpoegdcmnjedaaDoor
namespace Go.Proofs.YtkpoegdcmnjedaaDoor
open Go.RowKit
set_option linter.unusedVariables false
set_option linter.unusedSimpArgs false

/-! ### the reference's Not -/
set_option maxRecDepth 100000 in
set_option maxHeartbeats 8000000 in
theorem ref_not_any (s : ByteArray) (W : World) (hs : s.size ≤ 400000) (la : IsNum s → natT s + 1 < Lim) : Calls Tryd.prog 36 #[.string s] W (OneQ (fun x => -x + -1) s W) := by
  go_enter Tryd.func36, Tryd.ntmps36
  go_wp2_with fail
  refine (ref_one_any s _ (by omega)).mono ?_
  rintro e w2 ⟨m, ao, nn, cap, er, rfl, hd, hb⟩
  obtain ⟨V2, hV2, hbx, vb2, vs2⟩ := box2_new w2 (.bool m) (.slice ao nn cap)
  have HB2 := Lib.hid (hb.trans (vb2.mono hb.size))
  have FX := Lib.hid hbx
  have HV2 := Lib.hid vb2
  obtain ⟨x0, x1, -, -⟩ := FX.out
  clear hb
  go_upto_region 2 with (fail)
  rw [← hV2]
  clear hV2 hbx vb2 vs2
  rcases hd with ⟨h1, rfl⟩ | ⟨h1, rfl, hrn⟩
  · clear la
    go_wp2
    exact bodyPost_ret (v := .tuple #[.string ⟨#[]⟩, .int .i64 2]) (by simp [results, Tryd.results36, go_sem]) rfl ⟨_, 2, rfl, Or.inl ⟨h1, rfl, rfl⟩, HB2.out⟩
  obtain ⟨x, hq, hx⟩ := hrn
  have hnl := la h1
  rcases hx with ⟨hlt, hxv⟩ | ⟨hge, _⟩
  case inr => omega
  have HXV := Lib.hid hxv
  have HQ := Lib.hid (hq.later HV2.out (Nat.le_refl _))
  have H1 := Lib.hid (And.intro h1 hlt)
  have HXL : Hid (x.natAbs + 1 < Lim) := Lib.hid (by rw [hxv, valT_abs]; exact hnl)
  obtain ⟨_, _, _, _, ea, hna, hsa⟩ := hq.view
  simp only [numR, Value.agg.injEq, Array.mk.injEq, List.cons.injEq, Value.slice.injEq, Value.bool.injEq] at ea
  obtain ⟨rfl, ⟨rfl, rfl, rfl⟩, -⟩ := ea
  have HNA := Lib.hid (hna.later HV2.out (Nat.le_refl _))
  clear hq hlt hxv hnl la h1 hna hsa
  obtain ⟨_, _, _, _, ez, _, hsz⟩ := HQ.out.view
  clear ez
  have HOP : Hid (∀ w', Below V2.heap.size V2 w' → Calls Tryd.prog 68 #[numR m (.slice ao nn cap)] w' fun e W' => ∃ v, e = .returned v ∧ Qn 0 W' v (-x) ∧ Below V2.heap.size V2 W' ∧ Below w'.heap.size w' W') := Lib.hid fun w' hb => (ref_opposite_any (HQ.out.later hb (Nat.le_refl _))).mono fun e W' ⟨⟨v, he, hq⟩, hb2⟩ => ⟨v, he, hq.mono (Nat.zero_le _), hb.trans (hb2.mono hb.size), hb2⟩
  have HWH : Hid (∀ w', Below V2.heap.size V2 w' → Calls Tryd.prog 85 #[.int .i64 (-1)] w' fun e W' => ∃ v, e = .returned v ∧ Qn 0 W' v (-1) ∧ Below V2.heap.size V2 W' ∧ Below w'.heap.size w' W') := Lib.hid fun w' hb => (ref_whole_any (-1) w' (by decide) (by decide)).mono fun e W' ⟨⟨v, he, hq⟩, hb2⟩ => ⟨v, he, hq.mono (Nat.zero_le _), hb.trans (hb2.mono hb.size), hb2⟩
  have HNX : Hid (nt x.natAbs ≤ 1000000) := Lib.hid (Nat.le_trans (nt_lim'.2 (by have := HXL.out; omega)) (by decide))
  have HPL : Hid (∀ w' va vb, Below V2.heap.size V2 w' → Qn 0 w' va (-x) → Qn 0 w' vb (-1) → Calls Tryd.prog 66 #[va, vb] w' fun e W' => ∃ v, e = .returned v ∧ Qn 0 W' v (-x + -1) ∧ Below V2.heap.size V2 W' ∧ Below w'.heap.size w' W') := Lib.hid fun w' va vb hb ha hc => (ref_Plus_any ha hc (by rw [Int.natAbs_neg]; exact HNX.out) (by decide +kernel)).mono fun e W' ⟨⟨v, he, hq⟩, hb2⟩ => ⟨v, he, hq.mono (Nat.zero_le _), hb.trans (hb2.mono hb.size), hb2⟩
  have HTL : Hid (∀ w' v g, Below V2.heap.size V2 w' → Qn 0 w' v (-x + -1) → Box2 g (.bool (m)) (.slice ao nn cap) w' → Calls Tryd.prog 61 #[v, .slice (some ⟨g, 0, none⟩) 1 1] w' fun e W' => e = .returned (.tuple #[.string (toldS (-x + -1)), .int .i64 (toldE (-x + -1))]) ∧ Below V2.heap.size V2 W') := Lib.hid fun w' v g hb hv hg => by
    have h1 : (-x + -1).natAbs < Lim := by have := HXL.out; omega
    obtain ⟨t1, t2⟩ := told_small h1
    rw [t1, t2]
    exact (ref_told_one hv (HQ.out.later hb (Nat.le_refl _)) hg h1 (by have := HXL.out; omega)).mono fun e W' ⟨he, hb2⟩ => ⟨he, hb.trans (hb2.mono hb.size)⟩
  have HEND : Hid (∀ W', Below V2.heap.size V2 W' → OneQ (fun x => -x + -1) s W (.returned (.tuple #[.string (toldS (-x + -1)), .int .i64 (toldE (-x + -1))])) W') := Lib.hid fun W' hb => ⟨_, _, rfl, Or.inr (Or.inr ⟨H1.out.1, H1.out.2, by rw [← HXV.out], by rw [← HXV.out]⟩), HB2.out.trans (hb.mono HB2.out.size)⟩
  obtain ⟨g2, hg2⟩ : ∃ g, g = w2.heap.size := ⟨_, rfl⟩
  rw [← hg2] at FX ⊢
  clear x0 x1 hg2 HXV HQ H1 HXL HNA HNX hsz
  obtain ⟨x0, x1, -, -⟩ := FX.out
  go_upto_region 4 with (fail)
  go_region_held3 (fun w' => (w'.cell? ⟨g2, 0, none⟩ = some (.bool m) ∧ w'.cell? ⟨g2, 1, none⟩ = some (.slice ao nn cap))) (exact two_cells (FX.out.after (by (repeat (first | exact HD.out | exact HC.out | exact HB.out | exact HA.out | exact Below.refl _ _ | (refine Below.alloc ?_ (by first | exact Nat.le_refl _ | exact HC.out.size | exact HB.out.size | exact HA.out.size) _) | refine Below.drew ?_))))) (first
   | (go_at_call 68; (with_reducible refine (HOP.out _ ?_).mono ?_); (focus (repeat (first | exact HD.out | exact HC.out | exact HB.out | exact HA.out | exact Below.refl _ _ | (refine Below.alloc ?_ (by first | exact Nat.le_refl _ | exact HC.out.size | exact HB.out.size | exact HA.out.size) _) | refine Below.drew ?_))); rintro e wa ⟨va, rfl, hqa, hba, hbwa⟩; have HA := Lib.hid hba; have HQA := Lib.hid hqa; (try (have HQB2 := Lib.hid (HQB.out.later (k := wb.heap.size) (W' := wa) (by (first | exact hbwa | exact undrew hbwa | exact ((Below.refl _ _).alloc (Nat.le_refl _) _).trans (hbwa.mono (by simp)) | exact undrew (((Below.refl _ _).alloc (Nat.le_refl _) _).trans (hbwa.mono (by simp))))) (Nat.le_refl _)))); (try (have FY := Lib.hid (FY.out.after hbwa))); (try (have FY := Lib.hid ((Box2.of (heap_alloc_new _ _)).after hbwa))); (try (have FY := Lib.hid ((Box2.of (heap_alloc_new _ _)).after (undrew hbwa)))); clear hqa hba hbwa)
   | (go_at_call 85; (with_reducible refine (HWH.out _ ?_).mono ?_); (focus (repeat (first | exact HD.out | exact HC.out | exact HB.out | exact HA.out | exact Below.refl _ _ | (refine Below.alloc ?_ (by first | exact Nat.le_refl _ | exact HC.out.size | exact HB.out.size | exact HA.out.size) _) | refine Below.drew ?_))); rintro e wb ⟨vb, rfl, hqb, hbb, hbwb⟩; have HB := Lib.hid hbb; have HQB := Lib.hid hqb; (try (have HQA2 := Lib.hid (HQA.out.later (k := wa.heap.size) (W' := wb) (by (first | exact hbwb | exact undrew hbwb | exact ((Below.refl _ _).alloc (Nat.le_refl _) _).trans (hbwb.mono (by simp)) | exact undrew (((Below.refl _ _).alloc (Nat.le_refl _) _).trans (hbwb.mono (by simp))))) (Nat.le_refl _)))); (try (have FY := Lib.hid (FY.out.after hbwb))); (try (have FY := Lib.hid ((Box2.of (heap_alloc_new _ _)).after hbwb))); (try (have FY := Lib.hid ((Box2.of (heap_alloc_new _ _)).after (undrew hbwb)))); clear hqb hbb hbwb)
   | (go_at_call 66; (first | with_reducible refine (HPL.out _ _ _ ?_ (HQA.out.later (Below.refl _ _) (Nat.le_refl _)) (HQB2.out.later (Below.refl _ _) (Nat.le_refl _))).mono ?_ | with_reducible refine (HPL.out _ _ _ ?_ (HQA2.out.later (Below.refl _ _) (Nat.le_refl _)) (HQB.out.later (Below.refl _ _) (Nat.le_refl _))).mono ?_ | with_reducible refine (HPL.out _ _ _ ?_ (HQA.out.later ((Below.refl _ _).alloc (Nat.le_refl _) _) (Nat.le_refl _)) (HQB2.out.later ((Below.refl _ _).alloc (Nat.le_refl _) _) (Nat.le_refl _))).mono ?_ | with_reducible refine (HPL.out _ _ _ ?_ (HQA2.out.later ((Below.refl _ _).alloc (Nat.le_refl _) _) (Nat.le_refl _)) (HQB.out.later ((Below.refl _ _).alloc (Nat.le_refl _) _) (Nat.le_refl _))).mono ?_); (focus (repeat (first | exact HD.out | exact HC.out | exact HB.out | exact HA.out | exact Below.refl _ _ | (refine Below.alloc ?_ (by first | exact Nat.le_refl _ | exact HC.out.size | exact HB.out.size | exact HA.out.size) _) | refine Below.drew ?_))); rintro e wc ⟨vc, rfl, hqc, hbc, hbwc⟩; have HC := Lib.hid hbc; have HQC := Lib.hid hqc; (try (have FY := Lib.hid (FY.out.after hbwc))); (try (have FY := Lib.hid ((Box2.of (heap_alloc_new _ _)).after hbwc))); (try (have FY := Lib.hid ((Box2.of (heap_alloc_new _ _)).after (undrew hbwc)))); clear hqc hbc hbwc)
   | (go_at_call 61; (first | with_reducible refine (HTL.out _ _ _ ?_ HQC.out FY.out).mono ?_ | with_reducible refine (HTL.out _ _ _ ?_ (HQC.out.later ((Below.refl _ _).alloc (Nat.le_refl _) _) (Nat.le_refl _)) (Box2.of (heap_alloc_new _ _))).mono ?_); (focus (repeat (first | exact HD.out | exact HC.out | exact HB.out | exact HA.out | exact Below.refl _ _ | (refine Below.alloc ?_ (by first | exact Nat.le_refl _ | exact HC.out.size | exact HB.out.size | exact HA.out.size) _) | refine Below.drew ?_))); rintro e wd ⟨rfl, hbd⟩; have HD := Lib.hid hbd; clear hbd))
  all_goals
    go_wp2
    exact bodyPost_ret (v := .tuple #[.string (toldS (-x + -1)), .int .i64 (toldE (-x + -1))]) (by simp [results, Tryd.results36, go_sem]) rfl (HEND.out _ HD.out)
end Go.Proofs.YtkpoegdcmnjedaaDoor
namespace Go.Proofs.YtkpoegdcmnjedaaDoor
open Go.RowKit
set_option linter.unusedVariables false
set_option linter.unusedSimpArgs false

/-! ### Int of the reference -/
theorem pow63 : ((2 ^ 63 : Nat) : Int) = 9223372036854775808 := by decide +kernel
theorem two63 (w : World) : Calls Tryd.prog 96 #[.int .i64 63] w fun e W' => (∃ v, e = .returned v ∧ Qn (w.heap.size + 1) W' v 9223372036854775808) ∧ Below w.heap.size w W' := by
  have h := ref_two_any 63 (by decide) w
  rw [pow63] at h
  exact h
theorem nt63 : nt ((9223372036854775808 : Int)).natAbs ≤ 1000000 := by decide +kernel
theorem nt63n : nt ((-9223372036854775808 : Int)).natAbs ≤ 1000000 := by decide +kernel
theorem val_drop_le {b : Nat} (l : List Nat) (k : Nat) (hb : 0 < b) (hk : k ≤ l.length) : val b (l.drop k) ≤ val b l := by
  rw [val_cut l hk]
  have := Nat.le_mul_of_pos_left (val b (l.drop k)) (Nat.pow_pos (n := k) hb)
  omega
set_option maxRecDepth 100000 in
set_option maxHeartbeats 4000000 in
theorem ref_int_any (s : ByteArray) (W : World) (hs : s.size ≤ 400000) (la : IsNum s → natT s < Lim) : Calls Tryd.prog 42 #[.string s] W (InQ s W) := by
  go_enter Tryd.func42, Tryd.ntmps42
  go_wp2_with fail
  refine (ref_one_any s _ (by omega)).mono ?_
  rintro e w2 ⟨m, ao, nn, cap, er, rfl, hd, hb⟩
  obtain ⟨V2, hV2, hbx, vb2, vs2⟩ := box2_new w2 (.bool m) (.slice ao nn cap)
  have HB2 := Lib.hid (hb.trans (vb2.mono hb.size))
  have FX := Lib.hid hbx
  have HV2 := Lib.hid vb2
  obtain ⟨x0, x1, -, -⟩ := FX.out
  clear hb
  go_upto_region 2 with (fail)
  rw [← hV2]
  clear hV2 hbx vb2 vs2
  rcases hd with ⟨h1, rfl⟩ | ⟨h1, rfl, hrn⟩
  · clear la
    go_wp2
    exact bodyPost_ret (v := .tuple #[.int .i64 0, .int .i64 2]) (by simp [results, Tryd.results42, go_sem]) rfl ⟨0, 2, rfl, Or.inl ⟨h1, rfl, rfl⟩, HB2.out⟩
  obtain ⟨x, hq, hx⟩ := hrn
  have hnl := la h1
  rcases hx with ⟨hlt, hxv⟩ | ⟨hge, _⟩
  case inr => omega
  have HNX : Hid (nt x.natAbs ≤ 1000000) := Lib.hid (by rw [hxv, valT_abs]; exact Nat.le_trans (nt_lim'.2 hnl) (by decide))
  have HQ : Hid (∀ (r er : Int) (W' : World), ((¬ (-9223372036854775808 ≤ x ∧ x < 9223372036854775808) ∧ r = 0 ∧ er = 7) ∨ ((-9223372036854775808 ≤ x ∧ x < 9223372036854775808) ∧ r = x ∧ er = 0)) → Below W.heap.size W W' → InQ s W (.returned (.tuple #[.int .i64 r, .int .i64 er])) W') := Lib.hid fun r er W' h hw => by
    refine ⟨r, er, rfl, ?_, hw⟩
    rw [← hxv]
    rcases h with h | h
    · exact Or.inr (Or.inl ⟨h1, h⟩)
    · exact Or.inr (Or.inr ⟨h1, h⟩)
  obtain ⟨_, _, _, _, ea, hna, hsa⟩ := hq.view
  simp only [numR, Value.agg.injEq, Array.mk.injEq, List.cons.injEq, Value.slice.injEq, Value.bool.injEq] at ea
  obtain ⟨rfl, ⟨rfl, rfl, rfl⟩, -⟩ := ea
  have HS := Lib.hid hsa.out
  have HX := Lib.hid (hq.later HV2.out (Nat.le_refl _))
  have HNA := Lib.hid (hna.later HV2.out (Nat.le_refl _))
  have HLN : Hid (nn = nt x.natAbs) := Lib.hid hna.len
  clear hq hlt hxv hnl la h1 hna hsa
  go_upto_region 4 with (fail)
  go_upto_region 5 with (first | (go_at_call 96; (with_reducible refine (two63 _).mono ?_); rintro e w3 ⟨⟨v3, rfl, hm3⟩, hb3⟩; have HM3 := Lib.hid hm3; have HB3 := Lib.hid hb3; clear hm3 hb3) | (go_at_call 68; (with_reducible refine (ref_opposite_any HM3.out).mono ?_); rintro e w4 ⟨⟨v4, rfl, hm4⟩, hb4⟩; obtain ⟨m4, a4, n4, p4, rfl, _, _⟩ := hm4.view; have HM4 := Lib.hid hm4; have HB4 := Lib.hid (HB3.out.trans (hb4.mono HB3.out.size)); clear hm4 hb4))
  obtain ⟨wL, hwL, hbx6, hb6, hs6⟩ := box2_new w4 (.bool m4) (.slice a4 n4 p4)
  rw [← hwL]
  obtain ⟨g6, hg6⟩ : ∃ g, g = w4.heap.size := ⟨_, rfl⟩
  rw [← hg6] at hbx6 ⊢
  have G6 := Lib.hid hbx6
  have HBL := Lib.hid (HB4.out.trans (hb6.mono HB4.out.size))
  have HM6 := Lib.hid (HM4.out.later hb6 (Nat.le_refl _))
  have HX6 := Lib.hid (HX.out.later HBL.out (Nat.le_refl _))
  have HN6 := Lib.hid (HNA.out.later HBL.out (Nat.le_refl _))
  have G4 := Lib.hid (FX.out.after HBL.out)
  have HWL : Hid (Below W.heap.size W wL) := Lib.hid (HB2.out.trans (HBL.out.mono HB2.out.size))
  clear hwL hbx6 hb6 hs6 hg6 HM3 HB3 HM4 HB4 HX HNA x0 x1
  obtain ⟨y0, y1, -, -⟩ := G4.out
  obtain ⟨z0, z1, -, -⟩ := G6.out
  obtain ⟨c1, HC1⟩ : ∃ c, Hid (cmpZ x (-9223372036854775808) = c) := ⟨_, Lib.hid rfl⟩
  obtain ⟨c2, HC2⟩ : ∃ c, Hid (cmpZ x 9223372036854775808 = c) := ⟨_, Lib.hid rfl⟩
  obtain ⟨bb, HBB⟩ : ∃ bb, Hid (decide (¬ (-9223372036854775808 ≤ x ∧ x < 9223372036854775808)) = bb) := ⟨_, Lib.hid rfl⟩
  go_cut [28] from 19 to 28 (fun q28 wx => q28 = .bool bb ∧ Hid (Below wL.heap.size wL wx))
  case first =>
    by_cases hlo : x < -9223372036854775808
    · have hc1 : c1 = -1 := by rw [← HC1.out]; unfold cmpZ; rw [if_pos hlo]
      have HT : Hid (true = bb) := Lib.hid (by rw [← HBB.out]; symm; exact decide_eq_true (by omega))
      clear hlo
      subst hc1
      go_region_with ((go_at_call 72; (with_reducible refine (ref_order72_any (HX6.out.later (Below.drew (Below.refl _ _)) (Nat.le_refl _)) (HM6.out.later (Below.drew (Below.refl _ _)) (Nat.le_refl _)) HNX.out nt63n).mono ?_); rw [HC1.out]; rintro e w8 ⟨rfl, hb8⟩; have HW8 := Lib.hid (undrew hb8); obtain ⟨p0, p1, -, -⟩ := G4.out.after HW8.out; clear hb8))
      all_goals
        go_wp2
        go_meet
        exact ⟨congrArg Value.bool HT.out, HW8⟩
    have hc1 : c1 = 0 ∨ c1 = 1 := by
      rw [← HC1.out]; unfold cmpZ; rw [if_neg hlo]; split
      · right; rfl
      · left; rfl
    by_cases hhi : 9223372036854775808 ≤ x
    · have hc2 : 0 ≤ c2 := by rw [← HC2.out]; unfold cmpZ; rw [if_neg (by omega)]; split <;> decide
      have HT : Hid (true = bb) := Lib.hid (by rw [← HBB.out]; symm; exact decide_eq_true (by omega))
      clear hlo hhi
      rcases hc1 with rfl | rfl
      all_goals
        go_region_with (first | (go_at_call 72; (with_reducible refine (ref_order72_any (HX6.out.later (Below.drew (Below.refl _ _)) (Nat.le_refl _)) (HM6.out.later (Below.drew (Below.refl _ _)) (Nat.le_refl _)) HNX.out nt63n).mono ?_); rw [HC1.out]; rintro e w8 ⟨rfl, hb8⟩; have HW8 := Lib.hid (undrew hb8); obtain ⟨p0, p1, -, -⟩ := G4.out.after HW8.out; clear hb8) | (go_at_call 96; (with_reducible refine (two63 _).mono ?_); rintro e w9 ⟨⟨v9, rfl, hm9⟩, hb9⟩; have HM9 := Lib.hid hm9; have HW9 := Lib.hid (HW8.out.trans (hb9.mono HW8.out.size)); obtain ⟨q0, q1, -, -⟩ := G4.out.after HW9.out; clear hm9 hb9) | (go_at_call 72; (with_reducible refine (ref_order72_any (HX6.out.later HW9.out (Nat.le_refl _)) HM9.out HNX.out nt63).mono ?_); rw [HC2.out]; rintro e w10 ⟨rfl, hb10⟩; have HW10 := Lib.hid (HW9.out.trans (hb10.mono HW9.out.size)); clear hb10))
        all_goals
          go_wp2
          go_meet
          first | exact ⟨congrArg Value.bool HT.out, HW10⟩ | exact ⟨congrArg Value.bool ((decide_eq_true hc2).trans HT.out), HW10⟩
    · have hc2 : c2 < 0 := by rw [← HC2.out]; unfold cmpZ; rw [if_pos (by omega)]; decide
      have HT : Hid (false = bb) := Lib.hid (by rw [← HBB.out]; symm; exact decide_eq_false (by omega))
      clear hlo hhi
      rcases hc1 with rfl | rfl
      all_goals
        go_region_with (first | (go_at_call 72; (with_reducible refine (ref_order72_any (HX6.out.later (Below.drew (Below.refl _ _)) (Nat.le_refl _)) (HM6.out.later (Below.drew (Below.refl _ _)) (Nat.le_refl _)) HNX.out nt63n).mono ?_); rw [HC1.out]; rintro e w8 ⟨rfl, hb8⟩; have HW8 := Lib.hid (undrew hb8); obtain ⟨p0, p1, -, -⟩ := G4.out.after HW8.out; clear hb8) | (go_at_call 96; (with_reducible refine (two63 _).mono ?_); rintro e w9 ⟨⟨v9, rfl, hm9⟩, hb9⟩; have HM9 := Lib.hid hm9; have HW9 := Lib.hid (HW8.out.trans (hb9.mono HW8.out.size)); obtain ⟨q0, q1, -, -⟩ := G4.out.after HW9.out; clear hm9 hb9) | (go_at_call 72; (with_reducible refine (ref_order72_any (HX6.out.later HW9.out (Nat.le_refl _)) HM9.out HNX.out nt63).mono ?_); rw [HC2.out]; rintro e w10 ⟨rfl, hb10⟩; have HW10 := Lib.hid (HW9.out.trans (hb10.mono HW9.out.size)); clear hb10))
        all_goals
          go_wp2
          go_meet
          first | exact ⟨congrArg Value.bool HT.out, HW10⟩ | exact ⟨congrArg Value.bool ((decide_eq_false (Int.not_le.2 hc2)).trans HT.out), HW10⟩
  case rest =>
    obtain ⟨rfl, hbx⟩ := hcut
    have HBC := Lib.hid (HWL.out.trans (hbx.out.mono HWL.out.size))
    have G4C := Lib.hid (G4.out.after hbx.out)
    have HNC := Lib.hid (HN6.out.later hbx.out (Nat.le_refl _))
    clear y0 y1 z0 z1 hbx
    obtain ⟨y0, y1, -, -⟩ := G4C.out
    cases bb
    · have HIN : Hid (-9223372036854775808 ≤ x ∧ x < 9223372036854775808) := Lib.hid (by have := of_decide_eq_false HBB.out; omega)
      obtain ⟨l, HLL⟩ : ∃ l, Hid (digs 10 x.natAbs = l) := ⟨_, Lib.hid rfl⟩
      have HMD : Hid (N W.heap.size wc (.slice ao nn cap) l) := Lib.hid (by rw [← HLL.out]; exact HNC.out)
      have HDD : Hid (Dig 10 l) := Lib.hid (by rw [← HLL.out]; exact digs_dig (by decide) _)
      have HLE : Hid (nn = l.length) := Lib.hid (by rw [HLN.out, ← HLL.out]; rfl)
      have HVU : Hid (val 10 l = x.natAbs) := Lib.hid (by rw [← HLL.out, val_digs (by decide)])
      have hnb : nn ≤ 1000000 := by have := HLN.out; have := HNX.out; omega
      go_wp2
      go_loopw [7, 8] (fun vv iv wr => ∃ k : Nat, iv = .int .i64 ((k : Int) - 1) ∧ k ≤ nn ∧ vv = .int .i64 (if m then -((val 10 (l.drop k) : Nat) : Int) else ((val 10 (l.drop k) : Nat) : Int)) ∧ wc = wr) (fun _ iv _ => (intOf iv + 1).toNat)
      case atStart => exact ⟨nn, rfl, Nat.le_refl _, by rw [List.drop_of_length_le (by have := HLE.out; omega), val_nil]; cases m <;> rfl, rfl⟩
      case round =>
        obtain ⟨k, rfl, hk, rfl, rfl⟩ := hrel
        cases k with
        | zero =>
          have e0 : (((0 : Nat) : Int) - 1) = -1 := by omega
          rw [e0, List.drop_zero, HVU.out]
          have hxx : (if m = true then -((x.natAbs : Nat) : Int) else ((x.natAbs : Nat) : Int)) = x := by
            by_cases h : x < 0
            · rw [HS.out, decide_eq_true h, if_pos rfl]; omega
            · rw [HS.out, decide_eq_false h, if_neg (by decide)]; omega
          rw [hxx]
          go_wp2
          exact bodyPost_ret (v := .tuple #[.int .i64 x, .int .i64 0]) (by simp [results, Tryd.results42, go_sem]) rfl (HQ.out _ _ _ (Or.inr ⟨HIN.out, rfl, rfl⟩) HBC.out)
        | succ j =>
          have ej : (((j + 1 : Nat) : Int) - 1) = (j : Int) := by omega
          rw [ej]
          have hjl : j < l.length := by have := HLE.out; omega
          obtain ⟨g, rfl, _, _⟩ := HMD.out.block (show 0 < nn by omega)
          have hc := HMD.out.cell hjl
          have hd := HDD.out j
          have hst := drop_step (b := 10) hjl
          have hle := val_drop_le (b := 10) l j (by decide) (Nat.le_of_lt hjl)
          rw [HVU.out] at hle
          obtain ⟨T, HT⟩ : ∃ T, Hid (val 10 (l.drop (j + 1)) = T) := ⟨_, Lib.hid rfl⟩
          obtain ⟨d, HD⟩ : ∃ d, Hid (dg l j = d) := ⟨_, Lib.hid rfl⟩
          rw [HT.out, HD.out] at hst
          rw [hst] at hle
          rw [HD.out] at hc hd
          have HST := Lib.hid hst
          rw [HT.out]
          clear hst
          cases m
          · have hx0 : 0 ≤ x := by have h := HS.out; refine Int.not_lt.1 fun c => ?_; rw [decide_eq_true c] at h; cases h
            have hb1 : d + 10 * T ≤ 9223372036854775807 := by have := HIN.out; omega
            clear hle hx0
            go_wp2
            go_roundw
            case rel => exact ⟨j, by go_num, by omega, by rw [HST.out, if_neg (by decide)]; congr 1; omega, trivial⟩
            case measure => simp [intOf]
          · have hx0 : x < 0 := by have h := HS.out; exact of_decide_eq_true h.symm
            have hb1 : d + 10 * T ≤ 9223372036854775808 := by have := HIN.out; omega
            clear hle hx0
            go_wp2
            go_roundw
            case rel => exact ⟨j, by go_num, by omega, by rw [HST.out]; congr 1; omega, trivial⟩
            case measure => simp [intOf]
    · have HOUT : Hid (¬ (-9223372036854775808 ≤ x ∧ x < 9223372036854775808)) := Lib.hid (of_decide_eq_true HBB.out)
      go_wp2
      exact bodyPost_ret (v := .tuple #[.int .i64 0, .int .i64 7]) (by simp [results, Tryd.results42, go_sem]) rfl (HQ.out _ _ _ (Or.inl ⟨HOUT.out, rfl, rfl⟩) HBC.out)
end Go.Proofs.YtkpoegdcmnjedaaDoor
namespace Go.Proofs.YtkpoegdcmnjedaaDoor
open Go.RowKit
set_option linter.unusedVariables false
set_option linter.unusedSimpArgs false
/-- the table of the powers of ten is laid. -/
def Tab (W : World) : Prop := Lib.TabIs Tryd.prog W "internal/strconv.uint64pow10" .u64 Lib.pow10Tab
theorem Tab.after {W W' : World} (h : Tab W) (hb : Below W.heap.size W W') : Tab W' := Lib.tabBelow_of_tabIs h W' hb
theorem tab_of {W : World} {r : List (String × DataW Unit)} (h : laidMet Tryd.prog (("math/bits.deBruijn32tab", Rows.laid_math_bits_deBruijn32tab) :: ("math/bits.deBruijn64tab", Rows.laid_math_bits_deBruijn64tab) :: ("internal/strconv.uint64pow10", Rows.laid_internal_strconv_uint64pow10) :: r) W) : Tab W :=
  Lib.tabIs_of_head (g := 0) (t := 144) (e := 90) (n := 20) (k := .u64) (zs := Lib.pow10Tab) (rest := r) (by kernel_rfl) (by kernel_rfl) Tryd.underlying144 Tryd.underlying90 (by kernel_rfl) (by kernel_rfl) h.tail.tail
theorem itoa_any (n : Int) (h0 : -9223372036854775808 ≤ n) (h1 : n ≤ 9223372036854775807) (w : World) (ht : Tab w) : Calls Tryd.prog 97 #[.int .i64 n] w fun e w' => e = .returned (.string ⟨(Lib.itoa n).toArray⟩) ∧ Below w.heap.size w w' :=
  (Tryd.strconv_Itoa n h0 h1 w ht).mono fun e w' ⟨he, k, os, hw⟩ => ⟨he, by rw [hw]; exact Lib.below_grow _ _ (Nat.le_refl _) _ _⟩
set_option maxRecDepth 100000 in
theorem of_any (n : Int) (h0 : -9223372036854775808 ≤ n) (h1 : n ≤ 9223372036854775807) (W : World) (ht : Tab W) : Calls Tryd.prog 43 #[.int .i64 n] W fun e W' => e = .returned (.string ⟨(Lib.itoa n).toArray⟩) ∧ Below W.heap.size W W' := by
  go_enter Tryd.func43, Tryd.ntmps43
  go_wp2_with fail
  refine (itoa_any n h0 h1 _ ht).mono ?_
  rintro e w1 ⟨rfl, hb1⟩
  go_wp2
  exact bodyPost_ret (v := .string ⟨(Lib.itoa n).toArray⟩) (by simp [results, Tryd.results43, go_sem]) rfl ⟨rfl, hb1⟩
set_option maxRecDepth 100000 in
theorem ref_of_any (n : Int) (h0 : -9223372036854775808 ≤ n) (h1 : n ≤ 9223372036854775807) (W : World) (ht : Tab W) : Calls Tryd.prog 44 #[.int .i64 n] W fun e W' => e = .returned (.string ⟨(Lib.itoa n).toArray⟩) ∧ Below W.heap.size W W' := by
  go_enter Tryd.func44, Tryd.ntmps44
  go_wp2_with fail
  refine (itoa_any n h0 h1 _ ht).mono ?_
  rintro e w1 ⟨rfl, hb1⟩
  go_wp2
  exact bodyPost_ret (v := .string ⟨(Lib.itoa n).toArray⟩) (by simp [results, Tryd.results44, go_sem]) rfl ⟨rfl, hb1⟩
end Go.Proofs.YtkpoegdcmnjedaaDoor
namespace Go.Proofs.YtkpoegdcmnjedaaDoor
open Go.RowKit
set_option linter.unusedVariables false
set_option linter.unusedSimpArgs false

/-! ### BigSigns -/
theorem lim_120 : 16 ^ 120 + 1 < Lim := by unfold Lim; decide +kernel
theorem lim_120T : ∀ T : Nat, T = 120 → 16 ^ T + 1 < Lim := by rintro T rfl; exact lim_120
theorem natT_120 {s : ByteArray} (h : IsNum s) (hs : s.size ≤ 120) : natT s + 1 < Lim := by
  obtain ⟨T, hT⟩ : ∃ T : Nat, T = 120 := ⟨_, rfl⟩
  have h1 : natT s < pbs s ^ (pds s).size := rd_lt _ h.2
  have h2 : pbs s ≤ 16 := by
    rcases pbase_cases (pbody (ptext s)) with h | h | h | h <;> (unfold pbs; omega)
  have h3 : (pds s).size ≤ T := by
    have := ptext_size s
    have k1 : (pbody (ptext s)).size ≤ (ptext s).size := by
      unfold pbody; split
      · rw [ByteArray.size_extract]; omega
      · exact Nat.le_refl _
    have k2 : (pdig (pbody (ptext s))).size ≤ (pbody (ptext s)).size := by
      unfold pdig; split
      · exact Nat.le_refl _
      · rw [ByteArray.size_extract]; omega
    show (pdig (pbody (ptext s))).size ≤ T
    omega
  have h4 : pbs s ^ (pds s).size ≤ 16 ^ (pds s).size := Nat.pow_le_pow_left h2 _
  have h5 : 16 ^ (pds s).size ≤ 16 ^ T := Nat.pow_le_pow_right (by decide) h3
  have h6 := lim_120T T hT
  omega
theorem RtQ.det {s : ByteArray} {W W' W1 W1' : World} {r r' : ByteArray} {er er' : Int} (h : RtQ s W (.returned (.tuple #[.string r, .int .i64 er])) W') (h' : RtQ s W1 (.returned (.tuple #[.string r', .int .i64 er'])) W1') : r = r' ∧ er = er' := by
  obtain ⟨x, ex, e1, h1, _⟩ := h
  obtain ⟨y, ey, e2, h2, _⟩ := h'
  simp only [Ending.returned.injEq, Value.tuple.injEq, Array.mk.injEq, List.cons.injEq, Value.string.injEq, Value.int.injEq, and_true, true_and] at e1 e2
  obtain ⟨rfl, rfl⟩ := e1
  obtain ⟨rfl, rfl⟩ := e2
  rcases h1 with ⟨a1, b1, c1⟩ | ⟨a1, d1, b1, c1⟩ | ⟨a1, d1, b1, c1⟩ <;> rcases h2 with ⟨a2, b2, c2⟩ | ⟨a2, d2, b2, c2⟩ | ⟨a2, d2, b2, c2⟩ <;>
    first
    | exact absurd a2 a1
    | exact absurd a1 a2
    | exact absurd d1 d2
    | exact absurd d2 d1
    | (with_reducible exact ⟨b1.trans b2.symm, c1.trans c2.symm⟩)
    | omega
    | (obtain ⟨t1, t2, t3, t4⟩ := b1
       obtain ⟨u1, u2, u3, u4⟩ := b2
       exact ⟨by rw [t4, u4, root_uniq t2 t3 u2 u3], c1.trans c2.symm⟩)
theorem SgQ.det {s : ByteArray} {W W' W1 W1' : World} {r r' : Int} {er er' : Int} (h : SgQ s W (.returned (.tuple #[.int .i64 r, .int .i64 er])) W') (h' : SgQ s W1 (.returned (.tuple #[.int .i64 r', .int .i64 er'])) W1') : r = r' ∧ er = er' := by
  obtain ⟨x, ex, e1, h1, _⟩ := h
  obtain ⟨y, ey, e2, h2, _⟩ := h'
  simp only [Ending.returned.injEq, Value.tuple.injEq, Array.mk.injEq, List.cons.injEq, Value.string.injEq, Value.int.injEq, and_true, true_and] at e1 e2
  obtain ⟨rfl, rfl⟩ := e1
  obtain ⟨rfl, rfl⟩ := e2
  rcases h1 with ⟨a1, b1, c1⟩ | ⟨a1, d1, b1, c1⟩ | ⟨a1, d1, b1, c1⟩ <;> rcases h2 with ⟨a2, b2, c2⟩ | ⟨a2, d2, b2, c2⟩ | ⟨a2, d2, b2, c2⟩ <;>
    first
    | exact absurd a2 a1
    | exact absurd a1 a2
    | exact absurd d1 d2
    | exact absurd d2 d1
    | (with_reducible exact ⟨b1.trans b2.symm, c1.trans c2.symm⟩)
    | omega
theorem InQ.det {s : ByteArray} {W W' W1 W1' : World} {r r' : Int} {er er' : Int} (h : InQ s W (.returned (.tuple #[.int .i64 r, .int .i64 er])) W') (h' : InQ s W1 (.returned (.tuple #[.int .i64 r', .int .i64 er'])) W1') : r = r' ∧ er = er' := by
  obtain ⟨x, ex, e1, h1, _⟩ := h
  obtain ⟨y, ey, e2, h2, _⟩ := h'
  simp only [Ending.returned.injEq, Value.tuple.injEq, Array.mk.injEq, List.cons.injEq, Value.string.injEq, Value.int.injEq, and_true, true_and] at e1 e2
  obtain ⟨rfl, rfl⟩ := e1
  obtain ⟨rfl, rfl⟩ := e2
  rcases h1 with ⟨a1, b1, c1⟩ | ⟨a1, d1, b1, c1⟩ | ⟨a1, d1, b1, c1⟩ <;> rcases h2 with ⟨a2, b2, c2⟩ | ⟨a2, d2, b2, c2⟩ | ⟨a2, d2, b2, c2⟩ <;>
    first
    | exact absurd a2 a1
    | exact absurd a1 a2
    | exact absurd d1 d2
    | exact absurd d2 d1
    | (with_reducible exact ⟨b1.trans b2.symm, c1.trans c2.symm⟩)
    | omega
set_option maxRecDepth 100000 in
set_option maxHeartbeats 8000000 in
theorem bigSigns_any (s : ByteArray) (n : Int) (W : World) (hs : s.size ≤ 9223372036854775807) (hn0 : -9223372036854775808 ≤ n) (hn1 : n ≤ 9223372036854775807) (hTab : Tab W) :
    Calls Tryd.prog 5 #[.string s, .int .i64 n] W fun e W' => e = .returned (.bool true) ∧ Below W.heap.size W W' := by
  obtain ⟨V, hV⟩ : ∃ V, V = W.alloc (Obj.cells #[.string s] 9) := ⟨_, rfl⟩
  have hv0 : V.heap[W.heap.size]? = some (.cells #[.string s] 9 (0, 0)) := by rw [hV]; exact heap_alloc_new W _
  have hT : Txs W.heap.size [s] V := ⟨by rw [hV]; simp, fun i hi => by
    have : i = 0 := by have h : i < 1 := hi; omega
    subst this
    exact (cell_of_row _ _ _ _ _ _ hv0).trans rfl⟩
  have hR := long_any 120 W.heap.size 1 [s] V hT (by show 1 ≤ 1000; decide) (fun s hs => by
    simp only [List.mem_cons, List.not_mem_nil, or_false] at hs
    subst hs; assumption) (by decide)
  obtain ⟨r, HRB⟩ : ∃ r, Hid (longB 120 [s] = r) := ⟨_, Lib.hid rfl⟩
  rw [HRB.out] at hR
  have HR : Hid (Calls Tryd.prog 11 #[.int .i64 120, .slice (some ⟨W.heap.size, 0, none⟩) 1 1] V fun e W' => e = .returned (.bool r) ∧ V = W') := Lib.hid hR
  have HVB : Hid (Below W.heap.size W V) := Lib.hid (by rw [hV]; exact (Below.refl _ _).alloc (Nat.le_refl _) _)
  have HAW : Hid (∀ w, Calls Tryd.prog 12 #[] w fun e W' => e = .returned (.bool true) ∧ Below w.heap.size w W') := Lib.hid fun w => awake_any w
  clear hR hT hv0
  cases r
  · have hall := HRB.out
    unfold longB at hall
    rw [List.any_eq_false] at hall
    have hs9 : s.size ≤ 120 := by have := hall s (by simp); simpa using this
    have la1 : IsNum s → natT s + 1 < Lim := fun h => natT_120 h hs9
    have la : IsNum s → natT s < Lim := fun h => by have := la1 h; omega
    have A1 := Lib.hid fun w => neg_any s w (by omega)
    have A2 := Lib.hid fun w => ref_neg_any s w (by omega) la1
    have A3 := Lib.hid fun w => abs_any s w (by omega)
    have A4 := Lib.hid fun w => ref_abs_any s w (by omega) la1
    have A5 := Lib.hid fun w => not_any s w (by omega)
    have A6 := Lib.hid fun w => ref_not_any s w (by omega) la1
    have A7 := Lib.hid fun w => proot_any s w (by omega) la
    have A8 := Lib.hid fun w => ref_root_any s w (by omega) la
    have A9 := Lib.hid fun w => psign_any s w (by omega) la
    have A10 := Lib.hid fun w => ref_sign_any s w (by omega)
    have A11 := Lib.hid fun w => pint_any s w (by omega) la
    have A12 := Lib.hid fun w => ref_int_any s w (by omega) la
    have HTB := Lib.hid fun W' (hb : Below W.heap.size W W') => hTab.after hb
    have A13 := Lib.hid fun w (ht : Tab w) => of_any n hn0 hn1 w ht
    have A14 := Lib.hid fun w (ht : Tab w) => ref_of_any n hn0 hn1 w ht
    clear la la1 hTab hn0 hn1
    clear hall hs hs9
    go_enter Tryd.func5, Tryd.ntmps5
    go_wp2_with fail
    rw [← hV]
    clear hV
    refine HR.out.mono ?_
    rintro e w0 ⟨rfl, rfl⟩
    have HB0 := HVB
    clear HR HVB HRB
    go_wp2_with fail
    refine (A1.out _).mono ?_
    rintro e w1 ⟨r1, er1, rfl, h1, hb1⟩
    have HQ1 : Hid (OneQ (fun x => -x) s _ (.returned (.tuple #[.string r1, .int .i64 er1])) w1) := Lib.hid ⟨r1, er1, rfl, h1, hb1⟩
    have HB1 := Lib.hid (HB0.out.trans (hb1.mono HB0.out.size))
    clear h1 hb1 HB0
    go_wp2_with fail
    refine (A2.out _).mono ?_
    rintro e w2 ⟨r2, er2, rfl, h2, hb2⟩
    have hdet := OneQ.det HQ1.out (show OneQ (fun x => -x) s _ (.returned (.tuple #[.string r2, .int .i64 er2])) w2 from ⟨r2, er2, rfl, h2, hb2⟩)
    obtain ⟨rfl, rfl⟩ := hdet
    have HB2 := Lib.hid (HB1.out.trans (hb2.mono HB1.out.size))
    clear h2 hb2 HB1 HQ1
    go_wp2_with fail
    refine (A3.out _).mono ?_
    rintro e w3 ⟨r1, er1, rfl, h1, hb1⟩
    have HQ1 : Hid (OneQ (fun x => ((x.natAbs : Nat) : Int)) s _ (.returned (.tuple #[.string r1, .int .i64 er1])) w3) := Lib.hid ⟨r1, er1, rfl, h1, hb1⟩
    have HB3 := Lib.hid (HB2.out.trans (hb1.mono HB2.out.size))
    clear h1 hb1 HB2
    go_wp2_with fail
    refine (A4.out _).mono ?_
    rintro e w4 ⟨r2, er2, rfl, h2, hb2⟩
    have hdet := OneQ.det HQ1.out (show OneQ (fun x => ((x.natAbs : Nat) : Int)) s _ (.returned (.tuple #[.string r2, .int .i64 er2])) w4 from ⟨r2, er2, rfl, h2, hb2⟩)
    obtain ⟨rfl, rfl⟩ := hdet
    have HB4 := Lib.hid (HB3.out.trans (hb2.mono HB3.out.size))
    clear h2 hb2 HB3 HQ1
    go_wp2_with fail
    refine (A5.out _).mono ?_
    rintro e w5 ⟨r1, er1, rfl, h1, hb1⟩
    have HQ1 : Hid (OneQ (fun x => -x + -1) s _ (.returned (.tuple #[.string r1, .int .i64 er1])) w5) := Lib.hid ⟨r1, er1, rfl, h1, hb1⟩
    have HB5 := Lib.hid (HB4.out.trans (hb1.mono HB4.out.size))
    clear h1 hb1 HB4
    go_wp2_with fail
    refine (A6.out _).mono ?_
    rintro e w6 ⟨r2, er2, rfl, h2, hb2⟩
    have hdet := OneQ.det HQ1.out (show OneQ (fun x => -x + -1) s _ (.returned (.tuple #[.string r2, .int .i64 er2])) w6 from ⟨r2, er2, rfl, h2, hb2⟩)
    obtain ⟨rfl, rfl⟩ := hdet
    have HB6 := Lib.hid (HB5.out.trans (hb2.mono HB5.out.size))
    clear h2 hb2 HB5 HQ1
    go_wp2_with fail
    refine (A7.out _).mono ?_
    rintro e w7 ⟨r1, er1, rfl, h1, hb1⟩
    have HQ1 : Hid (RtQ s _ (.returned (.tuple #[.string r1, .int .i64 er1])) w7) := Lib.hid ⟨r1, er1, rfl, h1, hb1⟩
    have HB7 := Lib.hid (HB6.out.trans (hb1.mono HB6.out.size))
    clear h1 hb1 HB6
    go_wp2_with fail
    refine (A8.out _).mono ?_
    rintro e w8 ⟨r2, er2, rfl, h2, hb2⟩
    have hdet := RtQ.det HQ1.out (show RtQ s _ (.returned (.tuple #[.string r2, .int .i64 er2])) w8 from ⟨r2, er2, rfl, h2, hb2⟩)
    obtain ⟨rfl, rfl⟩ := hdet
    have HB8 := Lib.hid (HB7.out.trans (hb2.mono HB7.out.size))
    clear h2 hb2 HB7 HQ1
    go_wp2_with fail
    refine (A9.out _).mono ?_
    rintro e w9 ⟨r1, er1, rfl, h1, hb1⟩
    have HQ1 : Hid (SgQ s _ (.returned (.tuple #[.int .i64 r1, .int .i64 er1])) w9) := Lib.hid ⟨r1, er1, rfl, h1, hb1⟩
    have HB9 := Lib.hid (HB8.out.trans (hb1.mono HB8.out.size))
    clear h1 hb1 HB8
    go_wp2_with fail
    refine (A10.out _).mono ?_
    rintro e w10 ⟨r2, er2, rfl, h2, hb2⟩
    have hdet := SgQ.det HQ1.out (show SgQ s _ (.returned (.tuple #[.int .i64 r2, .int .i64 er2])) w10 from ⟨r2, er2, rfl, h2, hb2⟩)
    obtain ⟨rfl, rfl⟩ := hdet
    have HB10 := Lib.hid (HB9.out.trans (hb2.mono HB9.out.size))
    clear h2 hb2 HB9 HQ1
    go_wp2_with fail
    refine (A11.out _).mono ?_
    rintro e w11 ⟨r1, er1, rfl, h1, hb1⟩
    have HQ1 : Hid (InQ s _ (.returned (.tuple #[.int .i64 r1, .int .i64 er1])) w11) := Lib.hid ⟨r1, er1, rfl, h1, hb1⟩
    have HB11 := Lib.hid (HB10.out.trans (hb1.mono HB10.out.size))
    clear h1 hb1 HB10
    go_wp2_with fail
    refine (A12.out _).mono ?_
    rintro e w12 ⟨r2, er2, rfl, h2, hb2⟩
    have hdet := InQ.det HQ1.out (show InQ s _ (.returned (.tuple #[.int .i64 r2, .int .i64 er2])) w12 from ⟨r2, er2, rfl, h2, hb2⟩)
    obtain ⟨rfl, rfl⟩ := hdet
    have HB12 := Lib.hid (HB11.out.trans (hb2.mono HB11.out.size))
    clear h2 hb2 HB11 HQ1
    go_wp2_with fail
    refine (A13.out _ (HTB.out _ HB12.out)).mono ?_
    rintro e w13 ⟨rfl, hb1⟩
    have HB13 := Lib.hid (HB12.out.trans (hb1.mono HB12.out.size))
    clear hb1
    go_wp2_with fail
    refine (A14.out _ (HTB.out _ HB13.out)).mono ?_
    rintro e w14 ⟨rfl, hb2⟩
    have HB8 := Lib.hid (HB13.out.trans (hb2.mono HB13.out.size))
    clear hb2 HB12 HB13
    go_wp2_with fail
    refine (HAW.out _).mono ?_
    rintro e w20 ⟨rfl, hb⟩
    have HB20 := Lib.hid (HB8.out.trans (hb.mono HB8.out.size))
    clear hb
    go_wp2
    go_ret
    exact ⟨rfl, HB20.out⟩
  · go_enter Tryd.func5, Tryd.ntmps5
    go_wp2_with fail
    rw [← hV]
    clear hV
    refine HR.out.mono ?_
    rintro e w2 ⟨rfl, rfl⟩
    go_wp2_with (go_at_call 12; refine (HAW.out _).mono ?_; rintro e w3 ⟨rfl, hb3⟩; have HB3 := Lib.hid hb3; clear hb3)
    go_ret
    exact ⟨rfl, HVB.out.trans (HB3.out.mono HVB.out.size)⟩
end Go.Proofs.YtkpoegdcmnjedaaDoor
