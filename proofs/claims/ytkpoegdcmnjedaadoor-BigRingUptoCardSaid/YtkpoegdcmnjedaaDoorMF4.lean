import Derived.Test.YtkpoegdcmnjedaaDoorMF2
import Derived.Test.YtkpoegdcmnjedaaDoorMF3
namespace Go.Proofs.YtkpoegdcmnjedaaDoor
open Go.RowKit
set_option linter.unusedVariables false
set_option linter.unusedSimpArgs false

theorem box_new (W : World) (x0 x1 x2 x3 : Value) : ∃ V, V = W.alloc (Obj.cells #[x0, x1, x2, x3] 46) ∧ Box4 W.heap.size x0 x1 x2 x3 V ∧ Below W.heap.size W V ∧ V.heap.size = W.heap.size + 1 :=
  ⟨_, rfl, Box4.of (heap_alloc_new W _), (Below.refl _ _).alloc (Nat.le_refl _) _, by simp⟩

set_option maxRecDepth 100000 in
set_option maxHeartbeats 2000000 in
theorem written_any {K : Nat} {W : World} {v : Value} {x : Int} (h : Nm K W v x) (hK : K ≤ 100000) :
    Calls Tryd.prog 77 #[v] W fun e W' => e = .returned (.tuple #[.string (toldS x), .int .i64 (toldE x)]) ∧ Below W.heap.size W W' := by
  obtain ⟨ao, n, cap, od, rfl, hm, hn⟩ := h
  obtain ⟨V, hV, hbox, vb, vs⟩ := box_new W (.bool (decide (x < 0))) (.slice ao n cap) (.bool false) (.bool od)
  have HM := Lib.hid (hm.later vb (Nat.le_refl _))
  have HBX := Lib.hid hbox
  have HVB := Lib.hid vb
  have c0 := hbox.c0
  have c1 := hbox.c1
  have c2 := hbox.c2
  have hbN := bitsN_small (n := x.natAbs) (by omega)
  clear hm hbox vb
  by_cases hb : bitsN x.natAbs ≤ 1994
  · by_cases hl : x.natAbs < Lim
    · have hlen : (txt (textL 10 x.natAbs)).size ≤ 600 := by rw [txt_size]; exact textL_lim.2 hl
      have HS : Hid (toldS x = ren x ∧ toldE x = 0) := Lib.hid (by unfold toldS toldE; rw [if_pos hl, if_pos hl]; exact ⟨rfl, rfl⟩)
      obtain ⟨bn, HBN⟩ : ∃ t, Hid (bitsN x.natAbs = t) := ⟨_, Lib.hid rfl⟩
      have HBC : Hid (Calls Tryd.prog 81 #[.slice ao n cap] V fun e W' => e = .returned (.int .i64 (bn : Nat)) ∧ V = W') := Lib.hid (by rw [← HBN.out]; exact bits_num HM.out (by omega))
      rw [HBN.out] at hb hbN
      clear hl
      by_cases hs : x < 0
      · have hr : ren x = ⟨#[45]⟩ ++ txt (textL 10 x.natAbs) := by unfold ren; rw [if_pos hs]
        have hd : decide (x < 0) = true := by simpa using hs
        rw [hd] at c0 hV ⊢
        have HR := Lib.hid hr
        clear hr hd hs
        go_enter Tryd.func77, Tryd.ntmps77
        go_wp2_with fail
        rw [← hV]
        clear hV
        refine HBC.out.mono ?_
        rintro e V2 ⟨rfl, rfl⟩
        go_wp2_with fail
        refine (text_any 10 (by decide) (by decide) HM.out (by omega)).mono ?_
        rintro e w1 ⟨rfl, hb1⟩
        have k0 := cell_after hb1 c0
        go_wp2
        go_ret2
        refine ⟨by rw [HS.out.1, HS.out.2, HR.out]; rfl, HVB.out.trans (hb1.mono (by omega))⟩
      · have hr : ren x = txt (textL 10 x.natAbs) := by unfold ren; rw [if_neg hs]
        have hd : decide (x < 0) = false := by simpa using hs
        rw [hd] at c0 hV ⊢
        have HR := Lib.hid hr
        clear hr hd hs
        go_enter Tryd.func77, Tryd.ntmps77
        go_wp2_with fail
        rw [← hV]
        clear hV
        refine HBC.out.mono ?_
        rintro e V2 ⟨rfl, rfl⟩
        go_wp2_with fail
        refine (text_any 10 (by decide) (by decide) HM.out (by omega)).mono ?_
        rintro e w1 ⟨rfl, hb1⟩
        have k0 := cell_after hb1 c0
        go_wp2
        go_ret2
        refine ⟨by rw [HS.out.1, HS.out.2, HR.out]; rfl, HVB.out.trans (hb1.mono (by omega))⟩
    · have hlen : 600 < (txt (textL 10 x.natAbs)).size := by rw [txt_size]; exact Nat.lt_of_not_le fun h => hl (textL_lim.1 h)
      have HS : Hid (toldS x = ⟨#[]⟩ ∧ toldE x = 4) := Lib.hid (by unfold toldS toldE; rw [if_neg hl, if_neg hl]; exact ⟨rfl, rfl⟩)
      obtain ⟨bn, HBN⟩ : ∃ t, Hid (bitsN x.natAbs = t) := ⟨_, Lib.hid rfl⟩
      have HBC : Hid (Calls Tryd.prog 81 #[.slice ao n cap] V fun e W' => e = .returned (.int .i64 (bn : Nat)) ∧ V = W') := Lib.hid (by rw [← HBN.out]; exact bits_num HM.out (by omega))
      have hlm : (txt (textL 10 x.natAbs)).size ≤ 1000000000 := by
        rw [txt_size]
        exact Nat.le_trans (textL_nd 10 _ (by decide)) (by omega)
      rw [HBN.out] at hb hbN
      clear hl
      go_enter Tryd.func77, Tryd.ntmps77
      go_wp2_with fail
      rw [← hV]
      clear hV
      refine HBC.out.mono ?_
      rintro e V2 ⟨rfl, rfl⟩
      go_wp2_with fail
      refine (text_any 10 (by decide) (by decide) HM.out (by omega)).mono ?_
      rintro e w1 ⟨rfl, hb1⟩
      go_wp2
      go_ret2
      refine ⟨by rw [HS.out.1, HS.out.2]; rfl, HVB.out.trans (hb1.mono (by omega))⟩
  · have hl : ¬ x.natAbs < Lim := fun h => hb (bits_le.2 (Nat.lt_of_lt_of_le h lim_bits))
    have HS : Hid (toldS x = ⟨#[]⟩ ∧ toldE x = 4) := Lib.hid (by unfold toldS toldE; rw [if_neg hl, if_neg hl]; exact ⟨rfl, rfl⟩)
    obtain ⟨bn, HBN⟩ : ∃ t, Hid (bitsN x.natAbs = t) := ⟨_, Lib.hid rfl⟩
    have HBC : Hid (Calls Tryd.prog 81 #[.slice ao n cap] V fun e W' => e = .returned (.int .i64 (bn : Nat)) ∧ V = W') := Lib.hid (by rw [← HBN.out]; exact bits_num HM.out (by omega))
    rw [HBN.out] at hb hbN
    clear hl
    go_enter Tryd.func77, Tryd.ntmps77
    go_wp2_with fail
    rw [← hV]
    clear hV
    refine HBC.out.mono ?_
    rintro e V2 ⟨rfl, rfl⟩
    go_wp2
    go_ret2
    refine ⟨by rw [HS.out.1, HS.out.2]; rfl, HVB.out⟩
end Go.Proofs.YtkpoegdcmnjedaaDoor
