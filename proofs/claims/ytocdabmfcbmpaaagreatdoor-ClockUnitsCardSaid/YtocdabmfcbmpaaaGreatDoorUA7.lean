import Derived.Test.YtocdabmfcbmpaaaGreatDoorUA6
import Derived.Test.YtocdabmfcbmpaaaGreatDoorCD4
namespace Go.Proofs.YtocdabmfcbmpaaaGreatDoor
open Go.RowKit
set_option linter.unusedVariables false
set_option linter.unusedSimpArgs false

/-- what the last two calls tell, where Start told a time. -/
theorem stX_in {t : Int} {s : ByteArray} (h : (stX t s).2 = 0) : (stX t s).1 ≤ t ∧ stX (stX t s).1 s = ((stX t s).1, 0) ∧ btX (stX t s).1 t s = (0, 0) := by
  by_cases hi : inT' t = true
  · cases hu : unF s unitL 0 with
    | none => unfold stX at h; rw [if_pos hi, hu] at h; cases h
    | some u =>
      have hl : u < 7 := by simpa [unitL] using unF_lt s unitL 0 u hu
      have ht := inB_iff.1 hi
      have e1 : stX t s = (stI t u, 0) := by unfold stX; rw [if_pos hi, hu]
      rw [e1]
      have hb := st_bd (t := t) hl ht.1 ht.2
      have hi2 : inT' (stI t u) = true := inB_iff.2 hb
      have hle := st_le (t := t) hl
      refine ⟨hle, ?_, ?_⟩
      · unfold stX; rw [if_pos hi2, hu]; simp only; rw [st_same hl]
      · unfold btX; rw [if_pos ⟨hi2, hi⟩, hu]; simp only; rw [if_neg (by omega), st_zero hl ht.1 ht.2]
  · unfold stX at h; rw [if_neg hi] at h; cases h
set_option maxRecDepth 100000 in
set_option maxHeartbeats 4000000 in
theorem clockUnits_any (t tt n : Int) (s : ByteArray) (w : World) (hT : Tab w) (hL : LenT w) : Calls Tryz.prog 3 #[I t, I tt, I n, .string s] w fun e w' => e = .returned (.bool true) ∧ Below w.heap.size w w' := by
  have HG : Hid (∀ W, Below w.heap.size w W → LenT W) := Lib.hid fun W hb => hL.after hb
  have HTb : Hid (∀ W, Below w.heap.size w W → Tab W) := Lib.hid fun W hb => hT.after hb
  have HB : Hid (Below w.heap.size w w) := Lib.hid (Below.refl _ _)
  clear hT hL
  by_cases hs : 40 < s.size
  · have c1 : (40 : Int) < (s.size : Int) := by omega
    go_enter Tryz.func3, Tryz.ntmps3
    go_wp2_with (go_at_call 7; (with_reducible refine (awake_any _ (HTb.out _ HB.out)).mono ?_); rintro e W ⟨rfl, hb⟩; replace HB := Lib.hid (HB.out.trans (hb.mono HB.out.size)); clear hb)
    go_ret
    exact ⟨rfl, HB.out⟩
  have c1 : decide ((40 : Int) < (s.size : Int)) = false := decide_eq_false (by omega)
  have c2 : decide (40 < s.size) = false := decide_eq_false (by omega)
  have HA := Lib.hid (fun w h => Add_any t n s w h)
  have HA2 := Lib.hid (fun w => rAdd_any t n s w)
  have HK := Lib.hid (fun w h => Between_any t tt s w h)
  have HK2 := Lib.hid (fun w => rBet_any t tt s w)
  have HS := Lib.hid (fun w h => Start_any t s w h)
  have HS2 := Lib.hid (fun w => rStart_any t s w)
  have HX := Lib.hid (fun h => @stX_in t s h)
  have HS3 := Lib.hid (fun w h => Start_any (stX t s).1 s w h)
  have HK3 := Lib.hid (fun w h => Between_any (stX t s).1 t s w h)
  generalize (addX t n s).1 = av at *
  generalize (addX t n s).2 = ae at *
  generalize (btX t tt s).1 = bv at *
  generalize (btX t tt s).2 = be at *
  by_cases h0 : (stX t s).2 = 0
  · obtain ⟨hle, h1, h2⟩ := HX.out h0
    rw [h1] at HS3
    rw [h2] at HK3
    rw [h0] at HS HS2
    clear HX h1 h2 h0
    generalize (stX t s).1 = x at *
    go_enter Tryz.func3, Tryz.ntmps3
    go_wp2_with (first | (go_at_call 8; (with_reducible refine (HA.out _ (HG.out _ HB.out)).mono ?_); rintro e W ⟨rfl, hb⟩; replace HB := Lib.hid (HB.out.trans (hb.mono HB.out.size)); clear hb) | (go_at_call 9; (with_reducible refine (HA2.out _).mono ?_); rintro e W ⟨rfl, hb⟩; replace HB := Lib.hid (HB.out.trans (hb.mono HB.out.size)); clear hb) | (go_at_call 10; (with_reducible refine (HK.out _ (HG.out _ HB.out)).mono ?_); rintro e W ⟨rfl, hb⟩; replace HB := Lib.hid (HB.out.trans (hb.mono HB.out.size)); clear hb) | (go_at_call 11; (with_reducible refine (HK2.out _).mono ?_); rintro e W ⟨rfl, hb⟩; replace HB := Lib.hid (HB.out.trans (hb.mono HB.out.size)); clear hb) | (go_at_call 12; (with_reducible refine (HS.out _ (HG.out _ HB.out)).mono ?_); rintro e W ⟨rfl, hb⟩; replace HB := Lib.hid (HB.out.trans (hb.mono HB.out.size)); clear hb) | (go_at_call 13; (with_reducible refine (HS2.out _).mono ?_); rintro e W ⟨rfl, hb⟩; replace HB := Lib.hid (HB.out.trans (hb.mono HB.out.size)); clear hb) | (go_at_call 12; (with_reducible refine (HS3.out _ (HG.out _ HB.out)).mono ?_); rintro e W ⟨rfl, hb⟩; replace HB := Lib.hid (HB.out.trans (hb.mono HB.out.size)); clear hb) | (go_at_call 10; (with_reducible refine (HK3.out _ (HG.out _ HB.out)).mono ?_); rintro e W ⟨rfl, hb⟩; replace HB := Lib.hid (HB.out.trans (hb.mono HB.out.size)); clear hb) | (go_at_call 7; (with_reducible refine (awake_any _ (HTb.out _ HB.out)).mono ?_); rintro e W ⟨rfl, hb⟩; replace HB := Lib.hid (HB.out.trans (hb.mono HB.out.size)); clear hb))
    go_ret
    exact ⟨rfl, HB.out⟩
  · have hne : (((stX t s).2) == 0) = false := beq_eq_false_iff_ne.2 h0
    clear HX HS3 HK3 h0
    generalize (stX t s).1 = x at *
    generalize (stX t s).2 = xe at *
    go_enter Tryz.func3, Tryz.ntmps3
    go_wp2_with (first | (go_at_call 8; (with_reducible refine (HA.out _ (HG.out _ HB.out)).mono ?_); rintro e W ⟨rfl, hb⟩; replace HB := Lib.hid (HB.out.trans (hb.mono HB.out.size)); clear hb) | (go_at_call 9; (with_reducible refine (HA2.out _).mono ?_); rintro e W ⟨rfl, hb⟩; replace HB := Lib.hid (HB.out.trans (hb.mono HB.out.size)); clear hb) | (go_at_call 10; (with_reducible refine (HK.out _ (HG.out _ HB.out)).mono ?_); rintro e W ⟨rfl, hb⟩; replace HB := Lib.hid (HB.out.trans (hb.mono HB.out.size)); clear hb) | (go_at_call 11; (with_reducible refine (HK2.out _).mono ?_); rintro e W ⟨rfl, hb⟩; replace HB := Lib.hid (HB.out.trans (hb.mono HB.out.size)); clear hb) | (go_at_call 12; (with_reducible refine (HS.out _ (HG.out _ HB.out)).mono ?_); rintro e W ⟨rfl, hb⟩; replace HB := Lib.hid (HB.out.trans (hb.mono HB.out.size)); clear hb) | (go_at_call 13; (with_reducible refine (HS2.out _).mono ?_); rintro e W ⟨rfl, hb⟩; replace HB := Lib.hid (HB.out.trans (hb.mono HB.out.size)); clear hb) | (go_at_call 7; (with_reducible refine (awake_any _ (HTb.out _ HB.out)).mono ?_); rintro e W ⟨rfl, hb⟩; replace HB := Lib.hid (HB.out.trans (hb.mono HB.out.size)); clear hb))
    go_ret
    exact ⟨rfl, HB.out⟩
end Go.Proofs.YtocdabmfcbmpaaaGreatDoor
