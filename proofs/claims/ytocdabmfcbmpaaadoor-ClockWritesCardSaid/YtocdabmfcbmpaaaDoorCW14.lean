import Derived.Test.YtocdabmfcbmpaaaDoorCW13
namespace Go.Proofs.YtocdabmfcbmpaaaDoor
open Go.RowKit
set_option linter.unusedVariables false
set_option linter.unusedSimpArgs false
set_option maxRecDepth 100000 in
theorem clockWrites_any (t : Int) (s : ByteArray) (w : World) (hT : Tab w) : Calls Tryd.prog 6 #[I t, .string s] w fun e w' => e = .returned (.bool true) ∧ Below w.heap.size w w' := by
  have HT := Lib.hid hT
  clear hT
  by_cases hs : s.size ≤ 200
  · obtain ⟨r, er, ho, hp⟩ := both_Write t s hs
    have H29 := Lib.hid ho
    have H30 := Lib.hid hp
    have HB : Hid (Below w.heap.size w w) := Lib.hid (Below.refl _ _)
    clear ho hp
    go_enter Tryd.func6, Tryd.ntmps6
    go_wp2_with (first | (go_at_call 29; (with_reducible refine (H29.out _ (HT.out.after HB.out)).mono ?_); rintro e W ⟨rfl, hb⟩; replace HB := Lib.hid (HB.out.trans (hb.mono HB.out.size)); clear hb) | (go_at_call 30; (with_reducible refine (H30.out _ (HT.out.after HB.out)).mono ?_); rintro e W ⟨rfl, hb⟩; replace HB := Lib.hid (HB.out.trans (hb.mono HB.out.size)); clear hb) | (go_at_call 18; (with_reducible refine (awake_any _ (HT.out.after HB.out)).mono ?_); rintro e Wz ⟨rfl, hbz⟩))
    go_ret
    exact ⟨rfl, HB.out.trans (hbz.mono HB.out.size)⟩
  · go_enter Tryd.func6, Tryd.ntmps6
    go_wp2_with (first | (go_at_call 18; (with_reducible refine (awake_any _ HT.out).mono ?_); rintro e Wz ⟨rfl, hbz⟩))
    go_ret
    exact ⟨rfl, hbz⟩
end Go.Proofs.YtocdabmfcbmpaaaDoor
