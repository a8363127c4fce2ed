import Derived.Test.YtkpoegdcmnjedaaDoorRF3
namespace Go.Proofs.YtkpoegdcmnjedaaDoor
open Go.RowKit
set_option linter.unusedVariables false
set_option linter.unusedSimpArgs false

/-- what the reference's one tells. -/
def OnR (s : ByteArray) (W : World) (e : Ending) (W' : World) : Prop :=
  ∃ m ao n cap, ∃ er : Int, e = .returned (.tuple #[numR m (.slice ao n cap), .int .i64 er]) ∧
    ((¬ IsNum s ∧ er = 2) ∨ (IsNum s ∧ er = 0 ∧ Rn W.heap.size s W' (numR m (.slice ao n cap)))) ∧ Below W.heap.size W W'
set_option maxRecDepth 100000 in
set_option maxHeartbeats 2000000 in
theorem ref_one_any (s : ByteArray) (W : World) (hs : s.size ≤ 2000000) : Calls Tryd.prog 90 #[.string s] W (OnR s W) := by
  obtain ⟨V, hV, hbox, vb, vs⟩ := box2_new W (.bool false) (.slice none 0 0)
  have HB1 := Lib.hid hbox
  have HVB := Lib.hid vb
  clear hbox vb
  go_enter Tryd.func90, Tryd.ntmps90
  go_upto_region 1 with (fail)
  rw [← hV]
  clear hV
  go_wp2_with fail
  refine (ref_Number_any s _ hs).mono ?_
  rintro e w2 hq
  obtain ⟨m1, ao1, n1, cap1, ok1, rfl, hok1, hr1, hb2⟩ := hq.read
  have HOK1 := Lib.hid hok1
  have HR1 := Lib.hid hr1
  have HBD2 := Lib.hid hb2
  clear hok1 hr1 hq hb2
  obtain ⟨V2, hV2, hbx7, vb2, vs2⟩ := box2_new w2 (.bool m1) (.slice ao1 n1 cap1)
  have HX7 := Lib.hid hbx7
  have HVB2 := Lib.hid vb2
  clear hbx7 vb2
  go_upto_region 2 with (fail)
  rw [← hV2]
  clear hV2
  have s2 := HBD2.out.size
  have HWV : Hid (Below V.heap.size V V2) := Lib.hid (HBD2.out.trans (HVB2.out.mono (by omega)))
  have HY := Lib.hid (HB1.out.after HWV.out)
  have HWW : Hid (Below W.heap.size W V2) := Lib.hid (HVB.out.trans (HWV.out.mono (by omega)))
  obtain ⟨x0, x1, x2, x3⟩ := HY.out
  obtain ⟨z0, z1, z2, z3⟩ := HX7.out
  cases ok1
  · have HN : Hid (¬ IsNum s) := Lib.hid fun h => by have := HOK1.out.2 h; cases this
    have HF := Lib.hid (HY.out.two (.bool false) (.slice none 0 0))
    go_wp2
    obtain ⟨p0, p1, -, -⟩ := HF.out
    exact bodyPost_ret (v := .tuple #[numR false (.slice none 0 0), .int .i64 2]) (by simp [results, Tryd.results90, go_sem, p0, p1]) rfl ⟨_, _, _, _, 2, rfl, Or.inl ⟨HN.out, rfl⟩, (HWW.out.setCell (show W.heap.size ≤ W.heap.size by omega) _).setCell (show W.heap.size ≤ W.heap.size by omega) _⟩
  · have HI : Hid (IsNum s) := Lib.hid (HOK1.out.1 rfl)
    have HF := Lib.hid (HY.out.two (.bool m1) (.slice ao1 n1 cap1))
    have HRN := Lib.hid ((((HR1.out HI.out).later HVB2.out (Nat.le_refl _)).set (b := W.heap.size) (by omega) 0 (.bool m1)).set (b := W.heap.size) (by omega) 1 (.slice ao1 n1 cap1))
    go_wp2
    obtain ⟨p0, p1, -, -⟩ := HF.out
    exact bodyPost_ret (v := .tuple #[numR m1 (.slice ao1 n1 cap1), .int .i64 0]) (by simp [results, Tryd.results90, go_sem, p0, p1]) rfl ⟨_, _, _, _, 0, rfl, Or.inr ⟨HI.out, rfl, HRN.out.mono (by omega)⟩, (HWW.out.setCell (show W.heap.size ≤ W.heap.size by omega) _).setCell (show W.heap.size ≤ W.heap.size by omega) _⟩
end Go.Proofs.YtkpoegdcmnjedaaDoor
