import Derived.Test.YtkpoegdcmnjedaaDoorSD1
import Derived.Test.YtkpoegdcmnjedaaDoorSD2
import Derived.Test.YtkpoegdcmnjedaaDoorRG5
import Derived.Test.YtkpoegdcmnjedaaDoorSC3
namespace Go.Proofs.YtkpoegdcmnjedaaDoor
open Go.RowKit
set_option linter.unusedVariables false
set_option linter.unusedSimpArgs false

theorem BaQ.det {s : ByteArray} {base : Int} {W W2 W' W2' : World} {e e2 : Ending} (h : BaQ s base W e W') (h2 : BaQ s base W2 e2 W2') : e = e2 := by
  obtain ⟨r, er, rfl, h, -⟩ := h
  obtain ⟨r2, er2, rfl, h2, -⟩ := h2
  rcases h with ⟨a1, rfl, rfl⟩ | ⟨a1, a2, rfl, rfl⟩ | ⟨a1, a2, a3, rfl, rfl⟩ | ⟨a1, a2, a3, rfl, rfl⟩ <;>
  rcases h2 with ⟨b1, rfl, rfl⟩ | ⟨b1, b2, rfl, rfl⟩ | ⟨b1, b2, b3, rfl, rfl⟩ | ⟨b1, b2, b3, rfl, rfl⟩ <;>
  first | rfl | exact absurd ‹IsNum s› ‹¬ IsNum s› | exact absurd ‹2 ≤ base ∧ base ≤ 36› ‹¬ (2 ≤ base ∧ base ≤ 36)› | (exfalso; omega)
theorem ReQ.det {s : ByteArray} {base : Int} {W W2 W' W2' : World} {e e2 : Ending} (h : ReQ s base W e W') (h2 : ReQ s base W2 e2 W2') : e = e2 := by
  obtain ⟨r, er, rfl, h, -⟩ := h
  obtain ⟨r2, er2, rfl, h2, -⟩ := h2
  rcases h with ⟨a1, h1, h3⟩ | ⟨a1, a2, h1, h3⟩ | ⟨a1, a2, h1, h3⟩ <;>
  rcases h2 with ⟨b1, h4, h5⟩ | ⟨b1, b2, h4, h5⟩ | ⟨b1, b2, h4, h5⟩ <;>
  first | (rw [h1, h3, h4, h5]; done) | exact absurd b1 a1 | exact absurd a1 b1 | exact absurd b2 a2 | exact absurd a2 b2
set_option maxRecDepth 100000 in
set_option maxHeartbeats 8000000 in
theorem bigBases_any (s : ByteArray) (base : Int) (W : World) (hs : s.size ≤ 9223372036854775807) :
    Calls Tryd.prog 7 #[.string s, .int .i64 base] W fun e W' => e = .returned (.bool true) ∧ Below W.heap.size W W' := by
  obtain ⟨V, hV⟩ : ∃ V, V = W.alloc (Obj.cells #[.string s] 9) := ⟨_, rfl⟩
  have hv0 : V.heap[W.heap.size]? = some (.cells #[.string s] 9 (0, 0)) := by rw [hV]; exact heap_alloc_new W _
  have hT : Txs W.heap.size [s] V := ⟨by rw [hV]; simp, fun i hi => by
    have : i = 0 := by have h : i < 1 := hi; omega
    subst this
    exact (cell_of_row _ _ _ _ _ _ hv0).trans rfl⟩
  have hR := long_any 200 W.heap.size 1 [s] V hT (by show 1 ≤ 1000; decide) (fun s hs => by
    simp only [List.mem_cons, List.not_mem_nil, or_false] at hs
    subst hs; assumption) (by decide)
  obtain ⟨r, HRB⟩ : ∃ r, Hid (longB 200 [s] = r) := ⟨_, Lib.hid rfl⟩
  rw [HRB.out] at hR
  have HR : Hid (Calls Tryd.prog 11 #[.int .i64 200, .slice (some ⟨W.heap.size, 0, none⟩) 1 1] V fun e W' => e = .returned (.bool r) ∧ V = W') := Lib.hid hR
  have HVB : Hid (Below W.heap.size W V) := Lib.hid (by rw [hV]; exact (Below.refl _ _).alloc (Nat.le_refl _) _)
  have HAW : Hid (∀ w, Calls Tryd.prog 12 #[] w fun e W' => e = .returned (.bool true) ∧ Below w.heap.size w W') := Lib.hid fun w => awake_any w
  clear hR hT hv0
  cases r
  · have hall := HRB.out
    unfold longB at hall
    rw [List.any_eq_false] at hall
    have hs9 : s.size ≤ 200 := by have := hall s (by simp); simpa using this
    have A1 := Lib.hid fun w => base_any s base w (by omega)
    have A2 := Lib.hid fun w => ref_base_any s base w (by omega)
    have A3 := Lib.hid fun w => read_any s base w (by omega)
    have A4 := Lib.hid fun w => ref_read_any s base w (by omega)
    have A5 := Lib.hid fun w => canonical_any s w (by omega)
    clear hall hs hs9
    go_enter Tryd.func7, Tryd.ntmps7
    go_wp2_with fail
    rw [← hV]
    clear hV
    refine HR.out.mono ?_
    rintro e w0 ⟨rfl, rfl⟩
    have HB0 := HVB
    clear HR HVB HRB
    go_wp2_with fail
    refine (A1.out _).mono ?_
    rintro e w1 h1
    have HQ1 := Lib.hid h1
    obtain ⟨r1, er1, rfl, HC, hb1⟩ := h1
    have HC1 := Lib.hid HC
    have HB1 := Lib.hid (HB0.out.trans (hb1.mono HB0.out.size))
    clear HC hb1 HB0
    go_wp2_with fail
    refine (A2.out _).mono ?_
    rintro e w2 h2
    obtain rfl := HQ1.out.det h2
    have hb2 := h2.choose_spec.choose_spec.2.2
    have HB2 := Lib.hid (HB1.out.trans (hb2.mono HB1.out.size))
    clear h2 hb2 HB1 HQ1
    go_wp2_with fail
    refine (A3.out _).mono ?_
    rintro e w3 h1
    have HQ1 := Lib.hid h1
    obtain ⟨r3, er3, rfl, -, hb1⟩ := h1
    have HB3 := Lib.hid (HB2.out.trans (hb1.mono HB2.out.size))
    clear hb1 HB2
    go_wp2_with fail
    refine (A4.out _).mono ?_
    rintro e w4 h2
    obtain rfl := HQ1.out.det h2
    have hb2 := h2.choose_spec.choose_spec.2.2
    have HB4 := Lib.hid (HB3.out.trans (hb2.mono HB3.out.size))
    clear h2 hb2 HB3 HQ1
    rcases HC1.out with ⟨-, rfl, rfl⟩ | ⟨-, -, rfl, rfl⟩ | ⟨-, -, -, rfl, rfl⟩ | ⟨k1, ⟨k2, k3⟩, k4, k5, rfl⟩
    · go_wp2_with (go_at_call 12; refine (HAW.out _).mono ?_; rintro e w20 ⟨rfl, hb⟩; have HB20 := Lib.hid (HB4.out.trans (hb.mono HB4.out.size)); clear hb)
      go_ret
      exact ⟨rfl, HB20.out⟩
    · go_wp2_with (go_at_call 12; refine (HAW.out _).mono ?_; rintro e w20 ⟨rfl, hb⟩; have HB20 := Lib.hid (HB4.out.trans (hb.mono HB4.out.size)); clear hb)
      go_ret
      exact ⟨rfl, HB20.out⟩
    · go_wp2_with (go_at_call 12; refine (HAW.out _).mono ?_; rintro e w20 ⟨rfl, hb⟩; have HB20 := Lib.hid (HB4.out.trans (hb.mono HB4.out.size)); clear hb)
      go_ret
      exact ⟨rfl, HB20.out⟩
    · have hx : (valT s).natAbs < Lim := by rw [valT_abs]; exact k4
      obtain ⟨hal, hrz⟩ := read_renB (b := base.toNat) (by omega) (by omega) (valT s)
      have hsz := renB_size (b := base.toNat) (by omega) hx
      have hts := told_small hx
      rw [← k5] at hal hrz hsz
      obtain ⟨tx, HTX⟩ : ∃ t, Hid (ren (valT s) = t) := ⟨_, Lib.hid rfl⟩
      have A6 : Hid (∀ w, Calls Tryd.prog 55 #[.string r1, .int .i64 base] w fun e W' => e = .returned (.tuple #[.string tx, .int .i64 0]) ∧ Below w.heap.size w W') := Lib.hid fun w => by
        refine (read_any r1 base w (by omega)).mono ?_
        rintro e w' ⟨r, er, rfl, h, hb⟩
        refine ⟨?_, hb⟩
        rcases h with ⟨h, _⟩ | ⟨_, h, _⟩ | ⟨_, _, h7, h8⟩
        · exact absurd ⟨k2, k3⟩ h
        · exact absurd hal h
        · rw [h7, h8, hrz, hts.1, hts.2, HTX.out]
      have A7 : Hid (∀ w, Calls Tryd.prog 13 #[.string s] w fun e W' => e = .returned (.tuple #[.string tx, .int .i64 0]) ∧ Below w.heap.size w W') := Lib.hid fun w => by
        refine (A5.out w).mono ?_
        rintro e w' ⟨r, er, rfl, h, hb⟩
        refine ⟨?_, hb⟩
        rcases h with ⟨h, _⟩ | ⟨_, h, _⟩ | ⟨_, _, h7, h8⟩
        · exact absurd k1 h
        · exfalso; omega
        · rw [h7, h8]
          show Ending.returned (.tuple #[.string (toldS (valT s)), .int .i64 (toldE (valT s))]) = _
          rw [hts.1, hts.2, HTX.out]
      clear hal hrz hsz hts hx k2 k3 k4 k5
      go_wp2_with (first | (go_at_call 55; refine (A6.out _).mono ?_; rintro e w5 ⟨rfl, hb⟩; have HB5 := Lib.hid (HB4.out.trans (hb.mono HB4.out.size)); clear hb) | (go_at_call 13; refine (A7.out _).mono ?_; rintro e w6 ⟨rfl, hb⟩; have HB6 := Lib.hid (HB5.out.trans (hb.mono HB5.out.size)); clear hb) | (go_at_call 12; refine (HAW.out _).mono ?_; rintro e w20 ⟨rfl, hb⟩; have HB20 := Lib.hid (HB6.out.trans (hb.mono HB6.out.size)); clear hb))
      go_ret
      exact ⟨rfl, HB20.out⟩
  · go_enter Tryd.func7, Tryd.ntmps7
    go_wp2_with fail
    rw [← hV]
    clear hV
    refine HR.out.mono ?_
    rintro e w2 ⟨rfl, rfl⟩
    go_wp2_with (go_at_call 12; refine (HAW.out _).mono ?_; rintro e w3 ⟨rfl, hb3⟩; have HB3 := Lib.hid hb3; clear hb3)
    go_ret
    exact ⟨rfl, HVB.out.trans (HB3.out.mono HVB.out.size)⟩
end Go.Proofs.YtkpoegdcmnjedaaDoor
