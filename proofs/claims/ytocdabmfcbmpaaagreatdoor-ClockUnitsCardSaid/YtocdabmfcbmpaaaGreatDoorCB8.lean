import Derived.Test.YtocdabmfcbmpaaaGreatDoorCB6
import Derived.Test.YtocdabmfcbmpaaaGreatDoorCB7
namespace Go.Proofs.YtocdabmfcbmpaaaGreatDoor
open Go.RowKit
set_option linter.unusedVariables false
set_option linter.unusedSimpArgs false

theorem bcell {W w1 : World} (hb : Below W.heap.size W w1) : (∀ b o, b < W.heap.size → w1.cell? ⟨b, o, none⟩ = W.cell? ⟨b, o, none⟩) ∧ (∀ b o, b < W.heap.size → w1.frozen? ⟨b, o, none⟩ = W.frozen? ⟨b, o, none⟩) :=
  ⟨fun b o h => hb.cell (p := ⟨b, o, none⟩) h, fun b o h => hb.frozen (p := ⟨b, o, none⟩) h⟩
abbrev E (n : Int) : Value := .int .i64 n
abbrev date0 : Value := .agg #[I 0, I 0, I 0, I 0, I 0, I 0]
theorem below_new {w W1 : World} {o : Obj} (hb1 : Below (w.alloc o).heap.size (w.alloc o) W1) : Below w.heap.size w W1 := ((Below.refl _ _).alloc (Nat.le_refl _) _).trans (hb1.mono (by simp))
theorem below_six {w W1 : World} (h : Below w.heap.size w W1) (x0 x1 x2 x3 x4 x5 : Value) : Below w.heap.size w ((((((W1.setCell ⟨w.heap.size, 0, none⟩ x0).setCell ⟨w.heap.size, 1, none⟩ x1).setCell ⟨w.heap.size, 2, none⟩ x2).setCell ⟨w.heap.size, 3, none⟩ x3).setCell ⟨w.heap.size, 4, none⟩ x4).setCell ⟨w.heap.size, 5, none⟩ x5) :=
  (((((h.setCell (Nat.le_refl _) _).setCell (Nat.le_refl _) _).setCell (Nat.le_refl _) _).setCell (Nat.le_refl _) _).setCell (Nat.le_refl _) _).setCell (Nat.le_refl _) _
theorem time_h {n : Int} {b : Bool} (h : inB n (-62135596800) 253402300799 = b) (w : World) : Calls Tryz.prog 25 #[I n] w fun e w' => e = .returned (.bool b) ∧ w = w' := by rw [← h]; exact isTime_any n w
theorem right_h {n : Int} {b : Bool} (h : inB n (-62135596800) 253402300799 = b) (w : World) : Calls Tryz.prog 27 #[I n] w fun e w' => e = .returned (.bool b) ∧ w = w' := by rw [← h]; exact right_any n w
theorem Date_ok {t : Int} (h : inB t (-62135596800) 253402300799 = true) (w : World) : Calls Tryz.prog 23 #[I t] w fun e w' => e = .returned (.tuple #[dateV t, E 0]) ∧ Below w.heap.size w w' := by
  have H := Lib.hid (fun w => time_h h w)
  have hb := inB_iff.1 h
  have HD := Lib.hid (fun w => dateOf_any t w (by omega) (by omega))
  clear h
  go_enter Tryz.func23, Tryz.ntmps23
  go_wp2_with (first | (go_at_call 25; (with_reducible refine (H.out _).mono ?_); rintro e w' ⟨rfl, rfl⟩) | (go_at_call 53; (with_reducible refine (HD.out _).mono ?_); rintro e W1 ⟨rfl, hb1⟩; obtain ⟨hc, hf⟩ := bcell hb1; have hz := hb1.size; simp only [World.size_alloc] at hz))
  exact bodyPost_ret (v := .tuple #[dateV t, E 0]) (by simp [results, Tryz.results23, go_sem, hc, hz]) rfl ⟨rfl, below_six (below_new hb1) _ _ _ _ _ _⟩
theorem Date_no {t : Int} (h : inB t (-62135596800) 253402300799 = false) (w : World) : Calls Tryz.prog 23 #[I t] w fun e w' => e = .returned (.tuple #[date0, E 7]) ∧ Below w.heap.size w w' := by
  have H := Lib.hid (fun w => time_h h w)
  clear h
  go_enter Tryz.func23, Tryz.ntmps23
  go_wp2_with ((go_at_call 25; (with_reducible refine (H.out _).mono ?_); rintro e w' ⟨rfl, rfl⟩))
  exact bodyPost_ret (v := .tuple #[date0, E 7]) (by simp [results, Tryz.results23, go_sem]) rfl ⟨rfl, (by (repeat (first | exact Below.refl _ _ | assumption | (refine Below.setCell ?_ (by first | omega | (simp; done) | (simp; omega)) _) | (refine Below.alloc ?_ (by first | omega | (simp; done) | (simp; omega)) _) | refine Below.drew ?_ | (refine Below.trans ?_ (Below.mono (by assumption) (by first | omega | (simp; done) | (simp; omega)))))))⟩
end Go.Proofs.YtocdabmfcbmpaaaGreatDoor
