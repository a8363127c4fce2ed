import Derived.Test.YtocdabmfcbmpaaaDoorCW5
import Derived.Deep.RegionWith
namespace Go.Proofs.YtocdabmfcbmpaaaDoor
open Go.RowKit
set_option linter.unusedVariables false
set_option linter.unusedSimpArgs false
set_option maxRecDepth 100000
set_option maxHeartbeats 20000000
theorem ref_months_7c (w : World) : Calls Tryd.prog 90 #[] w fun e w' => e = .returned (.slice (some ⟨w.heap.size, 0, none⟩) 12 12) ∧ w' = w.alloc (.cells #[Value.string ⟨#[74, 97, 110, 117, 97, 114, 121]⟩, Value.string ⟨#[70, 101, 98, 114, 117, 97, 114, 121]⟩, Value.string ⟨#[77, 97, 114, 99, 104]⟩, Value.string ⟨#[65, 112, 114, 105, 108]⟩, Value.string ⟨#[77, 97, 121]⟩, Value.string ⟨#[74, 117, 110, 101]⟩, Value.string ⟨#[74, 117, 108, 121]⟩, Value.string ⟨#[65, 117, 103, 117, 115, 116]⟩, Value.string ⟨#[83, 101, 112, 116, 101, 109, 98, 101, 114]⟩, Value.string ⟨#[79, 99, 116, 111, 98, 101, 114]⟩, Value.string ⟨#[78, 111, 118, 101, 109, 98, 101, 114]⟩, Value.string ⟨#[68, 101, 99, 101, 109, 98, 101, 114]⟩] 9) := by
  go_enter Tryd.func90, Tryd.ntmps90
  go_wp2
  go_ret
  exact ⟨rfl, rfl⟩
theorem below_two_7c {n : Nat} {W : World} {o o' : Obj} (h : n ≤ W.heap.size) : Below n W ((W.alloc o).alloc o').drew := (((Below.refl _ _).alloc h _).alloc (Nat.le_trans h (by simp)) _).drew
theorem below_twoq_7c {n : Nat} {W : World} {o o' : Obj} (h : n ≤ W.heap.size) : Below n W ((W.alloc o).alloc o') := ((Below.refl _ _).alloc h _).alloc (Nat.le_trans h (by simp)) _
theorem lt_66c (t : Int) (w : World) (t0 : -62135596800 ≤ t) (t1 : t ≤ 253402300799) (hT : Tab w) (hm : dMI (t / 86400) = 9 ∨ dMI (t / 86400) = 10 ∨ dMI (t / 86400) = 11 ∨ dMI (t / 86400) = 12) : Calls Tryd.prog 62 #[I t, .int .u8 66] w fun e w' => e = .returned (.tuple #[.string (monthL.getD ((partG (fun y m d h mi s => m) t).toNat - 1) ⟨#[]⟩), .bool true]) ∧ Below w.heap.size w w' := by
  have hp := parts_bd t0 t1
  have HD := Lib.hid (fun w => ref_date_any t w (by omega) (by omega))
  have HT := Lib.hid hT
  rw [show dateV t = D6 (dYI (t / 86400)) (dMI (t / 86400)) (dDI (t / 86400)) (t % 86400 / 3600) (t % 86400 / 60 % 60) (t % 86400 % 60) from rfl] at HD
  simp only [partG]
  generalize dYI (t / 86400) = Y at *
  generalize dMI (t / 86400) = M at *
  generalize dDI (t / 86400) = D at *
  generalize t % 86400 / 3600 = x3 at *
  generalize t % 86400 / 60 % 60 = x4 at *
  generalize t % 86400 % 60 = x5 at *
  clear hT
  unfold D6 at HD
  clear hp
  rcases hm with rfl | rfl | rfl | rfl <;> (
    go_enter Tryd.func62, Tryd.ntmps62
    go_wp2_with ((go_at_call 36; (with_reducible refine (HD.out _).mono ?_); rintro e W1 ⟨rfl, hb1⟩; have HB1 := Lib.hid hb1; have HT1 := Lib.hid (HT.out.after hb1); clear hb1))
    go_region_with ((go_at_call 90; refine (ref_months_7c _).mono ?_; rintro e W2 ⟨rfl, rfl⟩))
    all_goals (
      go_wp2
      go_ret2
      exact ⟨rfl, HB1.out.trans (below_two_7c HB1.out.size)⟩))
end Go.Proofs.YtocdabmfcbmpaaaDoor
