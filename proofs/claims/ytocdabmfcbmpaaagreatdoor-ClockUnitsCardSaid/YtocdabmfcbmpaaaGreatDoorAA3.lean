import Derived.Test.YtocdabmfcbmpaaaGreatDoorAA2
import Derived.Deep.RegionWith
namespace Go.Proofs.YtocdabmfcbmpaaaGreatDoor
open Go.RowKit
set_option linter.unusedVariables false
set_option linter.unusedSimpArgs false

/-- the table of the units' lengths is laid. -/
def LenT (W : World) : Prop := Lib.TabIs Tryz.prog W "threadbare/clock.lengths" .i64 [1, 60, 3600, 86400, 604800]
theorem LenT.after {W W' : World} (h : LenT W) (hb : Below W.heap.size W W') : LenT W' := Lib.tabBelow_of_tabIs h W' hb
theorem LenT.cell {W : World} (h : LenT W) (u : Nat) (hu : u < 5) : W.cell? ⟨0, u, none⟩ = some (I (lenI u)) := by
  refine (Lib.TabIs.cell h (g := 0) (by kernel_rfl) u (by simpa using hu)).trans ?_
  match u, hu with
  | 0, _ => rfl
  | 1, _ => rfl
  | 2, _ => rfl
  | 3, _ => rfl
  | 4, _ => rfl
def addP (t n : Int) (u : Nat) (w : World) (e : Ending) (w' : World) : Prop :=
  (match addI t n u with | some x => e = .returned (.tuple #[I x, .bool true]) | none => ∃ x : Int, e = .returned (.tuple #[I x, .bool false])) ∧ Below w.heap.size w w'
theorem addP_some {t n x : Int} {u : Nat} {w w' : World} (h : addI t n u = some x) (hb : Below w.heap.size w w') : addP t n u w (.returned (.tuple #[I x, .bool true])) w' := by unfold addP; rw [h]; exact ⟨rfl, hb⟩
theorem addP_none {t n x : Int} {u : Nat} {w w' : World} (h : addI t n u = none) (hb : Below w.heap.size w w') : addP t n u w (.returned (.tuple #[I x, .bool false])) w' := by unfold addP; rw [h]; exact ⟨⟨x, rfl⟩, hb⟩
set_option maxRecDepth 100000 in
set_option maxHeartbeats 1000000 in
theorem add_small (t n : Int) (u : Nat) (hu : u < 5) (t0 : -62135596800 ≤ t) (t1 : t ≤ 253402300799) (w : World) (hL : LenT w) : Calls Tryz.prog 26 #[I t, I n, .int .i64 u] w (addP t n u w) := by
  have hc := hL.cell u hu
  have hl := len_bd u
  have HA : Hid (addI t n u = if n ≤ 315537897599 ∧ -315537897599 ≤ n ∧ -62135596800 ≤ t + n * lenI u ∧ t + n * lenI u ≤ 253402300799 then some (t + n * lenI u) else none) := Lib.hid (by unfold addI; rw [if_pos hu])
  clear hL
  generalize lenI u = l at *
  by_cases h1 : 315537897599 < n
  · have HP : Hid (addP t n u w (.returned (.tuple #[I 0, .bool false])) w) := Lib.hid (addP_none (by rw [HA.out, if_neg (by omega)]) (Below.refl _ _))
    clear HA
    go_enter Tryz.func26, Tryz.ntmps26
    go_wp2
    go_ret2
    exact HP.out
  · by_cases h2 : n < -315537897599
    · have HP : Hid (addP t n u w (.returned (.tuple #[I 0, .bool false])) w) := Lib.hid (addP_none (by rw [HA.out, if_neg (by omega)]) (Below.refl _ _))
      have c1 : decide (315537897599 < n) = false := decide_eq_false h1
      clear HA
      go_enter Tryz.func26, Tryz.ntmps26
      go_wp2
      go_ret2
      exact HP.out
    · have c1 : decide (315537897599 < n) = false := decide_eq_false h1
      have c2 : decide (n < -315537897599) = false := decide_eq_false h2
      have hp1 : n * l ≤ 315537897599 * 604800 := by
        by_cases hn : 0 ≤ n
        · exact Int.mul_le_mul (by omega) hl.2 (by omega) (by omega)
        · have := Int.mul_nonneg (show 0 ≤ -n by omega) (show 0 ≤ l by omega)
          rw [Int.neg_mul] at this; omega
      have hp2 : -(315537897599 * 604800) ≤ n * l := by
        by_cases hn : 0 ≤ n
        · have := Int.mul_nonneg hn (show 0 ≤ l by omega); omega
        · have := Int.mul_le_mul (show -n ≤ 315537897599 by omega) hl.2 (by omega) (by omega)
          rw [Int.neg_mul] at this; omega
      obtain ⟨p, hp⟩ : ∃ p, n * l = p := ⟨_, rfl⟩
      rw [hp] at hp1 hp2 HA
      have H33 := Lib.hid (fun w => isTime_any (t + p) w)
      have HP : Hid (addP t n u w (.returned (.tuple #[I (t + p), .bool (inB (t + p) (-62135596800) 253402300799)])) w) := Lib.hid (by
        cases hi : inB (t + p) (-62135596800) 253402300799
        · have := not_in hi
          exact addP_none (by rw [HA.out, if_neg (by omega)]) (Below.refl _ _)
        · have := inB_iff.1 hi
          exact addP_some (by rw [HA.out, if_pos (by omega)]) (Below.refl _ _))
      clear HA
      go_enter Tryz.func26, Tryz.ntmps26
      go_wp2_with ((go_at_call 25; (with_reducible refine (H33.out _).mono ?_); rintro e w' ⟨rfl, rfl⟩))
      go_ret2
      exact HP.out
end Go.Proofs.YtocdabmfcbmpaaaGreatDoor
