import Derived.Test.YtocdabmfcbmpaaaDoorCW1
namespace Go.Proofs.YtocdabmfcbmpaaaDoor
open Go.RowKit
set_option linter.unusedVariables false
set_option linter.unusedSimpArgs false

/-! ### the reference: digits -/
/-- a number's text with some noughts before it. -/
def dg (n : Int) (j : Nat) : ByteArray := ⟨(Lib.repeatL [48] j).toArray⟩ ++ ⟨(Lib.itoa n).toArray⟩
theorem dg_pad (n : Int) (wd : Nat) : dg n (wd - (Lib.itoa n).length) = padS n wd := rfl
theorem dg_list (n : Int) (j : Nat) : (dg n j).data.toList = Lib.repeatL [48] j ++ Lib.itoa n := by simp [dg]
theorem dg_zero (n : Int) : (⟨(Lib.itoa n).toArray⟩ : ByteArray) = dg n 0 := by
  have : (dg n 0).data.toList = Lib.itoa n := by rw [dg_list]; rfl
  rw [← this]
theorem dg_succ (n : Int) (j : Nat) : (⟨#[48]⟩ : ByteArray) ++ dg n j = dg n (j + 1) := by
  have h1 : ((⟨#[48]⟩ : ByteArray) ++ dg n j).data.toList = (dg n (j + 1)).data.toList := by
    rw [dg_list]
    simp [dg, Lib.repeatL]
  have h2 := Array.toList_inj.1 h1
  cases h3 : (⟨#[48]⟩ : ByteArray) ++ dg n j
  cases h4 : dg n (j + 1)
  rw [h3, h4] at h2
  exact congrArg _ h2
theorem dg_size (n : Int) (j : Nat) : (dg n j).size = j + (Lib.itoa n).length := by
  show (dg n j).data.size = _
  rw [← Array.length_toList, dg_list, List.length_append, Lib.repeatL_length]; simp
def szOf : Value → Nat
  | .string s => s.size
  | _ => 0
set_option maxRecDepth 100000 in
theorem digits_any (n : Int) (wd : Nat) (hwd : wd ≤ 10) (h0 : -9223372036854775808 ≤ n) (h1 : n ≤ 9223372036854775807) (w : World) (ht : Tab w) : Calls Tryd.prog 89 #[I n, I wd] w fun e w' => e = .returned (.string (padS n wd)) ∧ Below w.heap.size w w' := by
  have HI := Lib.hid (itoa_any n h0 h1 w ht)
  rw [dg_zero] at HI
  rw [← dg_pad]
  have hsz := dg_size n
  have hsc := dg_succ n
  have hll := itoa_len n h0 h1
  generalize (Lib.itoa n).length = L at *
  clear ht
  go_enter Tryd.func89, Tryd.ntmps89
  go_wp2_with ((go_at_call 84; (with_reducible refine HI.out.mono ?_); rintro e W1 ⟨rfl, hb1⟩; have HB1 := Lib.hid hb1; clear hb1))
  clear HI
  go_loopw [5] (fun i wr => ∃ j : Nat, i = .string (dg n j) ∧ j ≤ wd - L ∧ Hid (Below w.heap.size w wr)) (fun i _ => wd - szOf i)
  case atStart => exact ⟨0, rfl, Nat.zero_le _, HB1⟩
  case round =>
    obtain ⟨j, rfl, hj, hB⟩ := hrel
    have hs := hsz j
    have hs1 := hsz (j + 1)
    have hc := hsc j
    clear HB1
    by_cases hlt : j + L < wd
    · go_wp2
      go_roundw
      case rel => exact ⟨j + 1, rfl, by omega, hB⟩
      case measure => simp [szOf]; omega
    · obtain rfl : j = wd - L := by omega
      go_wp2
      go_ret
      exact ⟨rfl, hB.out⟩
theorem gyd_bd (t : Int) (h0 : -62135596800 ≤ t) (h1 : t ≤ 253402300799) : -9223372036854775808 ≤ ydI t ∧ ydI t ≤ 9223372036854775807 := by have := yd_bd t; omega
theorem gwd_bd (t : Int) (h0 : -62135596800 ≤ t) (h1 : t ≤ 253402300799) : -9223372036854775808 ≤ weekdayI t ∧ weekdayI t ≤ 9223372036854775807 := by have := weekday_bd t; omega
theorem gwn_bd (t : Int) (h0 : -62135596800 ≤ t) (h1 : t ≤ 253402300799) : -9223372036854775808 ≤ wkN t ∧ wkN t ≤ 9223372036854775807 := by have := wkN_bd t; omega
theorem wkY_bd (t : Int) (h0 : -62135596800 ≤ t) (h1 : t ≤ 253402300799) : -20000 ≤ wkY t ∧ wkY t ≤ 20000 := by
  have := weekday_bd t
  unfold wkY
  exact dYI_bd (by unfold thuI; omega) (by unfold thuI; omega)
theorem gwy_bd (t : Int) (h0 : -62135596800 ≤ t) (h1 : t ≤ 253402300799) : -9223372036854775808 ≤ wkY t ∧ wkY t ≤ 9223372036854775807 := by have := wkY_bd t h0 h1; omega
theorem half_bd (t : Int) (h0 : -62135596800 ≤ t) (h1 : t ≤ 253402300799) : 1 ≤ partG (fun y m d h mi s => h / 12 + 1) t ∧ partG (fun y m d h mi s => h / 12 + 1) t ≤ (ampmL.length : Nat) := by
  have := parts_bd h0 h1
  show _ ∧ _ ≤ ((2 : Nat) : Int)
  simp only [partG]
  omega
theorem month_bd (t : Int) (h0 : -62135596800 ≤ t) (h1 : t ≤ 253402300799) : 1 ≤ partG (fun y m d h mi s => m) t ∧ partG (fun y m d h mi s => m) t ≤ (monthL.length : Nat) := by
  have := parts_bd h0 h1
  show _ ∧ _ ≤ ((12 : Nat) : Int)
  simp only [partG]
  omega
theorem day_bd (t : Int) (h0 : -62135596800 ≤ t) (h1 : t ≤ 253402300799) : 1 ≤ weekdayI t ∧ weekdayI t ≤ (dayL.length : Nat) := by
  have := weekday_bd t
  show _ ∧ _ ≤ ((7 : Nat) : Int)
  omega
end Go.Proofs.YtocdabmfcbmpaaaDoor
