import Derived.Test.YtocdabmfcbmpaaaGreatDoorCC2
import Derived.WalkLawsBesides
import Derived.Lib.AppendIntMem
namespace Go.Proofs.YtocdabmfcbmpaaaGreatDoor
open Go.RowKit
set_option linter.unusedVariables false
set_option linter.unusedSimpArgs false

/-- the table of the powers of ten is laid. -/
def Tab (W : World) : Prop := Lib.TabIs Tryz.prog W "internal/strconv.uint64pow10" .u64 Lib.pow10Tab
theorem Tab.after {W W' : World} (h : Tab W) (hb : Below W.heap.size W W') : Tab W' := Lib.tabBelow_of_tabIs h W' hb
/-- a number written with zeros ahead. -/
def padS (n : Int) (wd : Nat) : ByteArray := ⟨(Lib.repeatL [48] (wd - (Lib.itoa n).length)).toArray⟩ ++ ⟨(Lib.itoa n).toArray⟩
theorem itoa_any (n : Int) (h0 : -9223372036854775808 ≤ n) (h1 : n ≤ 9223372036854775807) (w : World) (ht : Tab w) : Calls Tryz.prog 90 #[I n] w fun e w' => e = .returned (.string ⟨(Lib.itoa n).toArray⟩) ∧ Below w.heap.size w w' :=
  (Tryz.strconv_Itoa n h0 h1 w ht).mono fun e w' ⟨he, k, os, hw⟩ => ⟨he, by rw [hw]; exact Lib.below_grow _ _ (Nat.le_refl _) _ _⟩
theorem zero_list : (⟨#[48]⟩ : ByteArray).data.toList = [48] := rfl
theorem repeat_any (c : Nat) (hc : c ≤ 100) (w : World) : Calls Tryz.prog 154 #[.string ⟨#[48]⟩, .int .i64 c] w fun e w' => e = .returned (.string ⟨(Lib.repeatL [48] c).toArray⟩) ∧ Below w.heap.size w w' :=
  Tryz.strings_Repeat ⟨#[48]⟩ c w (by omega) (by show 1 * c ≤ _; omega)
theorem dec_len : ∀ k u : Nat, u < 10 ^ (k + 1) → (Lib.decDigits u).length ≤ k + 1
  | 0, u, h => by
    rw [Lib.decDigits, dif_pos (by omega)]; simp
  | k + 1, u, h => by
    rw [Lib.decDigits]
    split
    · simp
    · have := dec_len k (u / 10) (by rw [Nat.pow_succ] at h; omega)
      simp; omega
theorem itoa_len (n : Int) (h0 : -9223372036854775808 ≤ n) (h1 : n ≤ 9223372036854775807) : (Lib.itoa n).length ≤ 100 := by
  unfold Lib.itoa
  split
  · have := dec_len 19 n.natAbs (by omega)
    simp; omega
  · have := dec_len 19 n.toNat (by omega)
    omega
theorem padded_any (n : Int) (wd : Nat) (hwd : wd ≤ 10) (h0 : -9223372036854775808 ≤ n) (h1 : n ≤ 9223372036854775807) (w : World) (ht : Tab w) : Calls Tryz.prog 128 #[I n, .int .i64 wd] w fun e w' => e = .returned (.string (padS n wd)) ∧ Below w.heap.size w w' := by
  have HI := Lib.hid (itoa_any n h0 h1 w ht)
  obtain ⟨l, HL⟩ : ∃ l, Hid (Lib.itoa n = l) := ⟨_, Lib.hid rfl⟩
  have HP : Hid (padS n wd = ⟨(Lib.repeatL [48] (wd - l.length)).toArray⟩ ++ ⟨l.toArray⟩) := Lib.hid (by unfold padS; rw [HL.out])
  rw [HL.out] at HI
  clear ht
  have hsz : (⟨l.toArray⟩ : ByteArray).size = l.length := rfl
  have hll : l.length ≤ 100 := by rw [← HL.out]; exact itoa_len n h0 h1
  have HC : Hid (∀ w, Calls Tryz.prog 154 #[.string ⟨#[48]⟩, .int .i64 (max ((wd : Int) - (l.length : Int)) 0)] w fun e w' => e = .returned (.string ⟨(Lib.repeatL [48] (wd - l.length)).toArray⟩) ∧ Below w.heap.size w w') := Lib.hid fun w => by
    rw [show max ((wd : Int) - (l.length : Int)) 0 = ((wd - l.length : Nat) : Int) by omega]
    exact repeat_any _ (by omega) w
  have hrl : (Lib.repeatL [48] (wd - l.length)).length ≤ 10 := by rw [Lib.repeatL_length]; simp; omega
  go_enter Tryz.func128, Tryz.ntmps128
  go_wp2_with (first | (go_at_call 90; (with_reducible refine HI.out.mono ?_); rintro e W1 ⟨rfl, hb1⟩; have HB1 := Lib.hid hb1; clear hb1) | (go_at_call 154; (with_reducible refine (HC.out _).mono ?_); rintro e W2 ⟨rfl, hb2⟩; have HB2 := Lib.hid hb2; clear hb2))
  go_ret
  exact ⟨by rw [HP.out]; rfl, HB1.out.trans (HB2.out.mono HB1.out.size)⟩
end Go.Proofs.YtocdabmfcbmpaaaGreatDoor
