import Derived.Test.YtkpoegdcmnjedaaDoorMF4
namespace Go.Proofs.YtkpoegdcmnjedaaDoor
open Go.RowKit
set_option linter.unusedVariables false
set_option linter.unusedSimpArgs false

theorem ret_int {k : IntKind} {a b : Int} (h : a = b) : Ending.returned (.int k a) = .returned (.int k b) := by rw [h]
theorem lim_low : 2 ^ 1993 ≤ Lim := by unfold Lim; decide +kernel
set_option maxRecDepth 100000 in
theorem toolong_any {B : Nat} {v : Value} {n : Nat} {W : World} (h : M B W v (digs B32 n)) (hl : nd n ≤ 1000000) :
    Calls Tryd.prog 131 #[v] W fun e W' => e = .returned (.bool (decide (Lim ≤ n))) ∧ Below W.heap.size W W' := by
  have hbN := bitsN_small hl
  have HBC := bits_num h hl
  obtain ⟨bn, HBN⟩ : ∃ t, Hid (bitsN n = t) := ⟨_, Lib.hid rfl⟩
  rw [HBN.out] at hbN HBC
  have HH := Lib.hid HBC
  have HM := Lib.hid h
  clear HBC h
  by_cases h1 : bn = 1994
  · subst h1
    have hlm : (txt (textL 10 n)).size ≤ 1000000000 := by rw [txt_size]; exact Nat.le_trans (textL_nd 10 _ (by decide)) (by omega)
    have HD : Hid (decide (Lim ≤ n) = decide (600 < (txt (textL 10 n)).size)) := Lib.hid (by
      rw [txt_size]
      have := textL_lim (n := n)
      by_cases c : n < Lim
      · rw [decide_eq_false (by omega), decide_eq_false (by omega)]
      · rw [decide_eq_true (by omega), decide_eq_true (by omega)])
    rw [HD.out]
    obtain ⟨z, HZ⟩ : ∃ t, Hid ((txt (textL 10 n)).size = t) := ⟨_, Lib.hid rfl⟩
    go_enter Tryd.func131, Tryd.ntmps131
    go_wp2_with fail
    refine HH.out.mono ?_
    rintro e V2 ⟨rfl, rfl⟩
    go_wp2_with fail
    refine (text_any 10 (by decide) (by decide) HM.out hl).mono ?_
    rintro e w1 ⟨rfl, hb1⟩
    go_wp2
    go_ret
    exact ⟨by simp; omega, hb1⟩
  · have HD : Hid (decide (Lim ≤ n) = decide (1994 < bn)) := Lib.hid (by
      by_cases c : 1994 < bn
      · have : ¬ n < 2 ^ 1994 := fun h => by have := (bits_le (m := 1994)).2 h; rw [HBN.out] at this; omega
        rw [decide_eq_true c, decide_eq_true (Nat.le_trans lim_bits (Nat.le_of_not_lt this))]
      · have : n < 2 ^ 1993 := (bits_le (m := 1993)).1 (by rw [HBN.out]; omega)
        rw [decide_eq_false c, decide_eq_false (Nat.not_le_of_lt (Nat.lt_of_lt_of_le this lim_low))])
    rw [HD.out]
    go_enter Tryd.func131, Tryd.ntmps131
    go_wp2_with fail
    refine HH.out.mono ?_
    rintro e V2 ⟨rfl, rfl⟩
    go_wp2_with fail
    refine HH.out.mono ?_
    rintro e V2 ⟨rfl, rfl⟩
    go_wp2
    go_ret
    exact ⟨by simp; omega, Below.refl _ _⟩

/-! ### digits of a text -/
def dvN (c : Nat) : Nat := if 48 ≤ c ∧ c ≤ 57 then c - 48 else if 97 ≤ c ∧ c ≤ 122 then c - 87 else if 65 ≤ c ∧ c ≤ 90 then c - 55 else 99
theorem digitOf_any (c : Nat) (w : World) (hc : c ≤ 255) : Calls Tryd.prog 129 #[.int .u8 c] w fun e w' => e = .returned (.int .i64 (dvN c : Nat)) ∧ w = w' := by
  unfold dvN
  by_cases h1 : 48 ≤ c ∧ c ≤ 57
  · obtain ⟨a, b⟩ := h1
    rw [if_pos ⟨a, b⟩]
    go_enter Tryd.func129, Tryd.ntmps129
    go_wp2
    go_ret
    exact ⟨ret_int (by omega), rfl⟩
  · rw [if_neg h1]
    by_cases h2 : 97 ≤ c ∧ c ≤ 122
    · obtain ⟨a, b⟩ := h2
      rw [if_pos ⟨a, b⟩]
      go_enter Tryd.func129, Tryd.ntmps129
      go_wp2
      go_ret
      exact ⟨ret_int (by omega), rfl⟩
    · rw [if_neg h2]
      by_cases h3 : 65 ≤ c ∧ c ≤ 90
      · obtain ⟨a, b⟩ := h3
        rw [if_pos ⟨a, b⟩]
        clear h1 h2
        go_enter Tryd.func129, Tryd.ntmps129
        go_wp2
        go_ret
        exact ⟨ret_int (by omega), rfl⟩
      · rw [if_neg h3]
        rcases (show c < 48 ∨ (57 < c ∧ c < 65) ∨ (90 < c ∧ c < 97) ∨ 122 < c by omega) with h | ⟨h, h'⟩ | ⟨h, h'⟩ | h
        all_goals
          clear h1 h2 h3
          go_enter Tryd.func129, Tryd.ntmps129
          go_wp2
          go_ret
          exact ⟨rfl, rfl⟩
def whB (c : Nat) : Bool := (decide (9 ≤ c) && decide (c ≤ 13)) || decide (c = 32)
theorem white_any (c : Nat) (w : World) (hc : c ≤ 255) : Calls Tryd.prog 110 #[.int .u8 c] w fun e w' => e = .returned (.bool (whB c)) ∧ w = w' := by
  by_cases h : 9 ≤ c ∧ c ≤ 13
  · have hw : whB c = true := by unfold whB; simp; omega
    obtain ⟨h1, h2⟩ := h
    rw [hw]
    clear hw
    go_enter Tryd.func110, Tryd.ntmps110
    go_wp2
    go_ret
    exact ⟨rfl, rfl⟩
  · have hd : (decide (9 ≤ (c : Int)) && decide ((c : Int) ≤ 13)) = false := by simp; omega
    by_cases h32 : c = 32
    · subst h32
      go_enter Tryd.func110, Tryd.ntmps110
      go_wp2
      go_ret
      exact ⟨rfl, rfl⟩
    · have hw : whB c = false := by unfold whB; simp; omega
      have hb : ((c : Int) == 32) = false := by rw [beq_eq_false_iff_ne]; omega
      rw [hw]
      clear hw hd h32
      rcases (show c < 9 ∨ 13 < c by omega) with h1 | h1
      all_goals
        clear h
        go_enter Tryd.func110, Tryd.ntmps110
        go_wp2
        go_ret
        exact ⟨by simp; try omega, rfl⟩
end Go.Proofs.YtkpoegdcmnjedaaDoor
