import Derived.Test.YtkohpijpipcajaaG1
import Derived.Laws.BytesArg
import Derived.LoopTactic
namespace Go.Proofs.Ytkohpijpipcajaa
open Go.RowKit
set_option linter.unusedVariables false
set_option linter.unusedSimpArgs false

theorem strOfNums_bytes (l : List UInt8) : strOfNums (l.map fun b => (b.toNat : Int)) = ⟨l.toArray⟩ := by
  apply ByteArray.ext
  apply Array.toList_inj.1
  rw [strOfNums_data, List.map_map]
  have : ((fun n : Int => UInt8.ofNat n.toNat) ∘ fun b : UInt8 => (b.toNat : Int)) = id := by funext b; simp
  rw [this]
  simp

/-- a row of bytes as a text. -/
theorem conv_own {W : World} {B n : Nat} {v : Value} {l : List UInt8} (h : W.ownsRow B 5 1 v n (Lib.byteCells l)) : (convert 54 9 v).run Try.prog W = .ok (.string ⟨l.toArray⟩) W := by
  have hlen : l.length = n := by have := h.1; simpa [Lib.byteCells] using this
  rcases h.2 with ⟨rfl, rfl⟩ | ⟨g, cap, cur, rfl, hB, hg, hn, hc, hs, ht⟩
  · obtain rfl : l = [] := List.length_eq_zero_iff.1 hlen
    exact run_convert_bytes_nil W 54 5 Try.underlying54 Try.underlying5 0 0 9 Try.underlying9
  · have := run_convert_bytes_arg (P := Try.prog) W 54 5 Try.underlying54 Try.underlying5 g 0 n cap (l.map fun b => (b.toNat : Int)) (by simpa using hlen) (fun i hi => by
      rw [Nat.zero_add, h.cellAt i (by omega)]
      have hi' : i < l.length := by omega
      simp [Lib.byteCells, List.getElem?_eq_getElem hi', List.getD]) 9 Try.underlying9
    rw [this, strOfNums_bytes]

theorem long_ok (s : ByteArray) (w : World) (h : s.size ≤ 65536) : Calls Try.prog 66 #[.string s] w fun e w' => e = .returned (.tuple #[.string s, .int .i64 0]) ∧ w' = w := by
  go_enter Try.func66, Try.ntmps66
  go_wp2
  go_ret2
  exact ⟨rfl, rfl⟩
theorem long_no (s : ByteArray) (w : World) (h : 65536 < s.size) (h2 : s.size ≤ 1000000) : Calls Try.prog 66 #[.string s] w fun e w' => e = .returned (.tuple #[.string ⟨#[]⟩, .int .i64 4]) ∧ w' = w := by
  go_enter Try.func66, Try.ntmps66
  go_wp2
  go_ret2
  exact ⟨rfl, rfl⟩

/-- Long of two texts. -/
theorem long2 (a b : ByteArray) (g : Nat) (w : World) (ha : a.size ≤ 9223372036854775807) (hb : b.size ≤ 9223372036854775807) (h0 : w.cell? ⟨g, 0, none⟩ = some (.string a)) (h1 : w.cell? ⟨g, 1, none⟩ = some (.string b)) :
    Calls Try.prog 9 #[.slice (some ⟨g, 0, none⟩) 2 2] w fun e w' => e = .returned (.bool (decide (400 < a.size ∨ 400 < b.size))) ∧ w' = w := by
  by_cases x : 400 < a.size
  · go_enter Try.func9, Try.ntmps9
    go_wp2
    refine wp_loop_rounds 1 ?_
    rw [rounds_succ]
    go_wp2
    go_ret
    exact ⟨by simp [x], rfl⟩
  · by_cases y : 400 < b.size
    · go_enter Try.func9, Try.ntmps9
      go_wp2
      refine wp_loop_rounds 2 ?_
      rw [rounds_succ]
      go_wp2
      rw [rounds_succ]
      go_wp2
      go_ret
      exact ⟨by simp [x, y], rfl⟩
    · go_enter Try.func9, Try.ntmps9
      go_wp2
      refine wp_loop_rounds 3 ?_
      rw [rounds_succ]
      go_wp2
      rw [rounds_succ]
      go_wp2
      rw [rounds_succ]
      go_wp2
      go_ret
      exact ⟨by simp [x, y], rfl⟩

/-- n copies, or too many. -/
def repT (s : ByteArray) (n : Int) : ByteArray := if 1 ≤ n ∧ 0 < s.size ∧ s.size * n.toNat ≤ 65536 then ⟨(Lib.repeatL s.data.toList n.toNat).toArray⟩ else ⟨#[]⟩
def repE (s : ByteArray) (n : Int) : Int := if 1 ≤ n ∧ 0 < s.size ∧ ¬ s.size * n.toNat ≤ 65536 then 4 else 0

theorem empty_no {s : ByteArray} (h : 0 < s.size) : s.toList.isEmpty = false ∧ ¬ s.toList = [] := by
  have hl : s.toList.length = s.size := by rw [ByteArray.toList_eq, Array.length_toList]; rfl
  cases hs : s.toList with
  | nil => rw [hs] at hl; simp at hl; omega
  | cons a l => exact ⟨rfl, by simp⟩
theorem empty_yes {s : ByteArray} (h : s.size = 0) : s.toList.isEmpty = true ∧ s.toList = [] := by
  have hl : s.toList.length = s.size := by rw [ByteArray.toList_eq, Array.length_toList]; rfl
  have := List.length_eq_zero_iff.1 (hl.trans h)
  exact ⟨by rw [this]; rfl, this⟩
theorem le_quo {n m : Nat} (h : 0 < m) : ((n : Int) ≤ 65536 / (m : Int)) ↔ m * n ≤ 65536 := by
  rw [Int.le_ediv_iff_mul_le (by omega), Nat.mul_comm]
  omega

theorem repeat_any (s : ByteArray) (n : Int) (w : World) (hs : s.size ≤ 400) (h0 : -9223372036854775808 ≤ n) (h1 : n ≤ 9223372036854775807) :
    Calls Try.prog 39 #[.string s, .int .i64 n] w fun e w' => e = .returned (.tuple #[.string (repT s n), .int .i64 (repE s n)]) ∧ Below w.heap.size w w' := by
  by_cases c1 : n < 1
  · have e1 : repT s n = ⟨#[]⟩ := by unfold repT; rw [if_neg (by omega)]
    have e2 : repE s n = 0 := by unfold repE; rw [if_neg (by omega)]
    rw [e1, e2]
    go_enter Try.func39, Try.ntmps39
    go_wp2
    go_ret2
    exact ⟨rfl, Below.refl _ _⟩
  · by_cases c2 : s.size = 0
    · have e1 : repT s n = ⟨#[]⟩ := by unfold repT; rw [if_neg (by omega)]
      have e2 : repE s n = 0 := by unfold repE; rw [if_neg (by omega)]
      rw [e1, e2]
      have ht' := (empty_yes c2).1
      clear c2 e1 e2
      go_enter Try.func39, Try.ntmps39
      go_wp2
      go_ret2
      exact ⟨rfl, Below.refl _ _⟩
    · have hp : 0 < s.size := by omega
      have ht' := (empty_no hp).1
      obtain ⟨m, rfl⟩ : ∃ m : Nat, n = m := ⟨n.toNat, by omega⟩
      have hq := le_quo (n := m) hp
      by_cases c3 : s.size * m ≤ 65536
      · have e1 : repT s m = ⟨(Lib.repeatL s.data.toList m).toArray⟩ := by unfold repT; rw [if_pos ⟨by omega, hp, by simpa using c3⟩]; simp
        have e2 : repE s m = 0 := by unfold repE; rw [if_neg (by simp; omega)]
        rw [e1, e2]
        have hle : (m : Int) ≤ 65536 / (s.size : Int) := hq.2 c3
        have hm : m ≤ 65536 := Nat.le_trans (Nat.le_mul_of_pos_left m hp) c3
        clear e1 e2 hq c2
        go_enter Try.func39, Try.ntmps39
        go_wp2_with fail
        refine (Try.strings_Repeat s m w (by omega) (by omega)).mono ?_
        rintro e w' ⟨rfl, hb⟩
        go_wp2
        go_ret2
        exact ⟨rfl, hb⟩
      · have e1 : repT s m = ⟨#[]⟩ := by unfold repT; rw [if_neg (by simp; omega)]
        have e2 : repE s m = 4 := by unfold repE; rw [if_pos ⟨by omega, hp, by simpa using c3⟩]
        rw [e1, e2]
        have hgt : 65536 / (s.size : Int) < m := by
          rcases Int.lt_or_le (65536 / (s.size : Int)) m with h | h
          · exact h
          · exact absurd (hq.1 h) c3
        clear e1 e2 hq c2 c3
        go_enter Try.func39, Try.ntmps39
        go_wp2
        go_ret2
        exact ⟨rfl, Below.refl _ _⟩
end Go.Proofs.Ytkohpijpipcajaa
