import Derived.Test.YtkpoegdcmnjedaaDoorSC1
namespace Go.Proofs.YtkpoegdcmnjedaaDoor
open Go.RowKit
set_option linter.unusedVariables false
set_option linter.unusedSimpArgs false

def longB (most : Nat) (ss : List ByteArray) : Bool := ss.any fun s => decide (most < s.size)
set_option maxHeartbeats 1000000 in
theorem long_any (most g cap : Nat) (ss : List ByteArray) (W : World) (h : Txs g ss W) (hl : ss.length ≤ 1000) (hz : ∀ s ∈ ss, s.size ≤ 9223372036854775807) (hm : most ≤ 1000000) :
    Calls Tryd.prog 11 #[.int .i64 most, .slice (some ⟨g, 0, none⟩) ss.length cap] W fun e W' => e = .returned (.bool (longB most ss)) ∧ W = W' := by
  obtain ⟨r, HR⟩ : ∃ r, Hid (longB most ss = r) := ⟨_, Lib.hid rfl⟩
  rw [HR.out]
  have H := Lib.hid h
  have HZ := Lib.hid hz
  clear h hz
  go_enter Tryd.func11, Tryd.ntmps11
  go_wp2
  go_loop [9] (fun iv => ∃ k : Nat, iv = .int .i64 k ∧ k ≤ ss.length ∧ Hid (∀ j (h : j < ss.length), j < k → decide (most < ss[j].size) = false)) (fun iv => ss.length - (intOf iv).toNat)
  case atStart => exact ⟨0, rfl, Nat.zero_le _, Lib.hid fun j _ h => absurd h (Nat.not_lt_zero _)⟩
  case round =>
    obtain ⟨k, rfl, hk, hp⟩ := hrel
    by_cases hlt : k < ss.length
    · have hcell := H.out.2 k hlt
      obtain ⟨s, HS⟩ : ∃ s, Hid (ss[k] = s) := ⟨_, Lib.hid rfl⟩
      rw [HS.out] at hcell
      have hsz : s.size ≤ 9223372036854775807 := by rw [← HS.out]; exact HZ.out _ (List.getElem_mem hlt)
      by_cases hb : most < s.size
      · have hr : Hid (true = r) := Lib.hid (by
          rw [← HR.out]; symm
          unfold longB
          rw [List.any_eq_true]
          exact ⟨ss[k], List.getElem_mem hlt, by rw [HS.out]; exact decide_eq_true hb⟩)
        go_wp2
        go_ret
        exact ⟨by rw [← hr.out] <;> rfl, rfl⟩
      · have hd : decide (most < s.size) = false := decide_eq_false hb
        have HG : Hid (∀ j (h : j < ss.length), j < k + 1 → decide (most < ss[j].size) = false) := Lib.hid fun j h hj => by
          by_cases e : j = k
          · subst e; rw [HS.out]; exact hd
          · exact hp.out j h (by omega)
        go_wp2
        go_round
        case rel => exact ⟨k + 1, by go_num, by omega, HG⟩
        case measure => simp [intOf] <;> omega
    · obtain rfl : k = ss.length := by omega
      have hr : Hid (false = r) := Lib.hid (by
        rw [← HR.out]; symm
        unfold longB
        rw [List.any_eq_false]
        intro s hs
        obtain ⟨i, hi, rfl⟩ := List.getElem_of_mem hs
        rw [hp.out i hi hi]; decide)
      go_wp2
      go_ret
      exact ⟨by rw [← hr.out] <;> rfl, rfl⟩
theorem OneQ.det {f : Int → Int} {s : ByteArray} {W W' W1 W1' : World} {r r' : ByteArray} {er er' : Int} (h : OneQ f s W (.returned (.tuple #[.string r, .int .i64 er])) W') (h' : OneQ f s W1 (.returned (.tuple #[.string r', .int .i64 er'])) W1') : r = r' ∧ er = er' := by
  obtain ⟨x, ex, e1, h1, _⟩ := h
  obtain ⟨y, ey, e2, h2, _⟩ := h'
  simp only [Ending.returned.injEq, Value.tuple.injEq, Array.mk.injEq, List.cons.injEq, Value.string.injEq, Value.int.injEq, and_true, true_and] at e1 e2
  obtain ⟨rfl, rfl⟩ := e1
  obtain ⟨rfl, rfl⟩ := e2
  rcases h1 with ⟨a1, b1, c1⟩ | ⟨a1, d1, b1, c1⟩ | ⟨a1, d1, b1, c1⟩ <;> rcases h2 with ⟨a2, b2, c2⟩ | ⟨a2, d2, b2, c2⟩ | ⟨a2, d2, b2, c2⟩ <;>
    first
    | exact absurd a2 a1
    | exact absurd a1 a2
    | (with_reducible exact ⟨b1.trans b2.symm, c1.trans c2.symm⟩)
    | omega
theorem TwoR.det {f : Int → Int → Int} {a b : ByteArray} {W W' W1 W1' : World} {r r' : ByteArray} {er er' : Int} (h : TwoR f a b W (.returned (.tuple #[.string r, .int .i64 er])) W') (h' : TwoR f a b W1 (.returned (.tuple #[.string r', .int .i64 er'])) W1') : r = r' ∧ er = er' := by
  obtain ⟨x, ex, e1, h1, _⟩ := h
  obtain ⟨y, ey, e2, h2, _⟩ := h'
  simp only [Ending.returned.injEq, Value.tuple.injEq, Array.mk.injEq, List.cons.injEq, Value.string.injEq, Value.int.injEq, and_true, true_and] at e1 e2
  obtain ⟨rfl, rfl⟩ := e1
  obtain ⟨rfl, rfl⟩ := e2
  rcases h1 with ⟨a1, b1, c1⟩ | ⟨a1, d1, b1, c1⟩ | ⟨a1, d1, d1', b1, c1⟩ <;> rcases h2 with ⟨a2, b2, c2⟩ | ⟨a2, d2, b2, c2⟩ | ⟨a2, d2, d2', b2, c2⟩ <;>
    first
    | exact absurd a2 a1
    | exact absurd a1 a2
    | (with_reducible exact ⟨b1.trans b2.symm, c1.trans c2.symm⟩)
    | omega
theorem CmpQ.det {a b : ByteArray} {W W' W1 W1' : World} {r r' : Int} {er er' : Int} (h : CmpQ a b W (.returned (.tuple #[.int .i64 r, .int .i64 er])) W') (h' : CmpQ a b W1 (.returned (.tuple #[.int .i64 r', .int .i64 er'])) W1') : r = r' ∧ er = er' := by
  obtain ⟨x, ex, e1, h1, _⟩ := h
  obtain ⟨y, ey, e2, h2, _⟩ := h'
  simp only [Ending.returned.injEq, Value.tuple.injEq, Array.mk.injEq, List.cons.injEq, Value.string.injEq, Value.int.injEq, and_true, true_and] at e1 e2
  obtain ⟨rfl, rfl⟩ := e1
  obtain ⟨rfl, rfl⟩ := e2
  rcases h1 with ⟨a1, b1, c1⟩ | ⟨a1, d1, b1, c1⟩ | ⟨a1, d1, d1', b1, c1⟩ <;> rcases h2 with ⟨a2, b2, c2⟩ | ⟨a2, d2, b2, c2⟩ | ⟨a2, d2, d2', b2, c2⟩ <;>
    first
    | exact absurd a2 a1
    | exact absurd a1 a2
    | (with_reducible exact ⟨b1.trans b2.symm, c1.trans c2.symm⟩)
    | omega
end Go.Proofs.YtkpoegdcmnjedaaDoor
