import Derived.Test.YtkpoegdcmnjedaaDoorMA1
import Derived.Test.YtkpoegdcmnjedaaDoorProg
import Derived.WalkKit
import Derived.ProofKit
import Derived.OpenShut
import Derived.Outline
import Derived.Lib.Hide
import Derived.IntWalk
import Derived.LoopN
import Derived.LoopTactic
import Derived.Laws.OwnMore
import Derived.Laws.AppendOwn
namespace Go.Proofs.YtkpoegdcmnjedaaDoor
open Go.RowKit
set_option linter.unusedVariables false
set_option linter.unusedSimpArgs false

theorem owns_below {w w' : World} {β : Nat} {e : TypeId} {k : Nat} {v : Value} {n : Nat} {xs : List Value} (h : w.ownsRow β e k v n xs) (hb : Below w.heap.size w w') : w'.ownsRow β e k v n xs := by
  refine h.kept (row := none) ⟨hb.os, hb.tape, hb.output, hb.size, fun k hk _ => hb.block k hk⟩ ?_
  cases hv : v.ownBlock with
  | none => exact Or.inl rfl
  | some k => exact Or.inr (by simp)
theorem owns_mono {w : World} {β β' : Nat} {e : TypeId} {k : Nat} {v : Value} {n : Nat} {xs : List Value} (h : w.ownsRow β e k v n xs) (hb : β' ≤ β) : w.ownsRow β' e k v n xs := by
  refine ⟨h.1, ?_⟩
  rcases h.2 with h | ⟨g, cap, cur, h1, h2, h3⟩
  · exact Or.inl h
  · exact Or.inr ⟨g, cap, cur, h1, Nat.le_trans hb h2, h3⟩

theorem info75 : (Tryd.prog.info? 75).map (fun i => (i.zero, i.size, i.bytes)) = some (some (.int .u32 0), 1, 4) := by kernel_rfl
theorem info3 : (Tryd.prog.info? 3).map (fun i => (i.zero, i.size, i.bytes)) = some (some (.int .i64 0), 1, 8) := by kernel_rfl

/-- the base of the digits. -/
abbrev B32 : Nat := 4294967296
def U32s (l : List Nat) : List Value := l.map fun d : Nat => Value.int .u32 (d : Int)
theorem U32s_length (l : List Nat) : (U32s l).length = l.length := by simp [U32s]
theorem U32s_get {l : List Nat} {i : Nat} (h : i < l.length) : (U32s l)[i]? = some (.int .u32 (dg l i : Int)) := by simp [U32s, dg, h]
theorem U32s_snoc (l : List Nat) (d : Nat) : U32s l ++ [.int .u32 (d : Int)] = U32s (l ++ [d]) := by simp [U32s]
/-- a slice of digits in a block of its own. -/
def M (B : Nat) (W : World) (v : Value) (l : List Nat) : Prop := W.ownsRow B 75 1 v l.length (U32s l)
theorem M.below {B : Nat} {W W' : World} {v : Value} {l : List Nat} (h : M B W v l) (hb : Below W.heap.size W W') : M B W' v l := owns_below h hb
theorem M.later {B k : Nat} {W W' : World} {v : Value} {l : List Nat} (h : M B W v l) (hb : Below k W W') (hk : W.heap.size ≤ k) : M B W' v l := owns_below h (hb.mono hk)
theorem M.mono {B B' : Nat} {W : World} {v : Value} {l : List Nat} (h : M B W v l) (hb : B' ≤ B) : M B' W v l := owns_mono h hb
theorem M.slice {B : Nat} {W : World} {v : Value} {l : List Nat} (h : M B W v l) : ∃ ao cap, v = .slice ao l.length cap ∧ l.length ≤ cap ∧ cap ≤ maxLen := by
  rcases h.2 with ⟨rfl, h0⟩ | ⟨g, cap, cur, rfl, _, _, h1, h2, _⟩
  · exact ⟨none, 0, by rw [h0], by omega, by simp⟩
  · exact ⟨_, cap, rfl, h1, h2⟩
theorem M.block {B : Nat} {W : World} {ao : Option Addr} {n cap : Nat} {l : List Nat} (h : M B W (.slice ao n cap) l) (hl : 0 < n) : ∃ g, ao = some ⟨g, 0, none⟩ ∧ B ≤ g ∧ g < W.heap.size := by
  rcases h.2 with ⟨e, h⟩ | ⟨g, cap, cur, e, h0, h3, h1, h2, _⟩
  · cases e; omega
  · cases e
    exact ⟨g, rfl, h0, (Array.getElem?_eq_some_iff.1 h3).1⟩
theorem M.cell {B : Nat} {W : World} {g n cap : Nat} {l : List Nat} (h : M B W (.slice (some ⟨g, 0, none⟩) n cap) l) {i : Nat} (hi : i < l.length) : W.cell? ⟨g, i, none⟩ = some (.int .u32 (dg l i : Int)) := by
  rcases h.2 with ⟨e, _⟩ | ⟨g, cap, cur, e, _⟩
  · cases e
  · cases e
    rw [World.ownsRow.cellAt h i (by omega), U32s_get hi]
theorem M.nil (B : Nat) (W : World) : M B W (.slice none 0 0) [] := World.ownsRow_nil W B 75 1
theorem M.take {B : Nat} {W : World} {ao : Option Addr} {n cap : Nat} {l : List Nat} (h : M B W (.slice ao n cap) l) {k : Nat} (hk : k ≤ l.length) : M B W (.slice ao k cap) (l.take k) := by
  have hk' : (l.take k).length = k := by rw [List.length_take, Nat.min_eq_left hk]
  unfold M
  rw [hk']
  refine ⟨by rw [U32s_length, hk']; omega, ?_⟩
  rcases h.2 with ⟨e, h0⟩ | ⟨g, cap, cur, e, h0, h1, h2, h3, h4, h5⟩
  · cases e
    have : k = 0 := by omega
    subst this
    exact Or.inl ⟨rfl, rfl⟩
  · cases e
    refine Or.inr ⟨g, cap, cur, rfl, h0, h1, by omega, h3, h4, ?_⟩
    have : U32s (l.take k) = (U32s l).take k := by simp [U32s, List.map_take]
    rw [this, ← h5, List.take_take, Nat.mul_one, Nat.mul_one, Nat.min_eq_left hk]
theorem M.len {B : Nat} {W : World} {ao : Option Addr} {n cap : Nat} {l : List Nat} (h : M B W (.slice ao n cap) l) : n = l.length := by
  rcases h.2 with ⟨e, h0⟩ | ⟨g, cap, cur, e, h0, h1, h2, h3, h4, h5⟩ <;> cases e
  · exact h0.symm
  · rfl

/-- how many digits a number has. -/
def nd (n : Nat) : Nat := (digs B32 n).length
theorem nd_take {l : List Nat} {k : Nat} (h : Dig B32 l) (hk : k ≤ l.length) (hz : ∀ j, k ≤ j → dg l j = 0) (ht : k = 0 ∨ dg l (k - 1) ≠ 0) : k = nd (val B32 l) := by
  have := trim_take (by decide) h hk hz ht
  unfold nd
  rw [← this, List.length_take, Nat.min_eq_left hk]
theorem nd_le {l : List Nat} (h : Dig B32 l) : nd (val B32 l) ≤ l.length := (digs_length_le (by decide)).2 (val_lt h)
/-- where the last digit that is no zero stands. -/
theorem top_of (l : List Nat) : ∃ k, k ≤ l.length ∧ (∀ j, k ≤ j → dg l j = 0) ∧ (k = 0 ∨ dg l (k - 1) ≠ 0) := by
  have : ∀ n, n ≤ l.length → (∀ j, n ≤ j → dg l j = 0) → ∃ k, k ≤ l.length ∧ (∀ j, k ≤ j → dg l j = 0) ∧ (k = 0 ∨ dg l (k - 1) ≠ 0) := by
    intro n
    induction n with
    | zero => intro h hz; exact ⟨0, h, hz, Or.inl rfl⟩
    | succ n ih =>
      intro h hz
      by_cases e : dg l n = 0
      · exact ih (by omega) fun j hj => by
          by_cases e2 : j = n
          · rw [e2]; exact e
          · exact hz j (by omega)
      · exact ⟨n + 1, h, hz, Or.inr e⟩
  exact this l.length (Nat.le_refl _) fun j hj => dg_ge hj
theorem take_nd {l : List Nat} (h : Dig B32 l) : l.take (nd (val B32 l)) = digs B32 (val B32 l) := by
  obtain ⟨k, h1, h2, h3⟩ := top_of l
  rw [← nd_take h h1 h2 h3]
  exact trim_take (by decide) h h1 h2 h3
/-- what trimmed leaves, as a row. -/
theorem M.trim {B : Nat} {W : World} {ao : Option Addr} {n cap : Nat} {l : List Nat} (h : M B W (.slice ao n cap) l) (hd : Dig B32 l) : M B W (.slice ao (nd (val B32 l)) cap) (digs B32 (val B32 l)) := by
  rw [← take_nd hd]
  exact h.take (nd_le hd)

set_option maxHeartbeats 400000 in
theorem trimmed_any {B : Nat} {ao : Option Addr} {n cap : Nat} {l : List Nat} {W : World} (h : M B W (.slice ao n cap) l) (hd : Dig B32 l) :
    Calls Tryd.prog 125 #[.slice ao n cap] W fun e W' => e = .returned (.slice ao (nd (val B32 l)) cap) ∧ W = W' := by
  obtain rfl := h.len
  obtain ⟨ao', cap', e, hc1, hc2⟩ := h.slice
  cases e
  unfold maxLen at hc2
  have H := Lib.hid h
  have HD := Lib.hid hd
  clear h hd
  go_enter Tryd.func125, Tryd.ntmps125
  go_wp2
  go_loop [0] (fun v => ∃ k : Nat, k ≤ l.length ∧ v = .slice ao k cap ∧ Hid (∀ j, k ≤ j → dg l j = 0)) (fun v => match v with | .slice _ k _ => k | _ => 0)
  case atStart => exact ⟨_, Nat.le_refl _, rfl, Lib.hid fun j hj => dg_ge hj⟩
  case round =>
    obtain ⟨k, hk, rfl, hz⟩ := hrel
    by_cases hp : 0 < k
    · obtain ⟨g, rfl, _, _⟩ := H.out.block (show 0 < l.length by omega)
      have hcell := H.out.cell (show k - 1 < l.length by omega)
      have e1 : ((k : Int) - 1).toNat = k - 1 := by omega
      by_cases h0 : dg l (k - 1) = 0
      · have HZ : Hid (∀ j, k - 1 ≤ j → dg l j = 0) := Lib.hid fun j hj => by
          by_cases e : j = k - 1
          · rw [e]; exact h0
          · exact hz.out j (by omega)
        rw [h0] at hcell
        clear h0
        go_wp2
        go_round
        case rel => exact ⟨k - 1, by omega, rfl, HZ⟩
        case measure => simp; omega
      · have hne : ((dg l (k - 1) : Int) == 0) = false := by rw [beq_eq_false_iff_ne]; omega
        have HK := Lib.hid (nd_take HD.out hk hz.out (Or.inr h0))
        go_wp2
        go_ret
        exact ⟨by rw [← HK.out]; rfl, rfl⟩
    · obtain rfl : k = 0 := by omega
      have HK := Lib.hid (nd_take HD.out hk hz.out (Or.inl rfl))
      go_wp2
      go_ret
      exact ⟨by rw [← HK.out]; rfl, rfl⟩
end Go.Proofs.YtkpoegdcmnjedaaDoor
