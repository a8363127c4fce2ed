import Derived.Test.YtkohpijpipcajaaW1
namespace Go.Proofs.Ytkohpijpipcajaa
open Go.RowKit
set_option linter.unusedVariables false
set_option linter.unusedSimpArgs false

theorem cell_later {w w' : World} {p : Addr} {v : Value} (hb : Below w.heap.size w w') (hc : w.cell? p = some v) : w'.cell? p = some v := (hb.cell (World.block_lt_of_cell? _ _ hc)).trans hc

/-- a slice of texts: what its cells hold. -/
def TextsAt (ps : List ByteArray) (ao : Option Addr) (w : World) : Prop :=
  ∀ i, i < ps.length → ∃ a, ao = some a ∧ w.cell? (a.add i) = some (.string (ps.getD i ByteArray.empty))

theorem TextsAt.below {ps : List ByteArray} {ao : Option Addr} {w w' : World} (h : TextsAt ps ao w) (hb : Below w.heap.size w w') : TextsAt ps ao w' := fun i hi => by
  obtain ⟨a, e, hc⟩ := h i hi
  exact ⟨a, e, cell_later hb hc⟩

/-- is one of the texts long? -/
def anyLong (ps : List ByteArray) : Bool := ps.any fun p => decide (400 < p.size)

theorem anyLong_no {ps : List ByteArray} (h : anyLong ps = false) (i : Nat) (hi : i < ps.length) : (ps.getD i ByteArray.empty).size ≤ 400 := by
  unfold anyLong at h
  rw [List.any_eq_false] at h
  have := h _ (List.getElem_mem hi)
  rw [List.getD_eq_getElem?_getD, List.getElem?_eq_getElem hi]
  simpa using this
theorem anyLong_yes {ps : List ByteArray} {i : Nat} (hi : i < ps.length) (h : 400 < (ps.getD i ByteArray.empty).size) : anyLong ps = true := by
  unfold anyLong
  rw [List.any_eq_true]
  rw [List.getD_eq_getElem?_getD, List.getElem?_eq_getElem hi] at h
  exact ⟨_, List.getElem_mem hi, by simpa using h⟩

set_option maxRecDepth 100000 in
theorem long_any (ps : List ByteArray) (ao : Option Addr) (cap : Nat) (w : World) (hp : TextsAt ps ao w) (hn : ps.length ≤ 9223372036854775807) (hsz : ∀ s ∈ ps, s.size ≤ 9223372036854775807) :
    Calls Try.prog 9 #[.slice ao ps.length cap] w fun e w' => e = .returned (.bool (anyLong ps)) ∧ w = w' := by
  have HP := Lib.hid hp
  have HZ := Lib.hid hsz
  clear hp hsz
  go_enter Try.func9, Try.ntmps9
  go_wp2
  go_loop [7] (fun i => ∃ k : Nat, i = .int .i64 k ∧ k ≤ ps.length ∧ Hid (∀ j : Nat, j < k → (ps.getD j ByteArray.empty).size ≤ 400)) (fun i => ps.length - (intOf i).toNat)
  case atStart => exact ⟨0, rfl, Nat.zero_le _, Lib.hid fun j hj => by omega⟩
  case round =>
    obtain ⟨k, rfl, hk, hno⟩ := hrel
    by_cases hlt : k < ps.length
    · obtain ⟨a, rfl, hc⟩ := HP.out k hlt
      have hz : (ps.getD k ByteArray.empty).size ≤ 9223372036854775807 := HZ.out _ (by rw [List.getD_eq_getElem?_getD, List.getElem?_eq_getElem hlt]; exact List.getElem_mem hlt)
      generalize hxe : ps.getD k ByteArray.empty = x at hc hz
      have HX := Lib.hid hxe
      clear hxe
      by_cases he : 400 < x.size
      · have HE := Lib.hid (anyLong_yes hlt (by rw [HX.out]; exact he))
        go_wp2
        go_ret
        exact ⟨by rw [HE.out]; rfl, rfl⟩
      · go_wp2
        go_round
        case rel => exact ⟨k + 1, by go_num, by omega, Lib.hid fun j hj => by
          by_cases e : j = k
          · rw [e, HX.out]; omega
          · exact hno.out j (by omega)⟩
        case measure => simp [intOf]; omega
    · have HE := Lib.hid (show anyLong ps = false by
        unfold anyLong
        rw [List.any_eq_false]
        intro x hx
        obtain ⟨j, hj, rfl⟩ := List.mem_iff_getElem.1 hx
        have := hno.out j (by omega)
        rw [List.getD_eq_getElem?_getD, List.getElem?_eq_getElem hj] at this
        simpa using this)
      go_wp2
      go_ret
      exact ⟨by rw [HE.out]; rfl, rfl⟩
end Go.Proofs.Ytkohpijpipcajaa
