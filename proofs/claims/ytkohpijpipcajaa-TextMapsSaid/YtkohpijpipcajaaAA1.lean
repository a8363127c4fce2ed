import Derived.Test.YtkohpijpipcajaaZ2
import Derived.Test.YtkohpijpipcajaaG1
namespace Go.Proofs.Ytkohpijpipcajaa
open Go.RowKit
set_option linter.unusedVariables false
set_option linter.unusedSimpArgs false

theorem extract_join (s : ByteArray) {a b c : Nat} (h : a ≤ b) (h2 : b ≤ c) : s.extract a b ++ s.extract b c = s.extract a c := by
  apply toList_inj
  rw [ByteArray.toList_eq, ByteArray.toList_eq, ByteArray.data_append, Array.toList_append, extract_list, extract_list, extract_list]
  rw [show c - a = (b - a) + (c - b) by omega, List.take_add, List.drop_drop, show a + (b - a) = b by omega]

/-- a key mapped to itself changes nothing. -/
theorem walk_same (key s : ByteArray) (hs : s.size ≤ 400) : ∀ n i : Nat, i ≤ s.size → s.size - i ≤ n → walkM [key, key] false s n i (s.extract 0 i) = s := by
  intro n
  induction n with
  | zero =>
    intro i hi hn
    obtain rfl : i = s.size := by omega
    rw [walkM, extract_whole]
  | succ n ih =>
    intro i hi hn
    rw [walkM]
    have hsz : (s.extract 0 i).size = i := by rw [ByteArray.size_extract]; omega
    by_cases hlt : i < s.size
    · rw [if_pos ⟨hlt, by omega⟩]
      have key2 : ∃ d, stepAt [key, key] false s i = d ∧ pieceAt [key, key] false s i = s.extract i (i + d) ∧ 1 ≤ d ∧ i + d ≤ s.size := by
        unfold stepAt pieceAt
        rcases find_range (p := fun m => keyAt false s (keyM [key, key] m) i) ([key, key].length / 2) with ⟨e, _⟩ | ⟨m, e, hm, hp, _⟩
        · have e' : fitM [key, key] false s i = none := e
          rw [e']
          exact ⟨1, rfl, rfl, Nat.le_refl _, hlt⟩
        · have e' : fitM [key, key] false s i = some m := e
          rw [e']
          obtain rfl : m = 0 := by
            have h1 : [key, key].length / 2 = 1 := by simp
            rw [h1] at hm; omega
          have hk := keyAt_in hp
          have h3 : s.extract i (i + key.size) = key := toList_inj (by have := hk.2.2; have e0 : keyM [key, key] 0 = key := rfl; rw [e0] at this; simpa [alk] using this)
          exact ⟨key.size, rfl, h3.symm, hk.1, hk.2.1⟩
      obtain ⟨d, h1, h2, h3, h4⟩ := key2
      rw [h1, h2, extract_join s (Nat.zero_le _) (by omega)]
      exact ih (i + d) h4 (by omega)
    · rw [if_neg (fun h => hlt h.1)]
      obtain rfl : i = s.size := by omega
      exact extract_whole s
theorem map_same (key s : ByteArray) (hs : s.size ≤ 400) : mapT [key, key] false s = s ∧ mapE [key, key] false s = 0 := by
  have h : mapR [key, key] false s = s := by
    have := walk_same key s hs s.size 0 (Nat.zero_le _) (by omega)
    rw [extract_none s (Nat.le_refl 0)] at this
    exact this
  unfold mapT mapE
  rw [h]
  exact ⟨if_pos ⟨by simp, by omega⟩, by rw [if_pos (by simp), if_pos (by omega)]⟩
theorem map_same_any (key s : ByteArray) (g : Nat) (w : World) (hs : s.size ≤ 400) (hk : key.size ≤ 400) (h0 : w.cell? ⟨g, 0, none⟩ = some (.string key)) (h1 : w.cell? ⟨g, 1, none⟩ = some (.string key)) :
    Calls Try.prog 43 #[.string s, .slice (some ⟨g, 0, none⟩) 2 2, .bool false] w fun e w' => e = .returned (.tuple #[.string s, .int .i64 0]) ∧ Below w.heap.size w w' := by
  have := map_any [key, key] false s (some ⟨g, 0, none⟩) 2 w hs (by simp) (by unfold anyLong; simp; omega) (fun i hi => ?_)
  · rw [(map_same key s hs).1, (map_same key s hs).2] at this
    exact this
  · match i, hi with
    | 0, _ => exact ⟨_, rfl, h0⟩
    | 1, _ => exact ⟨_, rfl, h1⟩
theorem long1 (s : ByteArray) (g : Nat) (v : Bool) (w : World) (hs : s.size ≤ 9223372036854775807) (h0 : w.cell? ⟨g, 0, none⟩ = some (.string s)) (hv : decide (400 < s.size) = v) :
    Calls Try.prog 9 #[.slice (some ⟨g, 0, none⟩) 1 1] w fun e w' => e = .returned (.bool v) ∧ w = w' := by
  have := long_any [s] (some ⟨g, 0, none⟩) 1 w (fun i hi => ?_) (by simp) (fun x hx => by simp at hx; rw [hx]; exact hs)
  · have e : anyLong [s] = v := by rw [← hv]; simp [anyLong]
    rw [e] at this
    exact this
  · match i, hi with
    | 0, _ => exact ⟨_, rfl, h0⟩
end Go.Proofs.Ytkohpijpipcajaa
