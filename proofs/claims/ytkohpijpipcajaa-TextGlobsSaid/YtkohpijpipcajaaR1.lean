import Derived.Test.YtkohpijpipcajaaQ2
namespace Go.Proofs.Ytkohpijpipcajaa
open Go.RowKit
set_option linter.unusedVariables false
set_option linter.unusedSimpArgs false

/-- is a byte among the bytes of a text? -/
def inC (ch : ByteArray) (c : Int) : Bool := (numsB ch).contains c

set_option maxRecDepth 100000 in
theorem has_any (ch : ByteArray) (c : Int) (w : World) (hs : ch.size ≤ 100000) (h0 : 0 ≤ c) (h1 : c ≤ 255) :
    Calls Try.prog 62 #[.string ch, .int .u8 c] w fun e w' => e = .returned (.bool (inC ch c)) ∧ w = w' := by
  have HN := Lib.hid (numsB_length ch)
  go_enter Try.func62, Try.ntmps62
  go_wp2
  go_loop [8] (fun i => ∃ k : Nat, i = .int .i64 k ∧ k ≤ ch.size ∧ Hid (∀ j : Nat, j < k → (numsB ch).getD j 0 ≠ c)) (fun i => ch.size - (intOf i).toNat)
  case atStart => exact ⟨0, rfl, Nat.zero_le _, Lib.hid fun j hj => by omega⟩
  case round =>
    obtain ⟨k, rfl, hk, hno⟩ := hrel
    by_cases hlt : k < ch.size
    · have hx := byte_num ch hlt
      have hkl : Hid (k < (numsB ch).length) := Lib.hid (by rw [HN.out]; exact hlt)
      generalize hxe : (numsB ch).getD k 0 = x at hx
      have HX := Lib.hid hxe
      clear hxe
      by_cases he : x = c
      · have HE := Lib.hid (show inC ch c = true by
          unfold inC
          rw [List.contains_iff_mem, ← he, ← HX.out, List.getD_eq_getElem?_getD, List.getElem?_eq_getElem hkl.out]
          exact List.getElem_mem _)
        subst he
        go_wp2
        go_ret
        exact ⟨by rw [HE.out]; rfl, rfl⟩
      · have hd : (x == c) = false := by simpa using he
        have HQ := Lib.hid he
        clear he
        go_wp2
        go_round
        case rel => exact ⟨k + 1, by go_num, by omega, Lib.hid fun j hj => by
          by_cases e : j = k
          · rw [e, HX.out]; exact HQ.out
          · exact hno.out j (by omega)⟩
        case measure => simp [intOf]; omega
    · have HE := Lib.hid (show inC ch c = false by
        unfold inC
        cases hc : (numsB ch).contains c with
        | false => rfl
        | true =>
          rw [List.contains_iff_mem] at hc
          obtain ⟨j, hj, e⟩ := List.mem_iff_getElem.1 hc
          have := hno.out j (by have := HN.out; omega)
          rw [List.getD_eq_getElem?_getD, List.getElem?_eq_getElem hj] at this
          exact absurd e this)
      go_wp2
      go_ret
      exact ⟨by rw [HE.out]; rfl, rfl⟩

/-- how many bytes at the beginning are among those. -/
theorem takeWhile_len {p : Int → Bool} : ∀ {l : List Int} {k : Nat}, k ≤ l.length → (∀ j, j < k → p (l.getD j 0) = true) → (k = l.length ∨ p (l.getD k 0) = false) → (l.takeWhile p).length = k
  | [], k, hk, _, _ => by simp at hk; simp [hk]
  | a :: l, 0, _, _, h => by
    have : p a = false := by simpa using h
    simp [List.takeWhile_cons, this]
  | a :: l, k + 1, hk, h, h2 => by
    have ha : p a = true := by simpa using h 0 (by omega)
    have := takeWhile_len (p := p) (l := l) (k := k) (by simpa using hk) (fun j hj => by simpa using h (j + 1) (by omega)) (by simpa using h2)
    simp [List.takeWhile_cons, ha, this]

def leadN (s ch : ByteArray) : Nat := ((numsB s).takeWhile (inC ch)).length
def trailN (s ch : ByteArray) (f : Nat) : Nat := (((numsB s).drop f).reverse.takeWhile (inC ch)).length
def trimF (s ch : ByteArray) (left : Bool) : Nat := if left = true then leadN s ch else 0
def trimE (s ch : ByteArray) (left right : Bool) : Nat := if right = true then s.size - trailN s ch (trimF s ch left) else s.size
def trimT (s ch : ByteArray) (left right : Bool) : ByteArray := s.extract (trimF s ch left) (trimE s ch left right)

theorem rev_getD {l : List Int} {f j : Nat} (hj : j < l.length - f) : ((l.drop f).reverse).getD j 0 = l.getD (l.length - 1 - j) 0 := by
  have h1 : j < (l.drop f).reverse.length := by rw [List.length_reverse, List.length_drop]; exact hj
  rw [List.getD_eq_getElem?_getD, List.getElem?_eq_getElem h1, List.getElem_reverse, List.getElem_drop, List.getD_eq_getElem?_getD, List.getElem?_eq_getElem (show l.length - 1 - j < l.length by omega)]
  simp
  congr 1
  omega
theorem lead_is {s ch : ByteArray} {k : Nat} (hk : k ≤ s.size) (h : ∀ j, j < k → inC ch ((numsB s).getD j 0) = true) (h2 : k = s.size ∨ inC ch ((numsB s).getD k 0) = false) : leadN s ch = k :=
  takeWhile_len (by rw [numsB_length]; exact hk) h (by rw [numsB_length]; exact h2)
theorem trail_is {s ch : ByteArray} {f m : Nat} (hm : m + f ≤ s.size) (h : ∀ j, j < m → inC ch ((numsB s).getD (s.size - 1 - j) 0) = true) (h2 : m + f = s.size ∨ inC ch ((numsB s).getD (s.size - 1 - m) 0) = false) : trailN s ch f = m := by
  have hl := numsB_length s
  unfold trailN
  refine takeWhile_len (by rw [List.length_reverse, List.length_drop, hl]; omega) (fun j hj => ?_) ?_
  · rw [rev_getD (by rw [hl]; omega), hl]; exact h j hj
  · rw [List.length_reverse, List.length_drop, hl]
    by_cases e : m + f = s.size
    · exact Or.inl (by omega)
    · refine Or.inr ?_
      rw [rev_getD (by rw [hl]; omega), hl]
      exact h2.resolve_left e
end Go.Proofs.Ytkohpijpipcajaa
