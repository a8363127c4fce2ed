import Derived.Test.YtkohpijpipcajaaO3
namespace Go.Proofs.Ytkohpijpipcajaa
open Go.RowKit
set_option linter.unusedVariables false
set_option linter.unusedSimpArgs false

theorem firstP_step {s t : ByteArray} {f : Nat} (hfs : f ≤ s.size) (hp : 0 < t.size) :
    (firstP s t f = -1 ∧ Lib.count (s.data.toList.drop f) t.data.toList = 0) ∨
    (∃ i : Nat, firstP s t f = (i : Nat) ∧ f ≤ i ∧ i + t.size ≤ s.size ∧ Lib.count (s.data.toList.drop f) t.data.toList = 1 + Lib.count (s.data.toList.drop (i + t.size)) t.data.toList) := by
  have hne : t.data.toList ≠ [] := fun e => by have := size_list t; rw [e] at this; simp at this; omega
  rcases first_index (s := s) (t := t) (x := f) (f := f) (by omega) hfs hp with ⟨e, h⟩ | ⟨i, e, hi, h⟩
  · rw [tail_data] at e
    exact Or.inl ⟨isFirst_one (firstP_is s t f) h, Lib.count_miss e⟩
  · rw [tail_data] at e
    have hv := isFirst_one (firstP_is s t f) h
    refine Or.inr ⟨f + i, by omega, by omega, ?_, ?_⟩
    · rcases h with ⟨h, _⟩ | ⟨j, h, _, h2, _⟩
      · omega
      · omega
    · rw [Lib.count_hit hne e, List.drop_drop, size_list, ← Nat.add_assoc]

def cntM (s : ByteArray) (p : Int) : Nat := if p < 0 then 0 else s.size + 1 - p.toNat

set_option maxRecDepth 100000 in
theorem ref_count_val (s t : ByteArray) (w : World) (hs : s.size ≤ 100000) (hts : t.size ≤ 100000) (hp : 0 < t.size) :
    Calls Try.prog 20 #[.string t, .string s] w fun e w' => e = .returned (.int .i64 (Lib.countB s t)) ∧ w = w' := by
  have hle := Lib.count_le s.data.toList t.data.toList
  rw [size_list] at hle
  have HLE := Lib.hid hle
  clear hle
  go_enter Try.func20, Try.ntmps20
  go_wp2_with (go_at_call 16; refine (ref_first_val s t 0 _ hs hts (by decide) (by decide)).mono ?_; rintro e w' ⟨rfl, rfl⟩)
  go_loop [5, 6] (fun n p => ∃ f c : Nat, n = .int .i64 c ∧ p = .int .i64 (firstP s t f) ∧ f ≤ s.size ∧ Hid (c + Lib.count (s.data.toList.drop f) t.data.toList = Lib.countB s t)) (fun _ p => cntM s (intOf p))
  case atStart => exact ⟨0, 0, rfl, rfl, Nat.zero_le _, Lib.hid (by rw [Nat.zero_add]; rfl)⟩
  case round =>
    obtain ⟨f, c, rfl, rfl, hf, hc⟩ := hrel
    rcases firstP_step hf hp with ⟨e, h⟩ | ⟨i, e, h1, h2, h3⟩
    · rw [e]
      have HN : Hid (c = Lib.countB s t) := Lib.hid (by have := hc.out; omega)
      clear e h
      go_wp2
      go_ret
      exact ⟨by rw [← HN.out]; rfl, rfl⟩
    · rw [e]
      have hcb : c ≤ 100001 := by have := hc.out; have := HLE.out; have h4 : Lib.countB s t = Lib.count s.data.toList t.data.toList := rfl; omega
      have HE := Lib.hid e
      have HN : Hid (c + 1 + Lib.count (s.data.toList.drop (i + t.size)) t.data.toList = Lib.countB s t) := Lib.hid (by have := hc.out; omega)
      have hM : Hid (cntM s (firstP s t ((i + t.size : Nat) : Int)) < cntM s ((i : Nat) : Int)) := Lib.hid (by
        unfold cntM
        rcases firstP_step h2 hp with ⟨e2, _⟩ | ⟨j, e2, g1, g2, _⟩
        · rw [e2, if_pos (by decide), if_neg (by omega)]; omega
        · rw [e2, if_neg (by omega), if_neg (by omega)]; omega)
      have hcast : Hid (((i : Nat) : Int) + (t.size : Int) = ((i + t.size : Nat) : Int)) := Lib.hid (by omega)
      clear e h3 hc
      go_wp2_with (go_at_call 16; rw [hcast.out]; refine (ref_first_val s t ((i + t.size : Nat) : Int) _ hs hts (by omega) (by omega)).mono ?_; rintro e w' ⟨rfl, rfl⟩)
      go_round
      case rel => exact ⟨i + t.size, c + 1, by go_num, rfl, h2, HN⟩
      case measure => exact hM.out
theorem ref_count_none (s t : ByteArray) (w : World) (hs : s.size ≤ 100000) (h0 : t.size = 0) :
    Calls Try.prog 20 #[.string t, .string s] w fun e w' => e = .returned (.int .i64 0) ∧ w = w' := by
  have HE := Lib.hid (isFirst_one (firstP_is s t 0) (Or.inl ⟨rfl, Or.inl h0⟩))
  have hts : t.size ≤ 100000 := by omega
  clear h0
  go_enter Try.func20, Try.ntmps20
  go_wp2_with (go_at_call 16; refine (ref_first_val s t 0 _ hs hts (by decide) (by decide)).mono ?_; rintro e w' ⟨rfl, rfl⟩; rw [HE.out])
  refine wp_loop_rounds 1 ?_
  rw [rounds_succ]
  go_wp2
  go_ret
  exact ⟨rfl, rfl⟩
end Go.Proofs.Ytkohpijpipcajaa
