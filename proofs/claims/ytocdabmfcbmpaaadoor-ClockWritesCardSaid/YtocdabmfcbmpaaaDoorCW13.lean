import Derived.Test.YtocdabmfcbmpaaaDoorCW12
import Derived.Test.YtocdabmfcbmpaaaDoorSW4
namespace Go.Proofs.YtocdabmfcbmpaaaDoor
open Go.RowKit
set_option linter.unusedVariables false
set_option linter.unusedSimpArgs false
theorem pcs_len : ∀ (n : Nat) (l : List Nat) (q : List (Nat × Nat)), l.length ≤ n → pcs l = some q → q.length ≤ 5 * l.length
  | _, [], q, _, h => by
    rw [show pcs [] = some [] by simp [pcs]] at h
    cases h; exact Nat.zero_le _
  | 0, c :: rest, q, hn, _ => by simp at hn
  | n + 1, c :: rest, q, hn, h => by
    have hr : rest.length ≤ n := by simpa using hn
    by_cases hc : c = 37
    · subst hc
      cases rest with
      | nil => rw [pcs_one] at h; cases h
      | cons d rest =>
        have hr2 : rest.length ≤ n := by simp at hr; omega
        rw [pcs_2] at h
        split at h
        · obtain ⟨a, h1, rfl⟩ := map_some' h
          have := pcs_len n rest a hr2 h1
          simp; omega
        · split at h
          · obtain ⟨a, h1, rfl⟩ := map_some' h
            have := pcs_len n rest a hr2 h1
            simp [inD]; omega
          · split at h
            · obtain ⟨a, h1, rfl⟩ := map_some' h
              have := pcs_len n rest a hr2 h1
              simp [inT]; omega
            · split at h
              · obtain ⟨a, h1, rfl⟩ := map_some' h
                have := pcs_len n rest a hr2 h1
                simp; omega
              · cases h
    · rw [pcs_ne hc] at h
      obtain ⟨a, h1, rfl⟩ := map_some' h
      have := pcs_len n rest a hr h1
      simp; omega
set_option maxRecDepth 100000
theorem Write_out {t : Int} (ht : inT' t = false) (s : ByteArray) (hs : s.size ≤ 100000) (w : World) : Calls Tryd.prog 29 #[I t, .string s] w fun e w' => e = .returned (.tuple #[.string ⟨#[]⟩, E 7]) ∧ Below w.heap.size w w' := by
  have H33 := Lib.hid (fun w => time_h ht w)
  have H57 : Hid (∀ m W, MapL W m letM → Calls Tryd.prog 57 #[.string s, .map (some m)] W fun e w' => ∃ a b, e = .returned (.tuple #[a, .bool b]) ∧ Below W.heap.size W w') := Lib.hid fun m W hm => (pieces_any s hs m W (letL_of hm)).mono fun e w' hp => by
    cases hx : pcs (bytesL s) with
    | none => exact ⟨_, _, hp.2.1 hx, hp.2.2⟩
    | some l =>
      obtain ⟨ao, n, cap, h1, _⟩ := hp.1 l hx
      exact ⟨_, _, h1, hp.2.2⟩
  clear ht
  go_enter Tryd.func29, Tryd.ntmps29
  go_wp2_with (first | (go_at_call 56; (with_reducible refine (letters_any2 _).mono ?_); rintro e W1 ⟨m, rfl, hm1, hb1⟩; have HM1 := Lib.hid hm1; have HB1 := Lib.hid hb1; clear hm1 hb1) | (go_at_call 57; (with_reducible refine (H57.out m _ HM1.out).mono ?_); rintro e V ⟨a, b, rfl, hb2⟩; have HB2 := Lib.hid hb2; clear hb2) | (go_at_call 33; (with_reducible refine (H33.out _).mono ?_); rintro e w' ⟨rfl, rfl⟩))
  go_ret2
  exact ⟨rfl, HB1.out.trans (HB2.out.mono HB1.out.size)⟩
theorem Write_no {t : Int} (ht : inT' t = true) (s : ByteArray) (hs : s.size ≤ 100000) (hn : pcs (bytesL s) = none) (w : World) : Calls Tryd.prog 29 #[I t, .string s] w fun e w' => e = .returned (.tuple #[.string ⟨#[]⟩, E 2]) ∧ Below w.heap.size w w' := by
  have H33 := Lib.hid (fun w => time_h ht w)
  have H57 : Hid (∀ m W, MapL W m letM → Calls Tryd.prog 57 #[.string s, .map (some m)] W fun e w' => e = .returned (.tuple #[.slice none 0 0, .bool false]) ∧ Below W.heap.size W w') := Lib.hid fun m W hm => (pieces_any s hs m W (letL_of hm)).mono fun e w' hp => ⟨hp.2.1 hn, hp.2.2⟩
  clear ht hn
  go_enter Tryd.func29, Tryd.ntmps29
  go_wp2_with (first | (go_at_call 56; (with_reducible refine (letters_any2 _).mono ?_); rintro e W1 ⟨m, rfl, hm1, hb1⟩; have HM1 := Lib.hid hm1; have HB1 := Lib.hid hb1; clear hm1 hb1) | (go_at_call 57; (with_reducible refine (H57.out m _ HM1.out).mono ?_); rintro e V ⟨rfl, hb2⟩; have HB2 := Lib.hid hb2; clear hb2) | (go_at_call 33; (with_reducible refine (H33.out _).mono ?_); rintro e w' ⟨rfl, rfl⟩))
  go_ret2
  exact ⟨rfl, HB1.out.trans (HB2.out.mono HB1.out.size)⟩
theorem rWrite_out {t : Int} (ht : inT' t = false) (s : ByteArray) (w : World) : Calls Tryd.prog 30 #[I t, .string s] w fun e w' => e = .returned (.tuple #[.string ⟨#[]⟩, E 7]) ∧ Below w.heap.size w w' := by
  have H35 := Lib.hid (fun w => right_h ht w)
  clear ht
  go_enter Tryd.func30, Tryd.ntmps30
  go_wp2_with ((go_at_call 35; (with_reducible refine (H35.out _).mono ?_); rintro e w' ⟨rfl, rfl⟩))
  go_ret2
  exact ⟨rfl, Below.refl _ _⟩
theorem rWrite_no {t : Int} (ht : inT' t = true) (s : ByteArray) (hs : s.size ≤ 100000) (hn : pcs (bytesL s) = none) (w : World) (hT : Tab w) : Calls Tryd.prog 30 #[I t, .string s] w fun e w' => e = .returned (.tuple #[.string ⟨#[]⟩, E 2]) ∧ Below w.heap.size w w' := by
  have H35 := Lib.hid (fun w => right_h ht w)
  have H61 : Hid (Calls Tryd.prog 61 #[.string s] w fun e w' => e = .returned (.tuple #[.string ⟨#[]⟩, .bool false]) ∧ Below w.heap.size w w') := Lib.hid ((spread_any s hs w hT).mono fun e w' hp => ⟨hp.2.1 hn, hp.2.2⟩)
  clear ht hn hT
  go_enter Tryd.func30, Tryd.ntmps30
  go_wp2_with (first | (go_at_call 35; (with_reducible refine (H35.out _).mono ?_); rintro e w' ⟨rfl, rfl⟩) | (go_at_call 61; (with_reducible refine H61.out.mono ?_); rintro e W1 ⟨rfl, hb1⟩; have HB1 := Lib.hid hb1; clear hb1))
  go_ret2
  exact ⟨rfl, HB1.out⟩
theorem both_Write (t : Int) (s : ByteArray) (hs : s.size ≤ 200) : ∃ r er, (∀ w, Tab w → Calls Tryd.prog 29 #[I t, .string s] w fun e w' => e = .returned (.tuple #[.string r, E er]) ∧ Below w.heap.size w w') ∧ (∀ w, Tab w → Calls Tryd.prog 30 #[I t, .string s] w fun e w' => e = .returned (.tuple #[.string r, E er]) ∧ Below w.heap.size w w') := by
  cases ht : inT' t with
  | false => exact ⟨_, _, fun w _ => Write_out ht s (by omega) w, fun w _ => rWrite_out ht s w⟩
  | true =>
    cases hx : pcs (bytesL s) with
    | none => exact ⟨_, _, fun w _ => Write_no ht s (by omega) hx w, fun w hT => rWrite_no ht s (by omega) hx w hT⟩
    | some l =>
      have hl := pcs_len _ _ _ (Nat.le_refl _) hx
      rw [bytesL_length] at hl
      exact ⟨_, _, fun w hT => Write_any ht s (by omega) l hx w hT, fun w hT => rWrite_ok ht s (by omega) l hx (by omega) w hT⟩
end Go.Proofs.YtocdabmfcbmpaaaDoor
