import Derived.Test.YtocdabmfcbmpaaaDoorCW6
import Derived.Test.YtocdabmfcbmpaaaDoorCW3
namespace Go.Proofs.YtocdabmfcbmpaaaDoor
open Go.RowKit
set_option linter.unusedVariables false
set_option linter.unusedSimpArgs false
/-! ### how long a letter's text is, and that all pieces of a form are known -/
theorem pad_size {n : Int} {wd : Nat} (hwd : wd ≤ 10) (h : -9223372036854775808 ≤ n ∧ n ≤ 9223372036854775807) : (padS n wd).size ≤ 200 := by
  have hl := itoa_len n h.1 h.2
  rw [← dg_pad, dg_size]; omega
theorem itoS_size {n : Int} (h : -9223372036854775808 ≤ n ∧ n ≤ 9223372036854775807) : (itoS n).size ≤ 200 := by
  have hl := itoa_len n h.1 h.2
  show (Lib.itoa n).length ≤ 200
  omega
theorem getD_size {l : List ByteArray} (h : l.all (fun s => decide (s.size ≤ 200)) = true) (i : Nat) : (l.getD i ⟨#[]⟩).size ≤ 200 := by
  rw [List.getD_eq_getElem?_getD]
  cases hx : l[i]? with
  | none => exact Nat.zero_le _
  | some s => exact of_decide_eq_true (List.all_eq_true.1 h s (List.mem_of_getElem? hx))
theorem lookup_mem {α : Type} {L : List (Nat × α)} {c : Nat} (h : (L.lookup c).isSome = true) : c ∈ L.map Prod.fst := by
  induction L with
  | nil => simp at h
  | cons p L ih =>
    obtain ⟨k, v⟩ := p
    rw [List.lookup_cons] at h
    by_cases hc : c = k
    · subst hc; simp
    · have hb : (c == k) = false := by simpa using hc
      rw [hb] at h
      exact List.mem_cons_of_mem _ (ih h)
theorem let_known {c : Nat} (h : (letL.lookup c).isSome = true) : ∃ f, letM.lookup c = some (some f) ∧ ∀ t : Int, -62135596800 ≤ t → t ≤ 253402300799 → (f t).size ≤ 200 := by
  have hm := lookup_mem h
  have hk : letL.map Prod.fst = [89, 121, 109, 100, 72, 77, 83, 73, 106, 117, 71, 86, 112, 66, 98, 65, 97, 101, 115] := rfl
  rw [hk] at hm
  simp only [List.mem_cons, List.not_mem_nil, or_false] at hm
  rcases hm with rfl | rfl | rfl | rfl | rfl | rfl | rfl | rfl | rfl | rfl | rfl | rfl | rfl | rfl | rfl | rfl | rfl | rfl | rfl
  · exact ⟨_, rfl, fun t t0 t1 => pad_size (by decide) (g69_bd t t0 t1)⟩
  · exact ⟨_, rfl, fun t t0 t1 => pad_size (by decide) (g70_bd t t0 t1)⟩
  · exact ⟨_, rfl, fun t t0 t1 => pad_size (by decide) (g67_bd t t0 t1)⟩
  · exact ⟨_, rfl, fun t t0 t1 => pad_size (by decide) (g71_bd t t0 t1)⟩
  · exact ⟨_, rfl, fun t t0 t1 => pad_size (by decide) (g72_bd t t0 t1)⟩
  · exact ⟨_, rfl, fun t t0 t1 => pad_size (by decide) (g73_bd t t0 t1)⟩
  · exact ⟨_, rfl, fun t t0 t1 => pad_size (by decide) (g74_bd t t0 t1)⟩
  · exact ⟨_, rfl, fun t t0 t1 => pad_size (by decide) (g75_bd t t0 t1)⟩
  · exact ⟨_, rfl, fun t t0 t1 => pad_size (by decide) (gyd_bd t t0 t1)⟩
  · exact ⟨_, rfl, fun t t0 t1 => pad_size (by decide) (gwd_bd t t0 t1)⟩
  · exact ⟨_, rfl, fun t t0 t1 => pad_size (by decide) (gwy_bd t t0 t1)⟩
  · exact ⟨_, rfl, fun t t0 t1 => pad_size (by decide) (gwn_bd t t0 t1)⟩
  · exact ⟨_, rfl, fun t t0 t1 => getD_size (by decide) _⟩
  · exact ⟨_, rfl, fun t t0 t1 => getD_size (by decide) _⟩
  · exact ⟨_, rfl, fun t t0 t1 => getD_size (by decide) _⟩
  · exact ⟨_, rfl, fun t t0 t1 => getD_size (by decide) _⟩
  · exact ⟨_, rfl, fun t t0 t1 => getD_size (by decide) _⟩
  · exact ⟨_, rfl, fun t t0 t1 => itoS_size (by have := parts_bd t0 t1; omega)⟩
  · exact ⟨_, rfl, fun t t0 t1 => itoS_size (by omega)⟩
theorem known_nil (t : Int) : KnownM t [] := fun p hp => by simp at hp
theorem known_app {t : Int} {l m : List (Nat × Nat)} (h1 : KnownM t l) (h2 : KnownM t m) : KnownM t (l ++ m) := fun p hp => by
  rcases List.mem_append.1 hp with h | h
  · exact h1 p h
  · exact h2 p h
theorem known_one {t : Int} {c : Nat} (h : c < 256) : KnownM t [(0, c)] := fun p hp => by
  simp only [List.mem_singleton] at hp; subst hp; exact ⟨h, Or.inl rfl⟩
theorem known_let {t : Int} (t0 : -62135596800 ≤ t) (t1 : t ≤ 253402300799) {c : Nat} (h : (letL.lookup c).isSome = true) : KnownM t [(c, 0)] := fun p hp => by
  simp only [List.mem_singleton] at hp; subst hp
  obtain ⟨f, h1, h2⟩ := let_known h
  exact ⟨by show (0 : Nat) < 256; decide, Or.inr ⟨f, h1, h2 t t0 t1⟩⟩
theorem known_D {t : Int} (t0 : -62135596800 ≤ t) (t1 : t ≤ 253402300799) : KnownM t inD :=
  known_app (l := [(109, 0)]) (known_let t0 t1 rfl) (known_app (l := [(0, 47)]) (known_one (by decide)) (known_app (l := [(100, 0)]) (known_let t0 t1 rfl) (known_app (l := [(0, 47)]) (known_one (by decide)) (known_let t0 t1 rfl))))
theorem known_T {t : Int} (t0 : -62135596800 ≤ t) (t1 : t ≤ 253402300799) : KnownM t inT :=
  known_app (l := [(72, 0)]) (known_let t0 t1 rfl) (known_app (l := [(0, 58)]) (known_one (by decide)) (known_app (l := [(77, 0)]) (known_let t0 t1 rfl) (known_app (l := [(0, 58)]) (known_one (by decide)) (known_let t0 t1 rfl))))
theorem map_some' {α β : Type} {o : Option α} {f : α → β} {b : β} (h : o.map f = some b) : ∃ a, o = some a ∧ f a = b := by
  cases o with
  | none => cases h
  | some a => exact ⟨a, rfl, Option.some.inj h⟩
theorem pcs_known {t : Int} (t0 : -62135596800 ≤ t) (t1 : t ≤ 253402300799) : ∀ (n : Nat) (l : List Nat) (q : List (Nat × Nat)), l.length ≤ n → (∀ c ∈ l, c < 256) → pcs l = some q → KnownM t q
  | _, [], q, _, _, h => by
    rw [show pcs [] = some [] by simp [pcs]] at h
    cases h; exact known_nil t
  | 0, c :: rest, q, hn, _, _ => by simp at hn
  | n + 1, c :: rest, q, hn, hb, h => by
    have hr : rest.length ≤ n := by simpa using hn
    by_cases hc : c = 37
    · subst hc
      cases rest with
      | nil => rw [pcs_one] at h; cases h
      | cons d rest =>
        have hr2 : rest.length ≤ n := by simp at hr; omega
        have hb2 : ∀ c ∈ rest, c < 256 := fun c hc => hb c (List.mem_cons_of_mem _ (List.mem_cons_of_mem _ hc))
        rw [pcs_2] at h
        split at h
        · obtain ⟨a, h1, rfl⟩ := map_some' h
          exact known_app (l := [(0, 37)]) (known_one (by decide)) (pcs_known t0 t1 n rest a hr2 hb2 h1)
        · split at h
          · obtain ⟨a, h1, rfl⟩ := map_some' h
            exact known_app (known_D t0 t1) (pcs_known t0 t1 n rest a hr2 hb2 h1)
          · split at h
            · obtain ⟨a, h1, rfl⟩ := map_some' h
              exact known_app (known_T t0 t1) (pcs_known t0 t1 n rest a hr2 hb2 h1)
            · split at h
              · rename_i hs
                obtain ⟨a, h1, rfl⟩ := map_some' h
                exact known_app (l := [(d, 0)]) (known_let t0 t1 hs) (pcs_known t0 t1 n rest a hr2 hb2 h1)
              · cases h
    · rw [pcs_ne hc] at h
      obtain ⟨a, h1, rfl⟩ := map_some' h
      exact known_app (l := [(0, c)]) (known_one (hb c (by simp))) (pcs_known t0 t1 n rest a hr (fun c hc => hb c (List.mem_cons_of_mem _ hc)) h1)
theorem bytesL_lt (s : ByteArray) : ∀ c ∈ bytesL s, c < 256 := fun c hc => by
  unfold bytesL at hc
  obtain ⟨b, _, rfl⟩ := List.mem_map.1 hc
  exact b.toNat_lt
/-- a time written in a form, whatever form it is. -/
theorem Write_any {t : Int} (ht : inB t (-62135596800) 253402300799 = true) (s : ByteArray) (hs : s.size ≤ 100000) (l : List (Nat × Nat)) (hl : pcs (bytesL s) = some l) (w : World) (hT : Tab w) :
    Calls Tryd.prog 29 #[I t, .string s] w fun e w' => e = .returned (.tuple #[.string ⟨(outM t l).toArray⟩, E 0]) ∧ Below w.heap.size w w' :=
  Write_okM ht s hs l hl (pcs_known (inB_iff.1 ht).1 (inB_iff.1 ht).2 _ _ _ (Nat.le_refl _) (bytesL_lt s) hl) w hT
end Go.Proofs.YtocdabmfcbmpaaaDoor
