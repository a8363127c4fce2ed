import Derived.Test.YtkohpijpipcajaaGM4
import Derived.Test.YtkohpijpipcajaaGB4
import Derived.Test.YtkohpijpipcajaaG1
namespace Go.Proofs.Ytkohpijpipcajaa
open Go.RowKit
set_option linter.unusedVariables false
set_option linter.unusedSimpArgs false

theorem numsB_append (a b : ByteArray) : numsB (a ++ b) = numsB a ++ numsB b := by
  unfold numsB
  rw [ByteArray.data_append, Array.toList_append, List.map_append]
theorem byteN_append (a b : ByteArray) (j : Nat) : byteN (a ++ b) j = if j < a.size then byteN a j else byteN b (j - a.size) := by
  unfold byteN
  rw [numsB_append, List.getD_eq_getElem?_getD]
  split
  · rename_i h
    rw [List.getElem?_append_left (by rw [numsB_length]; exact h), ← List.getD_eq_getElem?_getD]
  · rename_i h
    rw [List.getElem?_append_right (by rw [numsB_length]; omega), numsB_length, ← List.getD_eq_getElem?_getD]
theorem byteN_left {a b : ByteArray} {j : Nat} (h : j < a.size) : byteN (a ++ b) j = byteN a j := by rw [byteN_append, if_pos h]
theorem byteN_right {a b : ByteArray} {j : Nat} (h : a.size ≤ j) : byteN (a ++ b) j = byteN b (j - a.size) := by rw [byteN_append, if_neg (by omega)]
theorem eq_of_bytes {a b : ByteArray} (hz : a.size = b.size) (h : ∀ j, j < a.size → byteN a j = byteN b j) : a = b := by
  apply toList_inj
  rw [ByteArray.toList_eq, ByteArray.toList_eq]
  apply List.ext_getElem (by rw [size_list, size_list]; exact hz)
  intro j h1 h2
  have hj : j < a.size := by rw [size_list] at h1; exact h1
  have e1 := byte_at a hj
  have e2 := byte_at b (by omega : j < b.size)
  have := h j hj
  have e3 : (a[j]).toNat = (b[j]'(by omega)).toNat := by omega
  exact UInt8.toNat_inj.1 e3

/-- a text with a backslash before each byte. -/
def escB (s : ByteArray) : Nat → ByteArray
  | 0 => ⟨#[]⟩
  | n + 1 => escB s n ++ (⟨#[92]⟩ ++ s.extract n (n + 1))
theorem piece_size {s : ByteArray} {n : Nat} (h : n < s.size) : ((⟨#[92]⟩ : ByteArray) ++ s.extract n (n + 1)).size = 2 := by
  rw [ByteArray.size_append, ByteArray.size_extract]
  have : (⟨#[92]⟩ : ByteArray).size = 1 := rfl
  omega
theorem escB_size (s : ByteArray) : ∀ n, n ≤ s.size → (escB s n).size = 2 * n
  | 0, _ => rfl
  | n + 1, h => by rw [escB, ByteArray.size_append, escB_size s n (by omega), piece_size (by omega)]; omega
theorem escB_byte (s : ByteArray) : ∀ n, n ≤ s.size → ∀ i, i < n → byteN (escB s n) (2 * i) = 92 ∧ byteN (escB s n) (2 * i + 1) = byteN s i
  | 0, _, i, hi => by omega
  | n + 1, h, i, hi => by
    have hz := escB_size s n (by omega)
    rw [escB]
    by_cases e : i = n
    · subst e
      have h1 : (⟨#[92]⟩ : ByteArray).size = 1 := rfl
      refine ⟨?_, ?_⟩
      · rw [byteN_right (by omega), hz, Nat.sub_self, byteN_left (by rw [h1]; omega)]
        decide
      · rw [byteN_right (by omega), hz, show 2 * i + 1 - 2 * i = 1 by omega, byteN_right (by rw [h1]; exact Nat.le_refl _), h1, Nat.sub_self, byteN_extract (by omega) (by omega), Nat.add_zero]
    · rw [byteN_left (by omega), byteN_left (by omega)]
      exact escB_byte s n (by omega) i (by omega)
def onesL (s : ByteArray) (i n : Nat) : List RP := (List.range n).map fun j => .one (byteN s (i + j))
theorem prs_esc_all (s : ByteArray) : ∀ d i n, i + d = s.size → 2 * d ≤ n → prs (escB s s.size) n (2 * i) = onesL s i d
  | 0, i, n, h, _ => by rw [prs_stop (by rw [escB_size s _ (Nat.le_refl _)]; omega)]; rfl
  | d + 1, i, n, h, hn => by
    obtain ⟨n', rfl⟩ : ∃ n', n = n' + 1 := ⟨n - 1, by omega⟩
    have hz := escB_size s s.size (Nat.le_refl _)
    have hb := escB_byte s s.size (Nat.le_refl _) i (by omega)
    rw [prs_esc (by omega) hb.1, hb.2, show 2 * i + 2 = 2 * (i + 1) by omega, prs_esc_all s d (i + 1) n' (by omega) (by omega)]
    unfold onesL
    rw [List.range_succ_eq_map, List.map_cons, List.map_map, Nat.add_zero]
    congr 1
    apply List.map_congr_left
    intro j _
    simp only [Function.comp]
    rw [show i + 1 + j = i + (j + 1) by omega]
theorem prsL_esc (s : ByteArray) : prsL (escB s s.size) = onesL s 0 s.size := by
  unfold prsL
  exact prs_esc_all s s.size 0 _ (by omega) (by rw [escB_size s _ (Nat.le_refl _)]; omega)
theorem ones_at {s : ByteArray} {n k : Nat} (h : k < n) : (onesL s 0 n)[k]? = some (.one (byteN s k)) := by
  simp [onesL, List.getElem?_range, h]
theorem ones_mt {s t : ByteArray} : ∀ d k, k + d = s.size → (Mt (onesL s 0 s.size) false t k k ↔ t.size = s.size ∧ ∀ j, k ≤ j → j < s.size → byteN t j = byteN s j)
  | 0, k, h => by
    have hl : (onesL s 0 s.size).length = s.size := by simp [onesL]
    obtain rfl : k = s.size := by omega
    have := mt_end (L := onesL s 0 s.size) (f := false) (s := t) (i := s.size)
    rw [hl] at this
    rw [this]
    exact ⟨fun e => ⟨e.symm, fun j h1 h2 => by omega⟩, fun e => e.1.symm⟩
  | d + 1, k, h => by
    have hl : (onesL s 0 s.size).length = s.size := by simp [onesL]
    have hk : k < s.size := by omega
    have hm : manyAt (onesL s 0 s.size) k = false := by unfold manyAt; rw [ones_at hk]; rfl
    have ht : ∀ c, takesAt (onesL s 0 s.size) false k c = (c == byteN s k) := fun c => by unfold takesAt; rw [ones_at hk]; simp [setOf, put1]
    rw [mt_one (by rw [hl]; exact hk) hm, ones_mt d (k + 1) (by omega), ht, beq_iff_eq]
    constructor
    · rintro ⟨a, b, c, e⟩
      refine ⟨c, fun j h1 h2 => ?_⟩
      by_cases ej : j = k
      · rw [ej]; exact b
      · exact e j (by omega) h2
    · rintro ⟨c, e⟩
      exact ⟨by omega, e k (Nat.le_refl _) hk, c, fun j h1 h2 => e j (by omega) h2⟩
/-- an escaped text matches itself alone. -/
theorem glob_esc (s t : ByteArray) : GlobP (escB s s.size) false t ↔ s = t := by
  unfold GlobP
  rw [prsL_esc, ones_mt s.size 0 (by omega)]
  constructor
  · rintro ⟨a, b⟩
    exact (eq_of_bytes a fun j hj => b j (Nat.zero_le _) (by omega)).symm
  · rintro rfl; exact ⟨rfl, fun _ _ _ => rfl⟩
theorem mt_rest {L : List RP} {f : Bool} {s : ByteArray} {k : Nat} (hm : manyAt L k = true) (hk : k + 1 = L.length) : ∀ d i, i + d = s.size → Mt L f s k i
  | 0, i, h => by
    obtain rfl : i = s.size := by omega
    refine .skip hm ?_
    rw [hk]; exact .done
  | d + 1, i, h => .eat hm (by omega) (mt_rest hm hk d (i + 1) (by omega))
/-- a star matches everything. -/
theorem glob_star (f : Bool) (s : ByteArray) : GlobP ⟨#[42]⟩ f s := by
  have e : prsL ⟨#[42]⟩ = [.many] := by
    unfold prsL
    show prs ⟨#[42]⟩ 1 0 = _
    rw [prs_many (by decide) (by decide), prs_stop (by decide)]
  unfold GlobP
  rw [e]
  exact mt_rest rfl rfl s.size 0 (by omega)
theorem mt_more {L : List RP} {f : Bool} {s m : ByteArray} {k i : Nat} (h : Mt L f s k i) : Mt (L ++ [.many]) f (s ++ m) k i := by
  have hm : ∀ k, k < L.length → manyAt (L ++ [.many]) k = manyAt L k := fun k hk => by unfold manyAt; rw [List.getElem?_append_left hk]
  have ht : ∀ k c, k < L.length → takesAt (L ++ [.many]) f k c = takesAt L f k c := fun k c hk => by unfold takesAt; rw [List.getElem?_append_left hk]
  have hz : (s ++ m).size = s.size + m.size := ByteArray.size_append
  induction h with
  | done =>
    refine mt_rest ?_ (by simp) m.size s.size (by omega)
    unfold manyAt
    simp [isMany]
  | skip hm' _ ih => exact .skip (by rw [hm _ (manyAt_lt hm')]; exact hm') ih
  | eat hm' hi _ ih => exact .eat (by rw [hm _ (manyAt_lt hm')]; exact hm') (by omega) ih
  | one hk hm' hi htk _ ih => exact .one (by simp; omega) (by rw [hm _ hk]; exact hm') (by omega) (by rw [ht _ _ hk, byteN_left hi]; exact htk) ih
theorem clo_more {p q : ByteArray} {i d : Nat} (h : i < p.size) (e : byteN p i = 91) (hc : clo p i = d) : clo (p ++ q) i = d := by
  have hz : (p ++ q).size = p.size + q.size := ByteArray.size_append
  rcases clo_is h e with ⟨h1, _⟩ | ⟨d', h1, h2, h3, h4, hno⟩
  · omega
  · obtain rfl : d = d' := by omega
    rcases clo_is (p := p ++ q) (i := i) (by omega) (by rw [byteN_left h]; exact e) with ⟨g1, g2⟩ | ⟨d2, g1, g2, g3, g4, g5⟩
    · have := g2 (i + d) (by omega) (by omega)
      rw [byteN_left h3] at this
      exact absurd h4 this
    · rcases Nat.lt_trichotomy d d2 with c | c | c
      · have := g5 (i + d) (by omega) (by omega)
        rw [byteN_left h3] at this
        exact absurd h4 this
      · rw [g1, c]
      · have := hno (i + d2) (by omega) (by omega)
        rw [byteN_left (by omega)] at g4
        exact absurd g4 this
theorem extract_left {p q : ByteArray} {a b : Nat} (hb : b ≤ p.size) : (p ++ q).extract a b = p.extract a b := by
  have hz : (p ++ q).size = p.size + q.size := ByteArray.size_append
  have z1 : ((p ++ q).extract a b).size = b - a := by rw [ByteArray.size_extract]; omega
  have z2 : (p.extract a b).size = b - a := by rw [ByteArray.size_extract]; omega
  refine eq_of_bytes (by rw [z1, z2]) fun j hj => ?_
  rw [byteN_extract (by omega) (by omega), byteN_extract hb (by omega), byteN_left (by omega)]
/-- a star behind a pattern. -/
theorem prs_star {p : ByteArray} (hw : p.size = 0 ∨ byteN p (p.size - 1) ≠ 92) : ∀ n m i, p.size - i ≤ n → p.size + 1 - i ≤ m → i ≤ p.size → (prs p n i).any isNone = false → prs (p ++ ⟨#[42]⟩) m i = prs p n i ++ [.many]
  | n, m, i, hn, hm, hi, hno => by
    have hz : (p ++ ⟨#[42]⟩).size = p.size + 1 := ByteArray.size_append
    obtain ⟨m', rfl⟩ : ∃ m', m = m' + 1 := ⟨m - 1, by omega⟩
    by_cases hlt : i < p.size
    · obtain ⟨n', rfl, hn'⟩ := prs_succ hn hlt
      have hb : byteN (p ++ ⟨#[42]⟩) i = byteN p i := byteN_left hlt
      by_cases h42 : byteN p i = 42
      · rw [prs_many hlt h42] at hno ⊢
        rw [prs_many (by omega) (by rw [hb]; exact h42), prs_star hw n' m' (i + 1) hn' (by omega) hlt (by simpa [isNone] using hno)]
        rfl
      · by_cases h63 : byteN p i = 63
        · rw [prs_any hlt h63] at hno ⊢
          rw [prs_any (by omega) (by rw [hb]; exact h63), prs_star hw n' m' (i + 1) hn' (by omega) hlt (by simpa [isNone] using hno)]
          rfl
        · by_cases h91 : byteN p i = 91
          · rcases clo_is hlt h91 with ⟨h1, _⟩ | ⟨d, h1, h2, h3, _⟩
            · rw [prs_none hlt h91 (by rw [h1]; decide)] at hno
              simp [isNone] at hno
            · rw [prs_set hlt h91 h1] at hno ⊢
              rw [prs_set (by omega) (by rw [hb]; exact h91) (clo_more hlt h91 h1), extract_left (by omega), prs_star hw n' m' (i + d + 1) (by omega) (by omega) (by omega) (by simpa [isNone] using hno)]
              rfl
          · by_cases h92 : byteN p i = 92 ∧ i + 1 < p.size
            · rw [prs_esc h92.2 h92.1] at hno ⊢
              rw [prs_esc (by omega) (by rw [hb]; exact h92.1), byteN_left h92.2, prs_star hw n' m' (i + 2) (by omega) (by omega) (by omega) (by simpa [isNone] using hno)]
              rfl
            · have hne : byteN p i ≠ 92 := fun h => by
                have : i + 1 = p.size := by
                  rcases Nat.lt_or_ge (i + 1) p.size with c | c
                  · exact absurd ⟨h, c⟩ h92
                  · omega
                rcases hw with hw | hw
                · omega
                · exact hw (by rw [← this, Nat.add_sub_cancel]; exact h)
              rw [prs_one hlt h42 h63 h91 h92] at hno ⊢
              rw [prs_one (by omega) (by rw [hb]; exact h42) (by rw [hb]; exact h63) (by rw [hb]; exact h91) (by rw [hb]; exact fun h => hne h.1), hb, prs_star hw n' m' (i + 1) hn' (by omega) hlt (by simpa [isNone] using hno)]
              rfl
    · obtain rfl : i = p.size := by omega
      have hb : byteN (p ++ ⟨#[42]⟩) p.size = 42 := by rw [byteN_right (Nat.le_refl _), Nat.sub_self]; decide
      rw [prs_stop (Nat.le_refl _), prs_many (by omega) hb, prs_stop (by omega)]
      rfl
termination_by n => n
theorem glob_more {p s m : ByteArray} {f : Bool} (hw : p.size = 0 ∨ byteN p (p.size - 1) ≠ 92) (h : GlobP p f s) : GlobP (p ++ ⟨#[42]⟩) f (s ++ m) := by
  have hno : (prsL p).any isNone = false := by
    cases e : (prsL p).any isNone with
    | false => rfl
    | true => exact absurd h (mt_any_none e)
  unfold GlobP at h ⊢
  have : prsL (p ++ ⟨#[42]⟩) = prsL p ++ [.many] := prs_star hw p.size _ 0 (by omega) (by rw [show (p ++ (⟨#[42]⟩ : ByteArray)).size = p.size + 1 from ByteArray.size_append]; omega) (Nat.zero_le _) hno
  rw [this]
  exact mt_more h
end Go.Proofs.Ytkohpijpipcajaa

namespace Go.Proofs.Ytkohpijpipcajaa
open Go.RowKit
set_option linter.unusedVariables false
set_option linter.unusedSimpArgs false

noncomputable def globB (p : ByteArray) (f : Bool) (s : ByteArray) : Bool := @decide (GlobP p f s) (Classical.propDecidable _)
theorem globB_iff {p s : ByteArray} {f : Bool} : globB p f s = true ↔ GlobP p f s := by unfold globB; exact @decide_eq_true_iff _ (Classical.propDecidable _)
theorem glob_val (p s : ByteArray) (f v : Bool) (w : World) (hp : p.size ≤ 200) (hs : s.size ≤ 1000) (hv : globB p f s = v) : Calls Try.prog 45 #[.string p, .string s, .bool f] w fun e w' => e = .returned (.bool v) ∧ Below w.heap.size w w' :=
  (glob_any p s f w hp hs).mono fun e w' ⟨b, he, hb, hbl⟩ => ⟨by rw [he, show b = v by rw [← hv, Bool.eq_iff_iff, hb, globB_iff]], hbl⟩
theorem ref_glob_val (p s : ByteArray) (f v : Bool) (w : World) (hp : p.size ≤ 200) (hs : s.size ≤ 1000) (hv : globB p f s = v) : Calls Try.prog 46 #[.string p, .string s, .bool f] w fun e w' => e = .returned (.bool v) ∧ Below w.heap.size w w' :=
  (ref_glob_any p s f w hp hs).mono fun e w' ⟨b, he, hb, hbl⟩ => ⟨by rw [he, show b = v by rw [← hv, Bool.eq_iff_iff, hb, globB_iff]], hbl⟩

theorem textGlobs_far (p s t : ByteArray) (w : World) (h1 : p.size ≤ 9223372036854775807) (h2 : s.size ≤ 9223372036854775807) (h3 : t.size ≤ 9223372036854775807) (hl : 60 < p.size ∨ 100 < s.size ∨ 100 < t.size) :
    Calls Try.prog 7 #[.string p, .string s, .string t] w fun e w' => e = .returned (.bool true) ∧ Below w.heap.size w w' := by
  rcases (show 60 < p.size ∨ (p.size ≤ 60 ∧ 100 < s.size) ∨ (p.size ≤ 60 ∧ s.size ≤ 100 ∧ 100 < t.size) by omega) with c | ⟨c1, c2⟩ | ⟨c1, c2, c3⟩
  all_goals
    clear hl
    go_enter Try.func7, Try.ntmps7
    go_wp2_with fail
    refine (awake_any _).mono ?_
    rintro e w2 ⟨rfl, hb⟩
    have hf := Lib.hid hb
    clear hb
    go_wp2
    go_ret
    exact ⟨rfl, hf.out⟩

set_option maxRecDepth 100000 in
set_option maxHeartbeats 4000000 in
theorem textGlobs_near (p s t : ByteArray) (w : World) (h1 : p.size ≤ 60) (h2 : s.size ≤ 100) (h3 : t.size ≤ 100) :
    Calls Try.prog 7 #[.string p, .string s, .string t] w fun e w' => e = .returned (.bool true) ∧ Below w.heap.size w w' := by
  obtain ⟨is, his⟩ : ∃ v, globB p false s = v := ⟨_, rfl⟩
  obtain ⟨is2, his2⟩ : ∃ v, globB p true s = v := ⟨_, rfl⟩
  have H1 := Lib.hid his
  have H2 := Lib.hid his2
  clear his his2
  go_enter Try.func7, Try.ntmps7
  go_wp2_with fail
  refine (glob_val p s false is _ (by omega) (by omega) H1.out).mono ?_
  rintro e W1 ⟨rfl, hb⟩
  have B1 := Lib.hid hb
  clear hb
  go_wp2_with fail
  refine (ref_glob_val p s false is _ (by omega) (by omega) H1.out).mono ?_
  rintro e W2 ⟨rfl, hb⟩
  have B2 := Lib.hid (B1.out.trans (hb.mono B1.out.size))
  clear hb
  go_wp2_with fail
  refine (glob_val p s true is2 _ (by omega) (by omega) H2.out).mono ?_
  rintro e W3 ⟨rfl, hb⟩
  have B3 := Lib.hid (B2.out.trans (hb.mono B2.out.size))
  clear hb
  go_wp2_with fail
  refine (ref_glob_val p s true is2 _ (by omega) (by omega) H2.out).mono ?_
  rintro e W4 ⟨rfl, hb⟩
  have B4 := Lib.hid (B3.out.trans (hb.mono B3.out.size))
  clear hb
  go_wp2
  go_loop [8, 9] (fun v i => ∃ n : Nat, v = .string (escB s n) ∧ i = .int .i64 n ∧ n ≤ s.size) (fun _ i => s.size - (intOf i).toNat)
  case atStart => exact ⟨0, rfl, rfl, Nat.zero_le _⟩
  case round =>
    obtain ⟨n, rfl, rfl, hn⟩ := hrel
    by_cases hlt : n < s.size
    · have hz := escB_size s n hn
      have hE := Lib.hid (show escB s (n + 1) = escB s n ++ (⟨#[92]⟩ ++ s.extract n (n + 1)) from rfl)
      have hps := piece_size hlt
      have hzz : (escB s n).size ≤ 200 := by omega
      have hez : (s.extract n (n + 1)).size ≤ 1 := by rw [ByteArray.size_extract]; omega
      have hpz : ((⟨#[92]⟩ : ByteArray) ++ s.extract n (n + 1)).size ≤ 2 := by omega
      have q1 : (n : Int) + 1 ≤ (s.size : Int) := by omega
      have q2 : (n : Int) ≤ (n : Int) + 1 := by omega
      have q3 : ((n : Int) + 1).toNat = n + 1 := by omega
      generalize escB s n = E at hzz hE hz ⊢
      clear hz hps
      go_wp2
      go_round
      case rel => exact ⟨n + 1, by rw [hE.out], by go_num, by omega⟩
      case measure => simp [intOf]; omega
    · obtain rfl : n = s.size := by omega
      have hEz : (escB s s.size).size ≤ 200 := by rw [escB_size s _ (Nat.le_refl _)]; omega
      have HE1 : Hid (globB (escB s s.size) false s = true) := Lib.hid (globB_iff.2 ((glob_esc s s).2 rfl))
      have HE2 : Hid (globB (escB s s.size) false t = true ↔ s = t) := Lib.hid (globB_iff.trans (glob_esc s t))
      have HS : Hid (globB ⟨#[42]⟩ false s = true) := Lib.hid (globB_iff.2 (glob_star false s))
      generalize escB s s.size = E at hEz HE1 HE2 ⊢
      go_wp2_with fail
      refine (glob_val E s false true _ hEz (by omega) HE1.out).mono ?_
      rintro e W5 ⟨rfl, hb⟩
      have B5 := Lib.hid (B4.out.trans (hb.mono B4.out.size))
      clear hb
      go_wp2_with fail
      obtain ⟨ev, hev⟩ : ∃ v, globB E false t = v := ⟨_, rfl⟩
      have HEV := Lib.hid hev
      have hst : (s.toList == t.toList) = ev := by
        rw [Bool.eq_iff_iff, beq_iff_eq, ← hev, HE2.out]
        exact ⟨toList_inj, fun h => by rw [h]⟩
      clear hev
      refine (glob_val E t false ev _ hEz (by omega) HEV.out).mono ?_
      rintro e W6 ⟨rfl, hb⟩
      have B6 := Lib.hid (B5.out.trans (hb.mono B5.out.size))
      clear hb
      go_wp2_with fail
      refine (glob_val ⟨#[42]⟩ s false true _ (by decide) (by omega) HS.out).mono ?_
      rintro e W7 ⟨rfl, hb⟩
      have B7 := Lib.hid (B6.out.trans (hb.mono B6.out.size))
      clear hb
      have hz1 : (p ++ ⟨#[42]⟩).size ≤ 200 := by rw [ByteArray.size_append]; have : (⟨#[42]⟩ : ByteArray).size = 1 := rfl; omega
      have hz2 : (s ++ t).size ≤ 1000 := by rw [ByteArray.size_append]; omega
      have HM : Hid (is = true → (p.size = 0 ∨ byteN p (p.size - 1) ≠ 92) → globB (p ++ ⟨#[42]⟩) false (s ++ t) = true) := Lib.hid fun h hw => globB_iff.2 (glob_more hw (globB_iff.1 (H1.out.trans h)))
      clear hst hlt hn
      by_cases hp0 : p.size = 0
      · have hpe : ((p.size : Int) == 0) = true := by simp [hp0]
        cases is with
        | false =>
          clear hp0
          go_wp2_with fail
          refine (awake_any _).mono ?_
          rintro e W9 ⟨rfl, hb⟩
          have B9 := Lib.hid (B7.out.trans (hb.mono B7.out.size))
          clear hb
          go_wp2_with fail
          go_ret
          exact ⟨rfl, B9.out⟩
        | true =>
          have HG := Lib.hid (HM.out rfl (Or.inl hp0))
          clear hp0
          go_wp2_with fail
          refine (glob_val (p ++ ⟨#[42]⟩) (s ++ t) false true _ hz1 hz2 HG.out).mono ?_
          rintro e W8 ⟨rfl, hb⟩
          have B8 := Lib.hid (B7.out.trans (hb.mono B7.out.size))
          clear hb
          go_wp2_with fail
          refine (awake_any _).mono ?_
          rintro e W9 ⟨rfl, hb⟩
          have B9 := Lib.hid (B8.out.trans (hb.mono B8.out.size))
          clear hb
          go_wp2_with fail
          go_ret
          exact ⟨rfl, B9.out⟩
      · have hpe : ((p.size : Int) == 0) = false := by rw [beq_eq_false_iff_ne]; omega
        have hpp : p.size - 1 < p.size := by omega
        have k1 : (1 : Int) ≤ (p.size : Int) := by omega
        have k2 : ((p.size : Int) - 1).toNat = p.size - 1 := by omega
        have k3 : (p.size : Int) - 1 < (p.size : Int) := by omega
        have hx := byte_at p hpp
        by_cases h92 : byteN p (p.size - 1) = 92
        · have hx' : ((p[p.size - 1]'hpp).toNat : Int) = 92 := by rw [hx, h92]; rfl
          clear hx h92 hp0
          cases is with
          | false =>
            go_wp2_with fail
            refine (awake_any _).mono ?_
            rintro e W9 ⟨rfl, hb⟩
            have B9 := Lib.hid (B7.out.trans (hb.mono B7.out.size))
            clear hb
            go_wp2_with fail
            go_ret
            exact ⟨rfl, B9.out⟩
          | true =>
            go_wp2_with fail
            refine (awake_any _).mono ?_
            rintro e W9 ⟨rfl, hb⟩
            have B9 := Lib.hid (B7.out.trans (hb.mono B7.out.size))
            clear hb
            go_wp2_with fail
            go_ret
            exact ⟨rfl, B9.out⟩
        · have HH := Lib.hid h92
          have hY := byteN_lt p (p.size - 1)
          have hne : ((byteN p (p.size - 1) : Nat) : Int) ≠ 92 := by omega
          have HM2 : Hid (is = true → globB (p ++ ⟨#[42]⟩) false (s ++ t) = true) := Lib.hid fun h => HM.out h (Or.inr HH.out)
          generalize byteN p (p.size - 1) = Y at hx hY hne
          have hb92 : ((Y : Int) != 92) = true := by simpa using hne
          clear h92 hp0 hne HH
          cases is with
          | false =>
            go_wp2_with fail
            refine (awake_any _).mono ?_
            rintro e W9 ⟨rfl, hb⟩
            have B9 := Lib.hid (B7.out.trans (hb.mono B7.out.size))
            clear hb
            go_wp2_with fail
            go_ret
            exact ⟨rfl, B9.out⟩
          | true =>
            have HG := Lib.hid (HM2.out rfl)
            go_wp2_with fail
            refine (glob_val (p ++ ⟨#[42]⟩) (s ++ t) false true _ hz1 hz2 HG.out).mono ?_
            rintro e W8 ⟨rfl, hb⟩
            have B8 := Lib.hid (B7.out.trans (hb.mono B7.out.size))
            clear hb
            go_wp2_with fail
            refine (awake_any _).mono ?_
            rintro e W9 ⟨rfl, hb⟩
            have B9 := Lib.hid (B8.out.trans (hb.mono B8.out.size))
            clear hb
            go_wp2_with fail
            go_ret
            exact ⟨rfl, B9.out⟩
end Go.Proofs.Ytkohpijpipcajaa
