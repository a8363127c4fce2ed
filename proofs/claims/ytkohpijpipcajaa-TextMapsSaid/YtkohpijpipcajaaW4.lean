import Derived.Test.YtkohpijpipcajaaW3
namespace Go.Proofs.Ytkohpijpipcajaa
open Go.RowKit
set_option linter.unusedVariables false
set_option linter.unusedSimpArgs false

theorem map_next {ps : List ByteArray} {f : Bool} {s O t : ByteArray} {k n d : Nat} (hk : k < s.size) (hO : O.size ≤ 65536) (h1 : 1 ≤ stepAt ps f s k) (hw : s.size - k ≤ n ∧ walkM ps f s n k O = mapR ps f s)
    (hd : stepAt ps f s k = d) (ht : pieceAt ps f s k = t) : ∃ n', s.size - (k + d) ≤ n' ∧ walkM ps f s n' (k + d) (O ++ t) = mapR ps f s := by
  obtain ⟨n', a, b⟩ := walk_step hk hO hw.1 h1
  rw [hd] at a b
  rw [ht] at b
  exact ⟨n', a, by rw [← b, hw.2]⟩
theorem map_over {ps : List ByteArray} {f : Bool} {s O : ByteArray} {k n : Nat} (h : walkM ps f s n k O = mapR ps f s) (he : ps.length % 2 = 0) (hO : 65536 < O.size) : mapT ps f s = ⟨#[]⟩ ∧ mapE ps f s = 4 := by
  have e : mapR ps f s = O := by rw [← h]; exact walk_stop _ (by omega)
  unfold mapT mapE
  rw [e]
  exact ⟨if_neg (by omega), by rw [if_pos he, if_neg (by omega)]⟩
theorem map_done {ps : List ByteArray} {f : Bool} {s O : ByteArray} {k n : Nat} (h : walkM ps f s n k O = mapR ps f s) (he : ps.length % 2 = 0) (hk : s.size ≤ k) (hO : O.size ≤ 65536) : mapT ps f s = O ∧ mapE ps f s = 0 := by
  have e : mapR ps f s = O := by rw [← h]; exact walk_stop _ (by omega)
  unfold mapT mapE
  rw [e]
  exact ⟨if_pos ⟨he, hO⟩, by rw [if_pos he, if_pos hO]⟩
theorem step_of {ps : List ByteArray} {f : Bool} {s : ByteArray} {i m : Nat} (hm : 2 * m < ps.length) (he : ps.length % 2 = 0) (hk : keyAt f s (keyM ps m) i = true) (h : ∀ j, j < m → keyAt f s (keyM ps j) i = false) :
    stepAt ps f s i = (keyM ps m).size ∧ pieceAt ps f s i = valM ps m := by
  have := fit_some (ps := ps) (f := f) (s := s) (i := i) (m := m) (by omega) hk h
  unfold stepAt pieceAt
  rw [this]
  exact ⟨rfl, rfl⟩
theorem step_none {ps : List ByteArray} {f : Bool} {s : ByteArray} {i m : Nat} (hm : ps.length ≤ 2 * m) (h : ∀ j, j < m → keyAt f s (keyM ps j) i = false) :
    stepAt ps f s i = 1 ∧ pieceAt ps f s i = s.extract i (i + 1) := by
  have := fit_none (ps := ps) (f := f) (s := s) (i := i) (fun j hj => h j (by omega))
  unfold stepAt pieceAt
  rw [this]
  exact ⟨rfl, rfl⟩

set_option maxRecDepth 1000000 in
set_option maxHeartbeats 4000000 in
theorem ref_map_any (ps : List ByteArray) (f : Bool) (s : ByteArray) (ao : Option Addr) (cap : Nat) (w : World) (hs : s.size ≤ 400) (hn : ps.length ≤ 20) (hl : anyLong ps = false) (hp : TextsAt ps ao w) :
    Calls Try.prog 44 #[.string s, .slice ao ps.length cap, .bool f] w fun e w' => e = .returned (.tuple #[.string (mapT ps f s), .int .i64 (mapE ps f s)]) ∧ Below w.heap.size w w' := by
  have HP := Lib.hid hp
  have HL := Lib.hid hl
  clear hp hl
  rcases Nat.mod_two_eq_zero_or_one ps.length with h2 | h2
  · have hrem : ((ps.length : Int).tmod 2) = 0 := by rw [show (2 : Int) = ((2 : Nat) : Int) from rfl, ← Int.ofNat_tmod, h2]; rfl
    have hR : Hid (walkM ps f s s.size 0 ⟨#[]⟩ = mapR ps f s) := Lib.hid rfl
    have HN := Lib.hid h2
    clear h2
    go_enter Try.func44, Try.ntmps44
    go_wp2
    go_loopw [8, 9] (fun o i wr => ∃ (O : ByteArray) (k n : Nat), o = .string O ∧ i = .int .i64 k ∧ k ≤ s.size ∧ O.size ≤ 65536 ∧ Hid (s.size - k ≤ n ∧ walkM ps f s n k O = mapR ps f s) ∧ Hid (Below w.heap.size w wr)) (fun _ i _ => s.size - (intOf i).toNat)
    case atStart => exact ⟨⟨#[]⟩, 0, s.size, rfl, rfl, Nat.zero_le _, by decide, Lib.hid ⟨Nat.le_refl _, hR.out⟩, Lib.hid (Below.refl _ _)⟩
    case round =>
      obtain ⟨O, k, n, rfl, rfl, hk, hO, hw, HBr⟩ := hrel
      by_cases hlt : k < s.size
      · have HS := Lib.hid (step_in (f := f) hlt HL.out hs)
        have q1 : (k : Int) + 1 ≤ (s.size : Int) := by omega
        have q2 : (k : Int) ≤ (k : Int) + 1 := by omega
        have q3 : ((k : Int) + 1).toNat = k + 1 := by omega
        go_wp2
        go_loopw [10, 11, 12] (fun n1 p1 j wr2 => ∃ m J : Nat, n1 = .int .i64 1 ∧ p1 = .string (s.extract k (k + 1)) ∧ j = .int .i64 J ∧ J ≤ ps.length ∧ Hid (J = 2 * m) ∧ Hid (∀ m', m' < m → keyAt f s (keyM ps m') k = false) ∧ Hid (Below w.heap.size w wr2)) (fun _ _ j _ => ps.length - (intOf j).toNat)
        case atStart => exact ⟨0, 0, rfl, rfl, rfl, Nat.zero_le _, Lib.hid rfl, Lib.hid fun m h => absurd h (Nat.not_lt_zero m), HBr⟩
        case round =>
          obtain ⟨m, J, rfl, rfl, rfl, hm, hJ, hno, HB2⟩ := hrel
          by_cases hjl : J < ps.length
          · have hj1 : J + 1 < ps.length := by have := HN.out; have := hJ.out; omega
            have HJ1 : Hid (2 * m < ps.length) := Lib.hid (by have := hJ.out; omega)
            have HM1 : Hid (J + 2 = 2 * (m + 1)) := Lib.hid (by have := hJ.out; omega)
            have hJ2 : J + 2 ≤ ps.length := by omega
            have z3 : ((J : Int) + 1).toNat = J + 1 := by omega
            obtain ⟨a, rfl, hc⟩ := HP.out.below HB2.out J hjl
            obtain ⟨a', ea, hc1⟩ := HP.out.below HB2.out (J + 1) hj1
            cases ea
            have hkz : (keyM ps m).size ≤ 400 := anyLong_no HL.out _ HJ1.out
            have hvz : (valM ps m).size ≤ 400 := anyLong_no HL.out _ (by rw [← hJ.out]; exact hj1)
            have hc' : wr.cell? (a.add J) = some (.string (keyM ps m)) := by rw [hc, hJ.out]; rfl
            have hc1' : wr.cell? (a.add (J + 1)) = some (.string (valM ps m)) := by rw [hc1, hJ.out]; rfl
            have HC := Lib.hid hc1'
            clear hc hc1 hc1'
            generalize hke : keyM ps m = key at hkz hc'
            generalize hve : valM ps m = val at hvz HC
            have HK := Lib.hid hke
            have HV := Lib.hid hve
            clear hke hve
            have HNX : Hid (keyAt f s key k = false → ∀ m', m' < m + 1 → keyAt f s (keyM ps m') k = false) := Lib.hid fun h m' hm' => by
              by_cases e : m' = m
              · rw [e, HK.out]; exact h
              · exact hno.out m' (by omega)
            have HYES : Hid (keyAt f s key k = true → stepAt ps f s k = key.size ∧ pieceAt ps f s k = val) := Lib.hid fun h => by
              have := step_of HJ1.out HN.out (by rw [HK.out]; exact h) hno.out
              rw [HK.out, HV.out] at this; exact this
            by_cases h0 : key.size = 0
            · have HKF := Lib.hid (HNX.out (by unfold keyAt; rw [decide_eq_false (by omega)]; rfl))
              have e1 := (empty_yes h0).1
              have e2 := (empty_yes h0).2
              go_wp2
              go_roundw
              case rel => exact ⟨m + 1, J + 2, rfl, rfl, by go_num, hJ2, HM1, HKF, HB2⟩
              case measure => simp [intOf]; omega
            · have hp0 : 0 < key.size := by omega
              have e1 := (empty_no hp0).1
              have e2 := (empty_no hp0).2
              by_cases hf : k + key.size ≤ s.size
              · have r1 : (k : Int) + key.size ≤ s.size := by omega
                have r2 : (k : Int) ≤ (k : Int) + key.size := by omega
                have r3 : ((k : Int) + key.size).toNat = k + key.size := by omega
                by_cases hq : (s.extract k (k + key.size)).toList = key.toList
                · have hq' : ((s.extract k (k + key.size)).toList == key.toList) = true := by simpa using hq
                  have HY := Lib.hid (HYES.out (by unfold keyAt; rw [decide_eq_true ⟨hp0, hf⟩, alk_same hq]; rfl))
                  have HQ := Lib.hid hq
                  clear hq
                  have hst := HS.out
                  obtain ⟨n', hn1, hn2⟩ := map_next hlt hO hst.1 hw.out HY.out.1 HY.out.2
                  have HW := Lib.hid (And.intro hn1 hn2)
                  clear hn1 hn2 hst
                  have hsO : (O ++ val).size = O.size + val.size := ByteArray.size_append
                  have hcv : wr.cell? ⟨a.block, a.off + (J + 1), none⟩ = some (.string val) := HC.out
                  have z2 : (J : Int) + 1 < (ps.length : Int) := by omega
                  by_cases hbig : 65536 < O.size + val.size
                  · have HE := Lib.hid (map_over HW.out.2 HN.out (by rw [hsO]; exact hbig))
                    go_wp2
                    go_ret2
                    exact ⟨by rw [HE.out.1, HE.out.2]; rfl, HB2.out⟩
                  · go_wp2
                    go_roundw
                    case rel => exact ⟨_, k + key.size, n', rfl, by go_num, by omega, by rw [hsO]; omega, HW, HB2⟩
                    case measure => simp [intOf]; omega
                · have hq' : ((s.extract k (k + key.size)).toList == key.toList) = false := by simpa using hq
                  cases f with
                  | false =>
                    have HKF := Lib.hid (HNX.out (by unfold keyAt; rw [decide_eq_true ⟨hp0, hf⟩]; simpa [alk] using hq))
                    clear hq
                    go_wp2
                    go_roundw
                    case rel => exact ⟨m + 1, J + 2, rfl, rfl, by go_num, hJ2, HM1, HKF, HB2⟩
                    case measure => simp [intOf]; omega
                  | true =>
                    have hez : (s.extract k (k + key.size)).size ≤ 100000 := by rw [ByteArray.size_extract]; omega
                    have hlo := low_eq (s.extract k (k + key.size)) key
                    cases hak : alk true (s.extract k (k + key.size)) key with
                    | true =>
                      rw [hak] at hlo
                      have HY := Lib.hid (HYES.out (by unfold keyAt; rw [decide_eq_true ⟨hp0, hf⟩, hak]; rfl))
                      clear hq hak
                      have hst := HS.out
                      obtain ⟨n', hn1, hn2⟩ := map_next hlt hO hst.1 hw.out HY.out.1 HY.out.2
                      have HW := Lib.hid (And.intro hn1 hn2)
                      clear hn1 hn2 hst
                      have hsO : (O ++ val).size = O.size + val.size := ByteArray.size_append
                      have hcv : wr.cell? ⟨a.block, a.off + (J + 1), none⟩ = some (.string val) := HC.out
                      have z2 : (J : Int) + 1 < (ps.length : Int) := by omega
                      by_cases hbig : 65536 < O.size + val.size
                      · have HE := Lib.hid (map_over HW.out.2 HN.out (by rw [hsO]; exact hbig))
                        go_wp2_with (go_at_call 26; refine (ref_lower_any _ _ (by omega)).mono ?_; rintro e w1 ⟨rfl, hb1⟩; replace HC := Lib.hid (cell_later hb1 HC.out); have hcv : w1.cell? ⟨a.block, a.off + (J + 1), none⟩ = some (.string val) := HC.out; replace HB2 := Lib.hid (HB2.out.trans (hb1.mono HB2.out.size)); clear hb1)
                        go_ret2
                        exact ⟨by rw [HE.out.1, HE.out.2]; rfl, HB2.out⟩
                      · go_wp2_with (go_at_call 26; refine (ref_lower_any _ _ (by omega)).mono ?_; rintro e w1 ⟨rfl, hb1⟩; replace HC := Lib.hid (cell_later hb1 HC.out); have hcv : w1.cell? ⟨a.block, a.off + (J + 1), none⟩ = some (.string val) := HC.out; replace HB2 := Lib.hid (HB2.out.trans (hb1.mono HB2.out.size)); clear hb1)
                        go_roundw
                        case rel => exact ⟨_, k + key.size, n', rfl, by go_num, by omega, by rw [hsO]; omega, HW, HB2⟩
                        case measure => simp [intOf]; omega
                    | false =>
                      rw [hak] at hlo
                      have HKF := Lib.hid (HNX.out (by unfold keyAt; rw [decide_eq_true ⟨hp0, hf⟩, hak]; rfl))
                      clear hq hak
                      go_wp2_with (go_at_call 26; refine (ref_lower_any _ _ (by omega)).mono ?_; rintro e w1 ⟨rfl, hb1⟩; replace HC := Lib.hid (cell_later hb1 HC.out); have hcv : w1.cell? ⟨a.block, a.off + (J + 1), none⟩ = some (.string val) := HC.out; replace HB2 := Lib.hid (HB2.out.trans (hb1.mono HB2.out.size)); clear hb1)
                      go_roundw
                      case rel => exact ⟨m + 1, J + 2, rfl, rfl, by go_num, hJ2, HM1, HKF, HB2⟩
                      case measure => simp [intOf]; omega
              · have HKF := Lib.hid (HNX.out (by unfold keyAt; rw [decide_eq_false (by omega)]; rfl))
                go_wp2
                go_roundw
                case rel => exact ⟨m + 1, J + 2, rfl, rfl, by go_num, hJ2, HM1, HKF, HB2⟩
                case measure => simp [intOf]; omega
          · have HY := Lib.hid (step_none (f := f) (s := s) (i := k) (m := m) (by have := hJ.out; omega) hno.out)
            obtain ⟨n', hn1, hn2⟩ := map_next hlt hO HS.out.1 hw.out HY.out.1 HY.out.2
            have HW := Lib.hid (And.intro hn1 hn2)
            clear hn1 hn2
            have hsz : (s.extract k (k + 1)).size = 1 := by rw [ByteArray.size_extract]; omega
            have hsO : (O ++ s.extract k (k + 1)).size = O.size + 1 := by rw [ByteArray.size_append, hsz]
            by_cases hbig : 65536 < O.size + 1
            · have HE := Lib.hid (map_over HW.out.2 HN.out (by rw [hsO]; exact hbig))
              go_wp2
              go_ret2
              exact ⟨by rw [HE.out.1, HE.out.2]; rfl, HB2.out⟩
            · go_wp2
              go_roundw
              case rel => exact ⟨_, k + 1, n', rfl, by go_num, by omega, by rw [hsO]; omega, HW, HB2⟩
              case measure => simp [intOf]; omega
      · have HE := Lib.hid (map_done hw.out.2 HN.out (by omega) hO)
        go_wp2_with (go_at_call 66; refine (long_ok _ _ hO).mono ?_; rintro e w' ⟨rfl, rfl⟩)
        go_ret2
        exact ⟨by rw [HE.out.1, HE.out.2]; rfl, HBr.out⟩
  · have hrem : ((ps.length : Int).tmod 2) = 1 := by rw [show (2 : Int) = ((2 : Nat) : Int) from rfl, ← Int.ofNat_tmod, h2]; rfl
    have e1 : Hid (mapT ps f s = ⟨#[]⟩) := Lib.hid (by unfold mapT; rw [if_neg (by omega)])
    have e2 : Hid (mapE ps f s = 1) := Lib.hid (by unfold mapE; rw [if_neg (by omega)])
    clear h2
    go_enter Try.func44, Try.ntmps44
    go_wp2
    go_ret2
    exact ⟨by rw [e1.out, e2.out]; rfl, Below.refl _ _⟩
end Go.Proofs.Ytkohpijpipcajaa
