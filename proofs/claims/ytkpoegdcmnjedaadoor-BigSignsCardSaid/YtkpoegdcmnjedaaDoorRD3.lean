import Derived.Test.YtkpoegdcmnjedaaDoorRD2
import Derived.Test.YtkpoegdcmnjedaaDoorRC3
namespace Go.Proofs.YtkpoegdcmnjedaaDoor
open Go.RowKit
set_option linter.unusedVariables false
set_option linter.unusedSimpArgs false

/-- a Num. -/
abbrev numR (m : Bool) (v : Value) : Value := .agg #[.bool m, v]
set_option maxHeartbeats 400000 in
theorem ref_num_any (m : Bool) (ao : Option Addr) (n cap : Nat) (w : World) :
    Calls Tryd.prog 83 #[.bool m, .slice ao n cap] w fun e w' => e = .returned (numR (m && decide (0 < n)) (.slice ao n cap)) ∧ Below w.heap.size w w' := by
  cases m
  · go_enter Tryd.func83, Tryd.ntmps83
    go_wp2
    exact bodyPost_ret (v := numR false (.slice ao n cap)) (by simp [results, Tryd.results83, go_sem, numR]) rfl ⟨by simp [numR], (by (repeat (first | exact Below.refl _ _ | (refine Below.setCell ?_ (by first | omega | (simp; done) | (simp; omega)) _) | (refine Below.alloc ?_ (by first | omega | (simp; done) | (simp; omega)) _) | refine Below.drew ?_)))⟩
  · by_cases hn : 0 < n
    · go_enter Tryd.func83, Tryd.ntmps83
      go_wp2
      exact bodyPost_ret (v := numR true (.slice ao n cap)) (by simp [results, Tryd.results83, go_sem, numR]) rfl ⟨by simp [hn, numR], (by (repeat (first | exact Below.refl _ _ | (refine Below.setCell ?_ (by first | omega | (simp; done) | (simp; omega)) _) | (refine Below.alloc ?_ (by first | omega | (simp; done) | (simp; omega)) _) | refine Below.drew ?_)))⟩
    · obtain rfl : n = 0 := by omega
      go_enter Tryd.func83, Tryd.ntmps83
      go_wp2
      exact bodyPost_ret (v := numR false (.slice ao 0 cap)) (by simp [results, Tryd.results83, go_sem, numR]) rfl ⟨by simp [numR], (by (repeat (first | exact Below.refl _ _ | (refine Below.setCell ?_ (by first | omega | (simp; done) | (simp; omega)) _) | (refine Below.alloc ?_ (by first | omega | (simp; done) | (simp; omega)) _) | refine Below.drew ?_)))⟩

theorem nt_mono {a b : Nat} (h : a ≤ b) : nt a ≤ nt b := (digs_length_le (by decide)).2 (Nat.lt_of_le_of_lt h ((digs_length_le (by decide)).1 (Nat.le_refl _)))
theorem lt_nt {a : Nat} : a < 10 ^ nt a := (digs_length_le (by decide)).1 (Nat.le_refl _)
theorem nt_of_lt {a k : Nat} (h : a < 10 ^ k) : nt a ≤ k := (digs_length_le (by decide)).2 h
theorem nt_zero : nt 0 = 0 := by unfold nt; rw [digs_zero]; rfl
theorem nt_pos {n : Nat} (h : 0 < nt n) : 0 < n := by
  rcases Nat.eq_zero_or_pos n with rfl | h2
  · rw [nt_zero] at h; omega
  · exact h2
theorem nt_step {u d : Nat} {base : Nat} (hb : base ≤ 36) (hd : d < 36) : nt (u * base + d) ≤ nt u + 2 := by
  refine nt_of_lt ?_
  have h := lt_nt (a := u)
  have h2 : (u + 1) * 36 ≤ 10 ^ nt u * 36 := Nat.mul_le_mul_right _ h
  have h3 : u * base ≤ u * 36 := Nat.mul_le_mul_left _ hb
  rw [Nat.pow_add]
  omega

structure RgI (s : ByteArray) (base : Nat) (W wr : World) (v : Value) (z : Bool) (i u : Nat) : Prop where
  dig : ∀ j, j < i → dvS s j < base
  len : nt u ≤ 1202
  val : u = rd base s i ∨ (1200 < nt u ∧ u ≤ rd base s i)
  zer : z = true → u = 0 ∧ rd base s i = 0
  m : N W.heap.size wr v (digs 10 u)
  b : Below W.heap.size W wr
/-- what the reference's digits tells. -/
def RgQ (s : ByteArray) (base : Nat) (W : World) (e : Ending) (W' : World) : Prop :=
  ∃ v ok u, e = .returned (.tuple #[v, .bool ok]) ∧ (ok = true ↔ AllD base s) ∧ N W.heap.size W' v (digs 10 u) ∧ (AllD base s → u = rd base s s.size ∨ (1200 < nt u ∧ u ≤ rd base s s.size)) ∧ Below W.heap.size W W'
theorem rd_grows {base : Nat} {s : ByteArray} {i : Nat} (hb : 2 ≤ base) : rd base s i ≤ rd base s (i + 1) := by
  have e : rd base s (i + 1) = rd base s i * base + dvS s i := rfl
  rw [e]
  have := Nat.mul_le_mul_left (rd base s i) (show 1 ≤ base by omega)
  omega
set_option maxRecDepth 100000 in
set_option maxHeartbeats 2000000 in
theorem ref_digits_any (s : ByteArray) (base : Nat) (W : World) (hs : s.size ≤ 2000000) (hb2 : 2 ≤ base) (hb : base ≤ 36) :
    Calls Tryd.prog 107 #[.string s, .int .i64 base] W (RgQ s base W) := by
  have HI0 : Hid (RgI s base W W (.slice none 0 0) true 0 0) := Lib.hid ⟨fun j hj => absurd hj (Nat.not_lt_zero _), by rw [nt_zero]; omega, Or.inl rfl, fun _ => ⟨rfl, rfl⟩, by rw [digs_zero]; exact N.nil _ _, Below.refl _ _⟩
  have HDG : Hid (∀ (c : Nat) (w : World), c ≤ 255 → Calls Tryd.prog 132 #[.int .u8 c, .int .i64 base] w fun e w' => e = .returned (.int .i64 (rdg c base)) ∧ w = w') := Lib.hid fun c w hc => ref_Digit_any c base w hc hb2 hb
  go_enter Tryd.func107, Tryd.ntmps107
  go_wp2
  go_loopw [6, 7, 12] (fun v zv iv wr => ∃ (i u : Nat) (z : Bool), iv = .int .i64 i ∧ zv = .bool z ∧ i ≤ s.size ∧ Hid (RgI s base W wr v z i u)) (fun _ _ i _ => s.size - (intOf i).toNat)
  case atStart => exact ⟨0, 0, true, rfl, rfl, Nat.zero_le _, HI0⟩
  case round =>
    obtain ⟨i, u, z, rfl, rfl, hi, hp⟩ := hrel
    by_cases hlt : i < s.size
    · have hbt := byte_at s hlt
      obtain ⟨c, HC⟩ : ∃ c, Hid (byteN s i = c) := ⟨_, Lib.hid rfl⟩
      have hc : c ≤ 255 := by rw [← HC.out]; exact byteN_le s i
      rw [HC.out] at hbt
      have hdv : dvS s i = dvN c := by show dvN (byteN s i) = _; rw [HC.out]
      have HD := Lib.hid (fun w => HDG.out c w hc)
      obtain ⟨av, nv, cv, rfl⟩ := hp.out.m.slice3
      by_cases hok : dvN c < base
      · have hr : rdg c base = (dvN c : Int) := if_pos hok
        rw [hr] at HD
        obtain ⟨d, Hd⟩ : ∃ d, Hid (dvN c = d) := ⟨_, Lib.hid rfl⟩
        rw [Hd.out] at HD hok
        have HDV : Hid (dvS s i = d) := Lib.hid (hdv.trans Hd.out)
        have HDIG : Hid (∀ j, j < i + 1 → dvS s j < base) := Lib.hid fun j hj => by
          by_cases e : j = i
          · rw [e, HDV.out]; exact hok
          · exact hp.out.dig j (by omega)
        have HRD : Hid (rd base s (i + 1) = rd base s i * base + d) := Lib.hid (by
          have e : rd base s (i + 1) = rd base s i * base + dvS s i := rfl
          rw [e, HDV.out])
        clear hr hdv
        by_cases hz : z = true ∧ d = 0
        · obtain ⟨rfl, rfl⟩ := hz
          have HR : Hid (RgI s base W wr (.slice av nv cv) true (i + 1) u) := Lib.hid (by
            have h1 := (hp.out.zer rfl)
            exact ⟨HDIG.out, hp.out.len, by left; rw [HRD.out, h1.1, h1.2]; omega, fun _ => ⟨h1.1, by rw [HRD.out, h1.2]; omega⟩, hp.out.m, hp.out.b⟩)
          go_wp2_with (go_at_call 132; refine (HD.out _).mono ?_; rintro e w1 ⟨rfl, rfl⟩)
          exact ⟨⟨i + 1, u, true, by go_num, rfl, by omega, HR⟩, by simp [intOf]; omega⟩
        · have hlen : nv = nt u := hp.out.m.len
          have hz2 : (z = false) ∨ (z = true ∧ d ≠ 0) := by
            cases z
            · exact Or.inl rfl
            · exact Or.inr ⟨rfl, fun h => hz ⟨rfl, h⟩⟩
          clear hz
          by_cases hbig : 1200 < nv
          · have HR : Hid (RgI s base W wr (.slice av nv cv) false (i + 1) u) := Lib.hid (by
              refine ⟨HDIG.out, hp.out.len, Or.inr ⟨by omega, ?_⟩, (fun h => by cases h), hp.out.m, hp.out.b⟩
              have h1 := rd_grows (s := s) (i := i) hb2
              rcases hp.out.val with h | h
              · omega
              · exact Nat.le_trans h.2 h1)
            clear hlen
            rcases hz2 with rfl | ⟨rfl, hd0⟩
            · go_wp2_with (go_at_call 132; refine (HD.out _).mono ?_; rintro e w1 ⟨rfl, rfl⟩)
              exact ⟨⟨i + 1, u, false, by go_num, rfl, by omega, HR⟩, by simp [intOf]; omega⟩
            · have hd1 : ((d : Int) == 0) = false := by rw [beq_eq_false_iff_ne]; omega
              go_wp2_with (go_at_call 132; refine (HD.out _).mono ?_; rintro e w1 ⟨rfl, rfl⟩)
              exact ⟨⟨i + 1, u, false, by go_num, rfl, by omega, HR⟩, by simp [intOf]; omega⟩
          · have hu : Hid (u = rd base s i) := Lib.hid (by rcases hp.out.val with h | h <;> omega)
            have hsm : decide ((1200 : Int) < (nv : Int)) = false := by rw [decide_eq_false_iff_not]; omega
            have hsm2 : nv ≤ 1200 := by omega
            have hnu : nt u ≤ 1200 := by omega
            have HNU := Lib.hid hnu
            have HB36 := Lib.hid hok
            have hd36 : d ≤ 36 := by omega
            have hBw := hp.out.b.size
            clear hlen hbig hnu
            have hd1 : z = false ∨ (z = true ∧ ((d : Int) == 0) = false) := by
              rcases hz2 with h | ⟨h, h2⟩
              · exact Or.inl h
              · exact Or.inr ⟨h, by rw [beq_eq_false_iff_ne]; omega⟩
            clear hz2
            rcases hd1 with rfl | ⟨rfl, hd1⟩
            all_goals
              go_wp2_with (go_at_call 132; refine (HD.out _).mono ?_; rintro e w1 ⟨rfl, rfl⟩)
              refine (ref_natOf_any base _ (by omega)).mono ?_
              rintro e w1 ⟨⟨v1, rfl, hm1⟩, hb1⟩
              have HM1 := Lib.hid hm1
              have HB1 := Lib.hid hb1
              have HMU := Lib.hid (hp.out.m.later hb1 (Nat.le_refl _))
              clear hm1 hb1
              go_wp2_with fail
              refine (ref_times_any HMU.out HM1.out (by have := HNU.out; omega) (by have := nt_of_lt (a := base) (k := 2) (by omega); omega)).mono ?_
              rintro e w2 ⟨⟨v2, rfl, hm2⟩, hb2'⟩
              have HM2 := Lib.hid hm2
              have HB2 := Lib.hid (hb2'.mono HB1.out.size)
              clear hm2 hb2'
              go_wp2_with fail
              refine (ref_natOf_any d _ (by omega)).mono ?_
              rintro e w3 ⟨⟨v3, rfl, hm3⟩, hb3⟩
              have HM3 := Lib.hid hm3
              have HM2' := Lib.hid (HM2.out.later hb3 (Nat.le_refl _))
              have HB3 := Lib.hid (hb3.mono (Nat.le_trans HB1.out.size HB2.out.size))
              clear hm3 hb3
              go_wp2_with fail
              refine (ref_plus_any HM2'.out HM3.out (by have := HNU.out; have := nt_step (u := u) (base := base) (d := 0) (by omega) (by omega); rw [Nat.add_zero] at this; omega) (by have := nt_of_lt (a := d) (k := 2) (by omega); omega)).mono ?_
              rintro e w4 ⟨⟨v4, rfl, hm4⟩, hb4⟩
              have hz1 := HB1.out.size
              have hz2 := HB2.out.size
              have hz3 := HB3.out.size
              have HB4 := Lib.hid (((HB1.out.trans HB2.out).trans HB3.out).trans (hb4.mono (Nat.le_trans hz1 (Nat.le_trans (by omega) hz3))))
              have HR : Hid (RgI s base W w4 v4 false (i + 1) (u * base + d)) := Lib.hid (by
                refine ⟨HDIG.out, ?_, Or.inl ?_, fun h => (by cases h), hm4.mono (by omega), hp.out.b.trans (HB4.out.mono hBw)⟩
                · have := nt_step (u := u) (base := base) (d := d) (by omega) (by omega)
                  have := HNU.out
                  omega
                · rw [HRD.out, hu.out])
              clear hm4 hb4
              go_wp2
              exact ⟨⟨i + 1, u * base + d, false, by go_num, rfl, by omega, HR⟩, by simp [intOf]; omega⟩
      · have hr : rdg c base = -1 := if_neg hok
        rw [hr] at HD
        have HN : Hid (¬ AllD base s) := Lib.hid fun h => hok (by rw [← hdv]; exact h.2 i hlt)
        have HB := Lib.hid hp.out.b
        clear hr hdv hok
        go_wp2_with (go_at_call 132; refine (HD.out _).mono ?_; rintro e w1 ⟨rfl, rfl⟩)
        go_ret2
        exact ⟨_, false, 0, rfl, ⟨(fun h => by cases h), fun h => absurd h HN.out⟩, by rw [digs_zero]; exact N.nil _ _, fun h => absurd h HN.out, HB.out⟩
    · obtain rfl : i = s.size := by omega
      by_cases h0 : s.size = 0
      · have he3 : s.toList = [] := list_empty h0
        have he2 : s.toList.isEmpty = true := by rw [he3]; rfl
        have HN : Hid (¬ AllD base s) := Lib.hid fun h => by have := h.1; omega
        go_wp2
        go_ret2
        exact ⟨_, false, u, rfl, ⟨(fun h => by cases h), fun h => absurd h HN.out⟩, hp.out.m, fun h => absurd h HN.out, hp.out.b⟩
      · have hne : s.toList.isEmpty = false := list_full h0
        have hne2 : ¬ s.toList = [] := list_full2 h0
        have HA : Hid (AllD base s) := Lib.hid ⟨by omega, hp.out.dig⟩
        go_wp2
        go_ret2
        exact ⟨_, true, u, rfl, ⟨fun _ => HA.out, fun _ => rfl⟩, hp.out.m, fun _ => hp.out.val, hp.out.b⟩
end Go.Proofs.YtkpoegdcmnjedaaDoor
