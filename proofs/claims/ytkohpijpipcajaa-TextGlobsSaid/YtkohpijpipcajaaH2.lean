import Derived.Test.YtkohpijpipcajaaH1
namespace Go.Proofs.Ytkohpijpipcajaa
open Go.RowKit
set_option linter.unusedVariables false
set_option linter.unusedSimpArgs false

/-- k copies are laid. -/
def Reps (s : ByteArray) (B : Nat) (w : World) (k L : Nat) (v : Value) (wr : World) : Prop :=
  L = k * s.size ∧ (L = 0 ∨ L ≤ 65536 + s.size) ∧ wr.ownsRow B 5 1 v L (Lib.byteCells (Lib.repeatL s.data.toList k)) ∧ Below B w wr

theorem reps_size {s : ByteArray} {B : Nat} {w wr : World} {k L : Nat} {v : Value} (h : Reps s B w k L v wr) : (⟨(Lib.repeatL s.data.toList k).toArray⟩ : ByteArray).size = L := by
  show (Lib.repeatL s.data.toList k).toArray.size = L
  rw [List.size_toArray, Lib.repeatL_length, h.1, Array.length_toList]
  rfl

theorem Reps.slice {s : ByteArray} {B : Nat} {w wr : World} {k L : Nat} {v : Value} (h : Reps s B w k L v wr) : ∃ ao cap, v = .slice ao L cap := by
  obtain ⟨_, _, h, _⟩ := h
  rcases h.2 with ⟨rfl, rfl⟩ | ⟨g, cap, cur, rfl, _⟩
  · exact ⟨_, _, rfl⟩
  · exact ⟨_, _, rfl⟩

theorem Reps.step {s : ByteArray} {B : Nat} {w wr w2 : World} {k L : Nat} {v v' : Value} (h : Reps s B w k L v wr) (hL : L ≤ 65536) (hB : B ≤ w.heap.size)
    (ho : w2.ownsRow B 5 1 v' (L + s.size) (Lib.byteCells (Lib.repeatL s.data.toList k) ++ Lib.strCells s)) (hg : wr.grownBy w2 v.ownBlock) : Reps s B w (k + 1) (L + s.size) v' w2 := by
  obtain ⟨h1, h2, h3, h4⟩ := h
  refine ⟨by rw [h1, Nat.succ_mul], Or.inr (by omega), ?_, h4.grown hg (Nat.le_trans hB h4.size) (fun k e => (h3.lt k e).1)⟩
  have e : Lib.byteCells (Lib.repeatL s.data.toList (k + 1)) = Lib.byteCells (Lib.repeatL s.data.toList k) ++ Lib.strCells s := by
    rw [Lib.repeatL_add, Lib.repeatL_one]
    simp [Lib.byteCells, Lib.strCells]
  rw [e]
  exact ho

set_option maxRecDepth 100000 in
set_option maxHeartbeats 1000000 in
theorem ref_repeat_any (s : ByteArray) (n : Int) (w : World) (hs : s.size ≤ 400) (h0 : -9223372036854775808 ≤ n) (h1 : n ≤ 9223372036854775807) :
    Calls Try.prog 40 #[.string s, .int .i64 n] w fun e w' => e = .returned (.tuple #[.string (repT s n), .int .i64 (repE s n)]) ∧ Below w.heap.size w w' := by
  by_cases c1 : n < 1 ∨ s.size = 0
  · have e1 : repT s n = ⟨#[]⟩ := by unfold repT; rw [if_neg (by omega)]
    have e2 : repE s n = 0 := by unfold repE; rw [if_neg (by omega)]
    rw [e1, e2]
    have hcv : (convert 54 9 (.slice none 0 0)).run Try.prog w = .ok (.string ⟨#[]⟩) w := conv_own (B := w.heap.size) (l := []) (World.ownsRow_nil _ _ _ _)
    clear e1 e2
    by_cases c2 : n < 1
    · by_cases c0 : n ≤ 0
      · clear c1
        go_enter Try.func40, Try.ntmps40
        go_wp2
        refine wp_loop_rounds 1 ?_
        rw [rounds_succ]
        go_wp2_with (go_at_call 66; refine (long_ok _ _ (by decide)).mono ?_; rintro e w' ⟨rfl, rfl⟩)
        go_ret2
        exact ⟨rfl, Below.refl _ _⟩
      · omega
    · have ht := empty_yes (c1.resolve_left c2)
      have ht1 := ht.1
      have ht2 := ht.2
      have hn : 0 < n := by omega
      clear c1 ht
      go_enter Try.func40, Try.ntmps40
      go_wp2
      refine wp_loop_rounds 1 ?_
      rw [rounds_succ]
      go_wp2_with (go_at_call 66; refine (long_ok _ _ (by decide)).mono ?_; rintro e w' ⟨rfl, rfl⟩)
      go_ret2
      exact ⟨rfl, Below.refl _ _⟩
  · have hp : 0 < s.size := by omega
    have ht' := (empty_no hp).1
    have ht2 := (empty_no hp).2
    obtain ⟨m, rfl⟩ : ∃ m : Nat, n = m := ⟨n.toNat, by omega⟩
    have hm1 : 1 ≤ m := by omega
    have hr0 : Reps s w.heap.size w 0 0 (.slice none 0 0) w := ⟨by simp, Or.inl rfl, World.ownsRow_nil _ _ _ _, Below.refl _ _⟩
    obtain ⟨i0, hi, hz0, hz1, hz2⟩ := info_parts info5
    have HI := Lib.hid hi
    have HZ0 := Lib.hid hz0
    have HZ1 := Lib.hid hz1
    have HZ2 := Lib.hid hz2
    clear c1 hi hz0 hz1 hz2
    go_enter Try.func40, Try.ntmps40
    go_wp2
    go_loopw [6, 7] (fun v i wr => ∃ k L : Nat, i = .int .i64 k ∧ k ≤ m ∧ Reps s w.heap.size w k L v wr) (fun _ i _ => m - (intOf i).toNat)
    case atStart => exact ⟨0, 0, rfl, by omega, hr0⟩
    case round =>
      obtain ⟨k, L, rfl, hk, hr⟩ := hrel
      obtain ⟨ao, cap, rfl⟩ := hr.slice
      have HR := Lib.hid hr
      have hL0 : L ≤ 65936 := by rcases hr.2.1 with h | h <;> omega
      have hBw : w.heap.size ≤ wr.heap.size := hr.2.2.2.size
      clear hr
      by_cases hlt : k < m
      · by_cases hL : L ≤ 65536
        · go_wp2_with (at_builtin; refine Lib.wpList_append_own_string _ rfl _ _ 54 9 rfl w.heap.size 5 i0 Try.underlying54 Try.underlying9 HI.out HZ0.out HZ1.out HZ2.out _ _ _ rfl HR.out.2.2.1 s rfl (by unfold maxLen; omega) (by omega) hBw ?_; intro v' w2 hown' hgrow _; have HN := Lib.hid (HR.out.step hL (Nat.le_refl _) hown' hgrow); clear hown' hgrow)
          go_roundw
          case rel => exact ⟨k + 1, L + s.size, by go_num, by omega, HN.out⟩
          case measure => simp [intOf]; omega
        · have hcv := conv_own HR.out.2.2.1
          have hsz : (⟨(Lib.repeatL s.data.toList k).toArray⟩ : ByteArray).size = L := reps_size HR.out
          have hbig : ¬ s.size * m ≤ 65536 := by
            have h1 := HR.out.1
            have h2 : k * s.size ≤ m * s.size := Nat.mul_le_mul_right _ hk
            rw [Nat.mul_comm m] at h2
            omega
          have e1 : repT s m = ⟨#[]⟩ := by unfold repT; rw [if_neg (by simp; omega)]
          have e2 : repE s m = 4 := by unfold repE; rw [if_pos ⟨by omega, hp, by simpa using hbig⟩]
          have E1 := Lib.hid e1
          have E2 := Lib.hid e2
          have hbl := Lib.hid HR.out.2.2.2
          clear e1 e2 hbig
          generalize (⟨(Lib.repeatL s.data.toList k).toArray⟩ : ByteArray) = r at hcv hsz
          have HS := Lib.hid hsz
          clear hsz
          go_wp2_with (go_at_call 66; refine (long_no _ _ (by rw [HS.out]; omega) (by rw [HS.out]; omega)).mono ?_; rintro e w' ⟨rfl, rfl⟩)
          go_ret2
          exact ⟨by rw [E1.out, E2.out]; rfl, hbl.out⟩
      · have hcv := conv_own HR.out.2.2.1
        obtain rfl : k = m := by omega
        have hsz : (⟨(Lib.repeatL s.data.toList k).toArray⟩ : ByteArray).size = L := reps_size HR.out
        have hL1 : s.size * k = L := by rw [Nat.mul_comm]; exact HR.out.1.symm
        have hk1 : 1 ≤ k := hm1
        by_cases hL : L ≤ 65536
        · have e1 : repT s k = ⟨(Lib.repeatL s.data.toList k).toArray⟩ := by unfold repT; rw [if_pos ⟨by omega, hp, by simp; omega⟩]; simp
          have e2 : repE s k = 0 := by unfold repE; rw [if_neg (by simp; omega)]
          have E1 := Lib.hid e1
          have E2 := Lib.hid e2
          have hbl := Lib.hid HR.out.2.2.2
          clear e1 e2 hL1
          generalize (⟨(Lib.repeatL s.data.toList k).toArray⟩ : ByteArray) = r at hcv hsz E1
          have HS := Lib.hid hsz
          clear hsz
          go_wp2_with (go_at_call 66; refine (long_ok _ _ (by rw [HS.out]; omega)).mono ?_; rintro e w' ⟨rfl, rfl⟩)
          go_ret2
          exact ⟨by rw [E1.out, E2.out]; rfl, hbl.out⟩
        · have e1 : repT s k = ⟨#[]⟩ := by unfold repT; rw [if_neg (by simp; omega)]
          have e2 : repE s k = 4 := by unfold repE; rw [if_pos ⟨by omega, hp, by simp; omega⟩]
          have E1 := Lib.hid e1
          have E2 := Lib.hid e2
          have hbl := Lib.hid HR.out.2.2.2
          clear e1 e2 hL1
          generalize (⟨(Lib.repeatL s.data.toList k).toArray⟩ : ByteArray) = r at hcv hsz
          have HS := Lib.hid hsz
          clear hsz
          go_wp2_with (go_at_call 66; refine (long_no _ _ (by rw [HS.out]; omega) (by rw [HS.out]; omega)).mono ?_; rintro e w' ⟨rfl, rfl⟩)
          go_ret2
          exact ⟨by rw [E1.out, E2.out]; rfl, hbl.out⟩
end Go.Proofs.Ytkohpijpipcajaa
