import Derived.Test.YtkpoegdcmnjedaaDoorMJ1
import Derived.Test.YtkpoegdcmnjedaaDoorPA2
import Derived.Test.YtkpoegdcmnjedaaDoorRJ2
import Derived.Test.YtkpoegdcmnjedaaDoorSB3
namespace Go.Proofs.YtkpoegdcmnjedaaDoor
open Go.RowKit
set_option linter.unusedVariables false
set_option linter.unusedSimpArgs false

/-! ### the root of a magnitude -/
theorem root_ex : ∀ a : Nat, ∃ s, s * s ≤ a ∧ a < (s + 1) * (s + 1)
  | 0 => ⟨0, by decide, by decide⟩
  | a + 1 => by
    obtain ⟨s, h1, h2⟩ := root_ex a
    by_cases h : a + 1 < (s + 1) * (s + 1)
    · exact ⟨s, by omega, h⟩
    · refine ⟨s + 1, by omega, ?_⟩
      have h3 : (s + 1 + 1) * (s + 1 + 1) = (s + 1) * (s + 1) + 2 * (s + 1) + 1 := by
        rw [Nat.add_mul, Nat.mul_add]; omega
      omega
theorem root_uniq {a s t : Nat} (h1 : s * s ≤ a) (h2 : a < (s + 1) * (s + 1)) (k1 : t * t ≤ a) (k2 : a < (t + 1) * (t + 1)) : s = t := by
  rcases Nat.lt_trichotomy s t with c | c | c
  · have := Nat.mul_le_mul (show s + 1 ≤ t from c) (show s + 1 ≤ t from c); omega
  · exact c
  · have := Nat.mul_le_mul (show t + 1 ≤ s from c) (show t + 1 ≤ s from c); omega
theorem newton {a s r : Nat} (h1 : s * s ≤ a) (hr : 0 < r) : s ≤ (r + a / r) / 2 := by
  have key : 2 * s - r ≤ a / r := by
    refine (Nat.le_div_iff_mul_le hr).2 (Nat.le_trans ?_ h1)
    by_cases h : r ≤ 2 * s
    · -- (2 s - r) r ≤ s s
      obtain ⟨d, hd⟩ : ∃ d, 2 * s = r + d := ⟨2 * s - r, by omega⟩
      rw [show 2 * s - r = d by omega]
      rcases Nat.le_total r d with c | c
      · obtain ⟨e, rfl⟩ : ∃ e, d = r + e := ⟨d - r, by omega⟩
        obtain ⟨f, rfl⟩ : ∃ f, e = 2 * f := ⟨s - r, by omega⟩
        obtain rfl : s = r + f := by omega
        have : (r + f) * (r + f) = (r + 2 * f) * r + f * f := by
          rw [Nat.add_mul, Nat.mul_add, Nat.mul_add, Nat.add_mul, Nat.mul_comm f r, Nat.mul_assoc 2 f r, Nat.mul_comm f r]; omega
        omega
      · obtain ⟨e, rfl⟩ : ∃ e, r = d + e := ⟨r - d, by omega⟩
        obtain ⟨f, rfl⟩ : ∃ f, e = 2 * f := ⟨s - d, by omega⟩
        obtain rfl : s = d + f := by omega
        have : (d + f) * (d + f) = d * (d + 2 * f) + f * f := by
          rw [Nat.add_mul, Nat.mul_add, Nat.mul_add, Nat.mul_add, Nat.mul_comm f d, Nat.mul_left_comm d 2 f]; omega
        omega
    · rw [show 2 * s - r = 0 by omega, Nat.zero_mul]; exact Nat.zero_le _
  omega
theorem newton_end {a s r : Nat} (h2 : a < (s + 1) * (s + 1)) (hr : 0 < r) (hs : s ≤ r) (h : r ≤ (r + a / r) / 2) : r = s := by
  have h3 : r ≤ a / r := by omega
  have h4 := (Nat.le_div_iff_mul_le hr).1 h3
  rcases Nat.lt_or_ge s r with c | c
  · have := Nat.mul_le_mul (show s + 1 ≤ r from c) (show s + 1 ≤ r from c); omega
  · omega
theorem newton_start {a s n : Nat} (h1 : s * s ≤ a) (hn : a < 2 ^ n) : s ≤ 2 ^ ((n + 1) / 2) := by
  rcases Nat.lt_or_ge (2 ^ ((n + 1) / 2)) s with c | c
  · have h3 := Nat.mul_le_mul (Nat.le_of_lt c) (Nat.le_of_lt c)
    rw [← Nat.pow_add] at h3
    have h4 : 2 ^ n ≤ 2 ^ ((n + 1) / 2 + (n + 1) / 2) := Nat.pow_le_pow_right (by decide) (by omega)
    omega
  · exact c
theorem M.one1 (w : World) : M w.heap.size (w.alloc (Obj.cells #[.int .u32 1] 75)) (.slice (some ⟨w.heap.size, 0, none⟩) 1 1) [1] := M.one w 1
theorem down_one {B : Nat} {v : Value} {l : List Nat} {W : World} (h : M B W v l) (hd : Dig B32 l) (hl : l.length ≤ 1000000) :
    Calls Tryd.prog 120 #[v, .int .i64 1] W fun e W' => (∃ v', e = .returned (.tuple #[v', .bool (decide (val B32 l % 2 ^ 1 ≠ 0))]) ∧ M W.heap.size W' v' (digs B32 (val B32 l / 2 ^ 1))) ∧ Below W.heap.size W W' := down_any 1 (by decide) h hd hl
structure RoI (s K : Nat) (W wr : World) (v : Value) (r : Nat) : Prop where
  m : M W.heap.size wr v (digs B32 r)
  le : s ≤ r
  kn : nd r ≤ K
  bel : Below W.heap.size W wr
set_option maxRecDepth 100000 in
set_option maxHeartbeats 4000000 in
theorem root_any {B : Nat} {v : Value} {a s : Nat} {W : World} (h : M B W v (digs B32 a)) (ha : nd a ≤ 1000) (h1 : s * s ≤ a) (h2 : a < (s + 1) * (s + 1)) :
    Calls Tryd.prog 93 #[v] W fun e W' => (∃ v', e = .returned v' ∧ M W.heap.size W' v' (digs B32 s)) ∧ Below W.heap.size W W' := by
  obtain ⟨aa, ca, rfl, _, _⟩ := h.slice
  have hla : (digs B32 a).length = nd a := rfl
  rw [hla] at h ⊢
  have HS := Lib.hid (And.intro h1 h2)
  have HA := Lib.hid h
  have HN := Lib.hid ha
  by_cases h0 : a = 0
  · have hs0 : s = 0 := by
      rcases Nat.eq_zero_or_pos s with c | c
      · exact c
      · have := Nat.mul_le_mul c c; omega
    have hz : nd a = 0 := nd_zero.2 h0
    rw [hz]
    subst hs0
    clear h h1 h2 ha hla h0 hz HS HA HN
    rw [digs_zero]
    go_enter Tryd.func93, Tryd.ntmps93
    go_wp2
    go_ret
    exact ⟨⟨_, rfl, M.nil _ _⟩, Below.refl _ _⟩
  have hsp : 0 < s := by
    rcases Nat.eq_zero_or_pos s with c | c
    · subst c; omega
    · exact c
  have hnp : 0 < nd a := Nat.pos_of_ne_zero fun e => h0 (nd_zero.1 e)
  have hnz : ((nd a : Int) == 0) = false := by rw [beq_eq_false_iff_ne]; omega
  have hbl := bits_le.1 (Nat.le_refl (bitsN a))
  have hbk : bitsN a ≤ 32000 := Nat.le_trans (bitsN_nd a) (by omega)
  have HST := Lib.hid (newton_start h1 hbl)
  obtain ⟨b, HBN⟩ : ∃ b, Hid (bitsN a = b) := ⟨_, Lib.hid rfl⟩
  have H81 : Hid (∀ w, Below W.heap.size W w → Calls Tryd.prog 81 #[.slice aa (nd a) ca] w fun e W' => e = .returned (.int .i64 (b : Nat)) ∧ w = W') := Lib.hid fun w hw => by
    have h81 := bits_any (HA.out.later hw (Nat.le_refl _)) (digs_dig (by decide) _) (show nd a ≤ 1000000 by omega)
    rw [← HBN.out]
    exact h81
  rw [HBN.out] at HST hbk
  have hq : ((b : Int) + 1) / 2 = (((b + 1) / 2 : Nat) : Int) := by omega
  have HSP := Lib.hid hsp
  clear h h1 h2 ha h0 hbl
  go_enter Tryd.func93, Tryd.ntmps93
  have h119 := up_any ((b + 1) / 2) (by omega) (M.one1 W) (Dig.mem (by decide) (by decide)) (by decide)
  rw [show val B32 [1] = 1 from rfl, Nat.one_mul] at h119
  have H119 : Hid (Calls Tryd.prog 119 #[.slice (some ⟨W.heap.size, 0, none⟩) 1 1, .int .i64 (((b : Int) + 1) / 2)] (W.alloc (Obj.cells #[.int .u32 1] 75)) fun e W' => (∃ v', e = .returned v' ∧ M (W.alloc (Obj.cells #[.int .u32 1] 75)).heap.size W' v' (digs B32 (2 ^ ((b + 1) / 2)))) ∧ Below (W.alloc (Obj.cells #[.int .u32 1] 75)).heap.size (W.alloc (Obj.cells #[.int .u32 1] 75)) W') := Lib.hid (by rw [hq]; exact h119)
  have hk0 : nd (2 ^ ((b + 1) / 2)) ≤ 10000 := by
    have := nd_shift (a := 1) (K := 1) (n := (b + 1) / 2) (by show (digs B32 1).length ≤ 1; rw [digs_pos (by decide) (by decide)]; show (1 :: digs B32 0).length ≤ 1; rw [digs_zero]; decide) (by decide) (by omega)
    rwa [Nat.one_mul] at this
  have HK0 := Lib.hid hk0
  clear h119 hq hk0
  go_wp2_with (first | (go_at_call 81; (with_reducible refine (H81.out _ ((Below.refl _ _).alloc (Nat.le_refl _) _)).mono ?_); rintro e w3 ⟨rfl, rfl⟩) | (go_at_call 119; (with_reducible refine H119.out.mono ?_); rintro e w4 ⟨⟨v4, rfl, hm4⟩, hb4⟩; have HM4 := Lib.hid hm4; have HB4 := Lib.hid hb4; clear hm4 hb4))
  have HI0 : Hid (RoI s 10000 W w4 v4 (2 ^ ((b + 1) / 2))) := Lib.hid ⟨HM4.out.mono (by simp), HST.out, HK0.out, ((Below.refl _ _).alloc (Nat.le_refl _) _).trans (HB4.out.mono (by simp))⟩
  clear HM4 HB4 H119 H81
  go_loopw [3] (fun rv wr => ∃ r : Nat, Hid (RoI s 10000 W wr rv r)) (fun rv wr => rowN wr rv)
  case atStart => exact ⟨_, HI0⟩
  case round =>
    obtain ⟨r, hi⟩ := hrel
    obtain ⟨ar, pr, rfl, _, _⟩ := hi.out.m.slice
    have hrp : 0 < r := Nat.lt_of_lt_of_le HSP.out hi.out.le
    have HOV := Lib.hid (overH_any (a := a) (b := r) (by have := HN.out; omega) (by have := hi.out.kn; omega) hrp _ _ _ ((HA.out.later hi.out.bel (Nat.le_refl _)).mono (Nat.zero_le _)) (hi.out.m.mono (Nat.zero_le _)))
    have hnq : nd (a / r) ≤ 1000 := Nat.le_trans (nd_div a r) HN.out
    have HNQ : Hid ((digs B32 r).length ≤ 1000000 ∧ (digs B32 (a / r)).length ≤ 1000000) := Lib.hid ⟨by show nd r ≤ _; have := hi.out.kn; omega, by show nd (a / r) ≤ _; omega⟩
    have hns : nd (r + a / r) ≤ 10001 := nd_add r (a / r) hi.out.kn (by omega)
    have HNS : Hid ((digs B32 (r + a / r)).length ≤ 1000000) := Lib.hid (by show nd _ ≤ _; omega)
    have hnn : nd ((r + a / r) / 2) ≤ 10001 := Nat.le_trans (nd_mono (Nat.div_le_self _ _)) hns
    have HNN : Hid ((digs B32 ((r + a / r) / 2)).length ≤ 1000000) := Lib.hid (by show nd _ ≤ _; omega)
    have HRR := Lib.hid hi.out.m
    obtain ⟨c, HCC⟩ : ∃ c, Hid (cmpI ((r + a / r) / 2) r = c) := ⟨_, Lib.hid rfl⟩
    clear hnq hns hnn
    go_upto_if 33 with (first | (go_at_call 117; (with_reducible refine HOV.out.mono ?_); rintro e w5 ⟨vq, vr, rfl, hq5, hr5, hb5⟩; have HQ5 := Lib.hid hq5; have HB5 := Lib.hid hb5; clear hq5 hr5 hb5) | (go_at_call 111; (with_reducible refine (plus_any (HRR.out.later HB5.out (Nat.le_refl _)) HQ5.out (digs_dig (by decide) _) (digs_dig (by decide) _) HNQ.out.1 HNQ.out.2).mono ?_); rw [val_digs (by decide), val_digs (by decide)]; rintro e w6 ⟨⟨v6, rfl, hm6⟩, hb6⟩; have HM6 := Lib.hid hm6; have HB6 := Lib.hid (HB5.out.trans (hb6.mono HB5.out.size)); clear hm6 hb6) | (go_at_call 120; (with_reducible refine (down_one HM6.out (digs_dig (by decide) _) HNS.out).mono ?_); rw [val_digs (by decide), Nat.pow_one]; rintro e w7 ⟨⟨v7, rfl, hm7⟩, hb7⟩; have HM7 := Lib.hid hm7; have HB7 := Lib.hid (HB6.out.trans (hb7.mono HB6.out.size)); clear hm7 hb7) | (go_at_call 112; (with_reducible refine (compare_any HM7.out (HRR.out.later HB7.out (Nat.le_refl _)) (digs_dig (by decide) _) (digs_dig (by decide) _) HNN.out HNQ.out.1).mono ?_); rw [val_digs (by decide), val_digs (by decide), HCC.out]; rintro e w8 ⟨rfl, hb8⟩; have HB8 := Lib.hid (HB7.out.trans (hb8.mono HB7.out.size)); have HM8 := Lib.hid (HM7.out.later hb8 (Nat.le_refl _)); clear hb8))
    by_cases hge : r ≤ (r + a / r) / 2
    · have hc : 0 ≤ c := by rw [← HCC.out]; unfold cmpI; rw [if_neg (by omega)]; split <;> decide
      have hrs := newton_end HS.out.2 hrp hi.out.le hge
      have HRS : Hid (r = s) := Lib.hid hrs
      have HR8 := Lib.hid (hi.out.m.later HB8.out (Nat.le_refl _))
      have HBI := Lib.hid hi.out.bel
      clear hge hrs
      go_wp2
      go_ret
      exact ⟨⟨_, rfl, by have h := HR8.out; rw [HRS.out] at h; rw [← HRS.out]; rw [HRS.out]; exact h⟩, HBI.out.trans (HB8.out.mono HBI.out.size)⟩
    · have hc : c < 0 := by rw [← HCC.out]; unfold cmpI; rw [if_pos (by omega)]; decide
      have HLT : Hid ((r + a / r) / 2 < r) := Lib.hid (by omega)
      clear hge
      go_wp2
      go_roundw
      case rel => exact ⟨(r + a / r) / 2, Lib.hid ⟨HM8.out.mono (Nat.le_trans hi.out.bel.size HB6.out.size), newton HS.out.1 hrp, Nat.le_trans (nd_mono (Nat.le_of_lt HLT.out)) hi.out.kn, hi.out.bel.trans (HB8.out.mono hi.out.bel.size)⟩⟩
      case measure =>
        rw [rowN_eq (HM8.out.mono (Nat.zero_le _)), rowN_eq (hi.out.m.mono (Nat.zero_le _))]
        exact HLT.out
end Go.Proofs.YtkpoegdcmnjedaaDoor
namespace Go.Proofs.YtkpoegdcmnjedaaDoor
open Go.RowKit
set_option linter.unusedVariables false
set_option linter.unusedSimpArgs false

/-! ### Root, Sign of the program -/
/-- what Root tells of a number that is not too long. -/
def RtQ (s : ByteArray) (W : World) (e : Ending) (W' : World) : Prop :=
  ∃ (r : ByteArray) (er : Int), e = .returned (.tuple #[.string r, .int .i64 er]) ∧
    ((¬ IsNum s ∧ r = ⟨#[]⟩ ∧ er = 2) ∨ (IsNum s ∧ valT s < 0 ∧ r = ⟨#[]⟩ ∧ er = 7) ∨
     (IsNum s ∧ ¬ valT s < 0 ∧ (∃ t : Nat, t * t ≤ natT s ∧ natT s < (t + 1) * (t + 1) ∧ r = ren (t : Int)) ∧ er = 0)) ∧ Below W.heap.size W W'
theorem root_small {a t : Nat} (ha : a < Lim) (h : t * t ≤ a) : t < Lim := by
  rcases Nat.eq_zero_or_pos t with c | c
  · subst c; unfold Lim; decide +kernel
  · have := Nat.le_mul_of_pos_left t c
    omega
set_option maxRecDepth 100000 in
set_option maxHeartbeats 2000000 in
theorem proot_any (s : ByteArray) (W : World) (hs : s.size ≤ 1000000) (la : IsNum s → natT s < Lim) : Calls Tryd.prog 37 #[.string s] W (RtQ s W) := by
  have LA := Lib.hid la
  clear la
  go_enter Tryd.func37, Tryd.ntmps37
  go_wp2_with fail
  refine (parse_num s _ hs).mono ?_
  rintro e w2 ⟨m, ao, n, cap, lg, od, er, rfl, hd, hb⟩
  obtain ⟨V, hV, hbox, vb, vs⟩ := box_new w2 (.bool m) (.slice ao n cap) (.bool lg) (.bool od)
  have HB := Lib.hid (hb.trans (vb.mono hb.size))
  have HVB := Lib.hid vb
  have F := Lib.hid hbox
  obtain ⟨x0, x1, x2, x3, -, -, -, -⟩ := F.out
  clear hb vb hbox
  go_upto_region 2 with (fail)
  rw [← hV]
  clear hV
  rcases hd with ⟨h1, rfl⟩ | ⟨h1, h2, _⟩ | ⟨h1, h2, rfl, rfl, h3, h4⟩
  · go_wp2
    exact bodyPost_ret (v := .tuple #[.string ⟨#[]⟩, .int .i64 2]) (by simp [results, Tryd.results37, go_sem]) rfl ⟨_, 2, rfl, Or.inl ⟨h1, rfl, rfl⟩, HB.out⟩
  · exact absurd (LA.out h1) (by omega)
  obtain ⟨a', n', p', o', ea, hma, hna⟩ := h3
  simp only [numV, Value.agg.injEq, Array.mk.injEq, List.cons.injEq, Value.slice.injEq, Value.bool.injEq, and_true] at ea
  obtain ⟨hm, ⟨rfl, rfl, rfl⟩, -, -⟩ := ea
  have HM := Lib.hid hm
  have H1 := Lib.hid h1
  have HL := Lib.hid h2
  clear hm h1 h2
  by_cases hneg : valT s < 0
  · obtain rfl : m = true := by rw [HM.out]; exact decide_eq_true hneg
    have HNG := Lib.hid hneg
    clear hneg hma h4
    go_wp2
    exact bodyPost_ret (v := .tuple #[.string ⟨#[]⟩, .int .i64 7]) (by simp [results, Tryd.results37, go_sem]) rfl ⟨_, 7, rfl, Or.inr (Or.inl ⟨H1.out, HNG.out, rfl, rfl⟩), HB.out⟩
  obtain rfl : m = false := by rw [HM.out]; exact decide_eq_false hneg
  have HNG := Lib.hid hneg
  obtain ⟨t, ht1, ht2⟩ := root_ex (natT s)
  have hl : n = nd (natT s) := h4.len
  have H93 := Lib.hid (root_any (h4.later HVB.out (Nat.le_refl _)) (Nat.le_trans (nd_lim HL.out) (by decide)) ht1 ht2)
  have HT := Lib.hid (And.intro ht1 ht2)
  have HTL : Hid (t < Lim) := Lib.hid (root_small HL.out ht1)
  have HTS : Hid (toldS (t : Int) = ren (t : Int) ∧ toldE (t : Int) = 0) := Lib.hid (told_small (by rw [Int.natAbs_natCast]; exact HTL.out))
  clear hneg hma h4 ht1 ht2 hl
  go_wp2_with (first | (go_at_call 93; (with_reducible refine H93.out.mono ?_); rintro e w3 ⟨⟨v3, rfl, hm3⟩, hb3⟩; obtain ⟨a3, n3, p3, rfl⟩ := hm3.slice3; have HM3 : Hid (Nm 63 w3 (numV false (.slice a3 n3 p3) false false) (t : Int)) := Lib.hid ⟨a3, n3, p3, false, by rw [decide_eq_false (by omega)], by rw [Int.natAbs_natCast]; exact hm3.mono (Nat.zero_le _), by rw [Int.natAbs_natCast]; exact nd_lim HTL.out⟩; have HB3 := Lib.hid hb3; clear hm3 hb3) | (go_at_call 77; (with_reducible refine (written_any HM3.out (by decide)).mono ?_); rintro e w4 ⟨rfl, hb4⟩; have HB4 := Lib.hid hb4; clear hb4))
  exact bodyPost_ret (v := .tuple #[.string (toldS (t : Int)), .int .i64 (toldE (t : Int))]) (by simp [results, Tryd.results37, go_sem]) rfl ⟨_, _, rfl, Or.inr (Or.inr ⟨H1.out, (by have := HNG.out; omega), ⟨t, HT.out.1, HT.out.2, HTS.out.1⟩, HTS.out.2⟩), (HB.out.trans (HB3.out.mono HB.out.size)).trans (HB4.out.mono (Nat.le_trans HB.out.size HB3.out.size))⟩
set_option maxRecDepth 100000 in
set_option maxHeartbeats 2000000 in
theorem psign_any (s : ByteArray) (W : World) (hs : s.size ≤ 1000000) (la : IsNum s → natT s < Lim) : Calls Tryd.prog 39 #[.string s] W (SgQ s W) := by
  have LA := Lib.hid la
  clear la
  go_enter Tryd.func39, Tryd.ntmps39
  go_wp2_with fail
  refine (parse_num s _ hs).mono ?_
  rintro e w2 ⟨m, ao, n, cap, lg, od, er, rfl, hd, hb⟩
  obtain ⟨V, hV, hbox, vb, vs⟩ := box_new w2 (.bool m) (.slice ao n cap) (.bool lg) (.bool od)
  have HB := Lib.hid (hb.trans (vb.mono hb.size))
  have HVB := Lib.hid vb
  have F := Lib.hid hbox
  obtain ⟨x0, x1, x2, x3, -, -, -, -⟩ := F.out
  clear hb vb hbox
  go_upto_region 2 with (fail)
  rw [← hV]
  clear hV
  rcases hd with ⟨h1, rfl⟩ | ⟨h1, h2, _⟩ | ⟨h1, h2, rfl, rfl, h3, h4⟩
  · go_wp2
    exact bodyPost_ret (v := .tuple #[.int .i64 0, .int .i64 2]) (by simp [results, Tryd.results39, go_sem]) rfl ⟨0, 2, rfl, Or.inl ⟨h1, rfl, rfl⟩, HB.out⟩
  · exact absurd (LA.out h1) (by omega)
  have H1 := Lib.hid (And.intro h1 h2)
  have HN := Lib.hid (h3.later HVB.out (Nat.le_refl _))
  obtain ⟨c, HC⟩ : ∃ c, Hid (sgnZ (valT s) = c) := ⟨_, Lib.hid rfl⟩
  clear h1 h2 h3 h4
  go_wp2_with (go_at_call 75; (with_reducible refine (sign_any HN.out).mono ?_); rw [HC.out]; rintro e w3 ⟨rfl, hb3⟩; have HB3 := Lib.hid hb3; clear hb3)
  exact bodyPost_ret (v := .tuple #[.int .i64 c, .int .i64 0]) (by simp [results, Tryd.results39, go_sem]) rfl ⟨c, 0, rfl, Or.inr (Or.inr ⟨H1.out.1, H1.out.2, by rw [← HC.out]; rfl, rfl⟩), HB.out.trans (HB3.out.mono HB.out.size)⟩
end Go.Proofs.YtkpoegdcmnjedaaDoor
namespace Go.Proofs.YtkpoegdcmnjedaaDoor
open Go.RowKit
set_option linter.unusedVariables false
set_option linter.unusedSimpArgs false

/-! ### Int of the program -/
/-- what Int tells of a number that is not too long. -/
def InQ (s : ByteArray) (W : World) (e : Ending) (W' : World) : Prop :=
  ∃ (r er : Int), e = .returned (.tuple #[.int .i64 r, .int .i64 er]) ∧
    ((¬ IsNum s ∧ r = 0 ∧ er = 2) ∨ (IsNum s ∧ ¬ (-9223372036854775808 ≤ valT s ∧ valT s < 9223372036854775808) ∧ r = 0 ∧ er = 7) ∨
     (IsNum s ∧ (-9223372036854775808 ≤ valT s ∧ valT s < 9223372036854775808) ∧ r = valT s ∧ er = 0)) ∧ Below W.heap.size W W'
theorem neg_wrap {u : Nat} (h0 : 0 < u) (h1 : u ≤ 9223372036854775808) : wrap64 (IntKind.u64.wrap (-(u : Int))) = -(u : Int) := by
  have h : IntKind.u64.wrap (-(u : Int)) = 18446744073709551616 - (u : Int) := by
    simp [IntKind.wrap, IntKind.signed, IntKind.bits]; omega
  rw [h]; unfold wrap64; omega
def VV (l : List Nat) (k : Nat) : Nat := V B32 l k
theorem or64' {a x i : Nat} (hx : x < 2 ^ i) (ha : a * 2 ^ i < 18446744073709551616) (h64 : x < 18446744073709551616) : bits .or .u64 (x : Int) ((a * 2 ^ i : Nat) : Int) = ((x + a * 2 ^ i : Nat) : Int) := by
  rw [u64_or_nat _ _ h64 ha, Nat.or_comm, or_add hx, Nat.add_comm]
set_option maxRecDepth 100000 in
set_option maxHeartbeats 4000000 in
theorem pint_any (s : ByteArray) (W : World) (hs : s.size ≤ 1000000) (la : IsNum s → natT s < Lim) : Calls Tryd.prog 41 #[.string s] W (InQ s W) := by
  have LA := Lib.hid la
  clear la
  go_enter Tryd.func41, Tryd.ntmps41
  go_wp2_with fail
  refine (parse_num s _ hs).mono ?_
  rintro e w2 ⟨m, ao, n, cap, lg, od, er, rfl, hd, hb⟩
  obtain ⟨V, hV, hbox, vb, vs⟩ := box_new w2 (.bool m) (.slice ao n cap) (.bool lg) (.bool od)
  have HB := Lib.hid (hb.trans (vb.mono hb.size))
  have HVB := Lib.hid vb
  have F := Lib.hid hbox
  obtain ⟨x0, x1, x2, x3, -, -, -, -⟩ := F.out
  clear hb vb hbox
  go_upto_region 2 with (fail)
  rw [← hV]
  clear hV vs
  rcases hd with ⟨h1, rfl⟩ | ⟨h1, h2, _⟩ | ⟨h1, h2, rfl, rfl, h3, h4⟩
  · go_wp2
    exact bodyPost_ret (v := .tuple #[.int .i64 0, .int .i64 2]) (by simp [results, Tryd.results41, go_sem]) rfl ⟨0, 2, rfl, Or.inl ⟨h1, rfl, rfl⟩, HB.out⟩
  · exact absurd (LA.out h1) (by omega)
  obtain ⟨a', n', p', o', ea, hma, hna⟩ := h3
  simp only [numV, Value.agg.injEq, Array.mk.injEq, List.cons.injEq, Value.slice.injEq, Value.bool.injEq, and_true] at ea
  obtain ⟨hm, ⟨rfl, rfl, rfl⟩, -, -⟩ := ea
  have HM := Lib.hid hm
  have H1 := Lib.hid h1
  obtain ⟨x, hx⟩ : ∃ x, valT s = x := ⟨_, rfl⟩
  have HX := Lib.hid hx
  have hxa : x.natAbs = natT s := by rw [← hx, valT_abs]
  rw [hx] at HM
  rw [← hxa] at h4
  have HMV := Lib.hid (h4.later HVB.out (Nat.le_refl _))
  have hl : n = nd x.natAbs := h4.len
  have hn63 : nd x.natAbs ≤ 63 := by rw [hxa]; exact nd_lim h2
  have h81 := bits_any HMV.out (digs_dig (by decide) _) (show nd x.natAbs ≤ 1000000 by omega)
  have H81 : Hid (Calls Tryd.prog 81 #[.slice ao n cap] V fun e W' => e = .returned (.int .i64 (bitsN x.natAbs : Nat)) ∧ V = W') := Lib.hid (by exact h81)
  obtain ⟨b, HBN⟩ : ∃ b, Hid (bitsN x.natAbs = b) := ⟨_, Lib.hid rfl⟩
  rw [HBN.out] at H81
  have HQ : Hid (∀ (r er : Int) (W' : World), ((¬ (-9223372036854775808 ≤ x ∧ x < 9223372036854775808) ∧ r = 0 ∧ er = 7) ∨ ((-9223372036854775808 ≤ x ∧ x < 9223372036854775808) ∧ r = x ∧ er = 0)) → Below W.heap.size W W' → InQ s W (.returned (.tuple #[.int .i64 r, .int .i64 er])) W') := Lib.hid fun r er W' h hw => by
    refine ⟨r, er, rfl, ?_, hw⟩
    rw [HX.out]
    rcases h with h | h
    · exact Or.inr (Or.inl ⟨H1.out, h⟩)
    · exact Or.inr (Or.inr ⟨H1.out, h⟩)
  clear hm h1 h2 hma hna hx hxa h81 h4
  by_cases hbig : 64 < b
  · have HOUT : Hid (¬ (-9223372036854775808 ≤ x ∧ x < 9223372036854775808)) := Lib.hid (by
      have h1 : ¬ bitsN x.natAbs ≤ 64 := by rw [HBN.out]; omega
      rw [bits_le] at h1
      have h2 : (2 : Nat) ^ 64 = 18446744073709551616 := by decide
      omega)
    clear hl hn63
    go_wp2_with (go_at_call 81; (with_reducible refine H81.out.mono ?_); rintro e w3 ⟨rfl, rfl⟩)
    exact bodyPost_ret (v := .tuple #[.int .i64 0, .int .i64 7]) (by simp [results, Tryd.results41, go_sem]) rfl (HQ.out _ _ _ (Or.inl ⟨HOUT.out, rfl, rfl⟩) HB.out)
  have hbl : b ≤ 64 := by omega
  have HXU : Hid (x.natAbs < 18446744073709551616) := Lib.hid (by
    have h1 := bits_le.1 (show bitsN x.natAbs ≤ 64 by rw [HBN.out]; exact hbl)
    have h2 : (2 : Nat) ^ 64 = 18446744073709551616 := by decide
    omega)
  have hn2 : n ≤ 2 := by
    rw [hl]
    refine (digs_length_le (by decide)).2 ?_
    have := HXU.out
    exact Nat.lt_of_lt_of_le this (by decide)
  obtain ⟨u, HU⟩ : ∃ u : Nat, Hid (x.natAbs = u) := ⟨_, Lib.hid rfl⟩
  have HLN := Lib.hid hl
  clear hl hn63
  go_upto_region 7 with (go_at_call 81; (with_reducible refine H81.out.mono ?_); rintro e w3 ⟨rfl, rfl⟩)
  obtain ⟨l, HLL⟩ : ∃ l, Hid (digs B32 x.natAbs = l) := ⟨_, Lib.hid rfl⟩
  have HMD : Hid (M 0 V (.slice ao n cap) l) := Lib.hid (by rw [← HLL.out]; exact HMV.out.mono (Nat.zero_le _))
  have HDD : Hid (Dig B32 l) := Lib.hid (by rw [← HLL.out]; exact digs_dig (by decide) _)
  have HLE : Hid (n = l.length) := Lib.hid (by rw [HLN.out, ← HLL.out]; rfl)
  have HVU : Hid (VV l n = u) := Lib.hid (by unfold VV; rw [HLE.out]; show val B32 l = u; rw [← HLL.out, val_digs (by decide)]; exact HU.out)
  have HV0 : Hid (VV l 0 = 0) := Lib.hid rfl
  go_wp2
  go_loopw [6, 28] (fun vv iv wr => ∃ k : Nat, iv = .int .i64 k ∧ k ≤ n ∧ vv = .int .u64 (VV l k : Nat) ∧ V = wr) (fun _ iv _ => n - (intOf iv).toNat)
  case atStart => exact ⟨0, rfl, Nat.zero_le _, rfl, rfl⟩
  case round =>
    obtain ⟨k, rfl, hk, rfl, rfl⟩ := hrel
    by_cases hlt : k < n
    · obtain ⟨g, rfl, _, _⟩ := HMD.out.block (show 0 < n by omega)
      have hc := HMD.out.cell (i := k) (by rw [← HLE.out]; exact hlt)
      have hd := HDD.out k
      have hvl := V_lt HDD.out k
      obtain ⟨d, HD⟩ : ∃ d, Hid (dg l k = d) := ⟨_, Lib.hid rfl⟩
      rw [HD.out] at hc hd
      obtain ⟨v, HV⟩ : ∃ v, Hid (VV l k = v) := ⟨_, Lib.hid rfl⟩
      have hvl2 : v < B32 ^ k := by rw [← HV.out]; exact hvl
      rw [HV.out]
      have HNX : Hid (VV l (k + 1) = v + B32 ^ k * d) := Lib.hid (by
        have h : VV l (k + 1) = VV l k + B32 ^ k * dg l k := rfl
        rw [h, HD.out, HV.out])
      have hd32 : d < 4294967296 := hd
      clear hvl
      have hk2 : k = 0 ∨ k = 1 := by omega
      rcases hk2 with rfl | rfl
      · obtain rfl : v = 0 := by rw [Nat.pow_zero] at hvl2; omega
        have hor : bits BinOp.or IntKind.u64 0 (d : Int) = (d : Int) := by
          have := or64' (x := 0) (a := d) (i := 0) (by decide) (by unfold B32 at hd; omega) (by decide)
          simpa using this
        have HE : Hid ((d : Int) = ((VV l (0 + 1) : Nat) : Int)) := Lib.hid (by rw [HNX.out, Nat.pow_zero, Nat.one_mul, Nat.zero_add])
        clear hvl2
        go_wp2
        go_roundw
        case rel => exact ⟨1, rfl, by omega, congrArg (Value.int IntKind.u64) HE.out, trivial⟩
        case measure => simp [intOf]; omega
      · have hv32 : v < 4294967296 := by rw [Nat.pow_one] at hvl2; exact hvl2
        have hor : bits BinOp.or IntKind.u64 (v : Int) ((d : Int) * 4294967296) = ((v + d * 4294967296 : Nat) : Int) := by
          have := or64' (x := v) (a := d) (i := 32) (by simpa using hv32) (by omega) (by omega)
          simpa using this
        have HE : Hid (((v + d * 4294967296 : Nat) : Int) = ((VV l (1 + 1) : Nat) : Int)) := Lib.hid (by rw [HNX.out, Nat.pow_one, Nat.mul_comm d 4294967296, show B32 = 4294967296 from rfl])
        clear hvl2
        go_wp2
        go_roundw
        case rel => exact ⟨2, rfl, by omega, congrArg (Value.int IntKind.u64) HE.out, trivial⟩
        case measure => simp [intOf]; omega
    · obtain rfl : k = n := by omega
      rw [HVU.out]
      by_cases hneg : x < 0
      · obtain rfl : m = true := by rw [HM.out]; exact decide_eq_true hneg
        by_cases hmin : u ≤ 9223372036854775808
        · have HIN : Hid ((-9223372036854775808 ≤ x ∧ x < 9223372036854775808) ∧ x = -(u : Int)) := Lib.hid (by have := HU.out; omega)
          have hu1 : (u : Int) ≤ 9223372036854775808 := by omega
          have hu0 : 0 < u := by have := HU.out; omega
          have hw := neg_wrap hu0 hmin
          clear hneg
          go_wp2
          exact bodyPost_ret (v := .tuple #[.int .i64 (-(u : Int)), .int .i64 0]) (by simp [results, Tryd.results41, go_sem, hw]) rfl (HQ.out _ _ _ (Or.inr ⟨HIN.out.1, HIN.out.2.symm, rfl⟩) HB.out)
        · have HOUT : Hid (¬ (-9223372036854775808 ≤ x ∧ x < 9223372036854775808)) := Lib.hid (by have := HU.out; omega)
          have hu1 : 9223372036854775808 < (u : Int) := by omega
          clear hneg hmin
          go_wp2
          exact bodyPost_ret (v := .tuple #[.int .i64 0, .int .i64 7]) (by simp [results, Tryd.results41, go_sem]) rfl (HQ.out _ _ _ (Or.inl ⟨HOUT.out, rfl, rfl⟩) HB.out)
      · obtain rfl : m = false := by rw [HM.out]; exact decide_eq_false hneg
        by_cases hmax : u ≤ 9223372036854775807
        · have HIN : Hid ((-9223372036854775808 ≤ x ∧ x < 9223372036854775808) ∧ x = (u : Int)) := Lib.hid (by have := HU.out; omega)
          have hu1 : (u : Int) ≤ 9223372036854775807 := by omega
          clear hneg
          go_wp2
          exact bodyPost_ret (v := .tuple #[.int .i64 (u : Int), .int .i64 0]) (by simp [results, Tryd.results41, go_sem]) rfl (HQ.out _ _ _ (Or.inr ⟨HIN.out.1, HIN.out.2.symm, rfl⟩) HB.out)
        · have HOUT : Hid (¬ (-9223372036854775808 ≤ x ∧ x < 9223372036854775808)) := Lib.hid (by have := HU.out; omega)
          have hu1 : 9223372036854775807 < (u : Int) := by omega
          clear hneg hmax
          go_wp2
          exact bodyPost_ret (v := .tuple #[.int .i64 0, .int .i64 7]) (by simp [results, Tryd.results41, go_sem]) rfl (HQ.out _ _ _ (Or.inl ⟨HOUT.out, rfl, rfl⟩) HB.out)
end Go.Proofs.YtkpoegdcmnjedaaDoor
