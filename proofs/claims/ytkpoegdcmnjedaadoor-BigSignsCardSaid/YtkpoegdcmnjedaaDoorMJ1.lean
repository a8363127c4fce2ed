import Derived.Test.YtkpoegdcmnjedaaDoorME6
import Derived.Test.YtkpoegdcmnjedaaDoorNB5
namespace Go.Proofs.YtkpoegdcmnjedaaDoor
open Go.RowKit
set_option linter.unusedVariables false
set_option linter.unusedSimpArgs false

/-! ### Gcd, Abs -/
theorem u32s_inj : ∀ (l m : List Nat), U32s l = U32s m → l = m
  | [], [], _ => rfl
  | [], _ :: _, h => by simp [U32s] at h
  | _ :: _, [], h => by simp [U32s] at h
  | a :: l, b :: m, h => by
    simp only [U32s, List.map_cons, List.cons.injEq, Value.int.injEq, true_and] at h
    rw [u32s_inj l m h.2]
    congr 1
    omega
theorem M.det {B B' : Nat} {W : World} {v : Value} {l m : List Nat} (h : M B W v l) (k : M B' W v m) : l = m := by
  obtain ⟨h0, h1⟩ := h
  obtain ⟨k0, k1⟩ := k
  apply u32s_inj
  rcases h1 with ⟨e, h2⟩ | ⟨g, cap, cur, e, h2, h3, h4, h5, h6, h7⟩
  · rcases k1 with ⟨e', k2⟩ | ⟨g', cap', cur', e', k2, k3, k4, k5, k6, k7⟩
    · have e1 : l = [] := List.length_eq_zero_iff.1 h2
      have e2 : m = [] := List.length_eq_zero_iff.1 k2
      rw [e1, e2]
    · rw [e] at e'; cases e'
  · rcases k1 with ⟨e', k2⟩ | ⟨g', cap', cur', e', k2, k3, k4, k5, k6, k7⟩
    · rw [e] at e'; cases e'
    · rw [e] at e'
      simp only [Value.slice.injEq, Option.some.injEq, Addr.mk.injEq] at e'
      obtain ⟨⟨rfl, _⟩, hl, rfl⟩ := e'
      rw [h3] at k3
      simp only [Option.some.injEq, Obj.cells.injEq] at k3
      obtain ⟨rfl, _⟩ := k3
      rw [← h7, ← k7, hl]
open Classical in
/-- the number whose digits a row holds. -/
noncomputable def rowN (w : World) (v : Value) : Nat := if h : ∃ n, M 0 w v (digs B32 n) then h.choose else 0
theorem rowN_eq {w : World} {v : Value} {n : Nat} (h : M 0 w v (digs B32 n)) : rowN w v = n := by
  have hx : ∃ n, M 0 w v (digs B32 n) := ⟨n, h⟩
  unfold rowN
  rw [dif_pos hx]
  have := M.det hx.choose_spec h
  rw [← val_digs (b := B32) (by decide) hx.choose, this, val_digs (by decide)]
structure GcI (K G lo : Nat) (V wr : World) (av bv : Value) (m n : Nat) : Prop where
  ma : MN lo (lo + 3) wr av (digs B32 m)
  mb : MN lo (lo + 3) wr bv (digs B32 n)
  g : Nat.gcd m n = G
  km : nd m ≤ K
  kn : nd n ≤ K
  bel : Below V.heap.size V wr
set_option maxRecDepth 100000 in
set_option maxHeartbeats 4000000 in
theorem ngcd_any {K : Nat} {W : World} {va vb : Value} {x y : Int} (ha : Nm K W va x) (hb : Nm K W vb y) (hK : K ≤ 100000) :
    Calls Tryd.prog 87 #[va, vb] W fun e W' => (∃ v, e = .returned v ∧ Nm K W' v ((Nat.gcd x.natAbs y.natAbs : Nat) : Int)) ∧ Below W.heap.size W W' := by
  obtain ⟨a1, n1, p1, o1, rfl, hm1, hn1⟩ := ha
  obtain ⟨a2, n2, p2, o2, rfl, hm2, hn2⟩ := hb
  obtain ⟨s1, HS1⟩ : ∃ s, Hid (decide (x < 0) = s) := ⟨_, Lib.hid rfl⟩
  obtain ⟨s2, HS2⟩ : ∃ s, Hid (decide (y < 0) = s) := ⟨_, Lib.hid rfl⟩
  rw [HS1.out, HS2.out]
  obtain ⟨V, hV, v0, v1, v2, vb, vs⟩ := three_new W (Obj.cells #[.bool s1, .slice a1 n1 p1, .bool false, .bool o1] 46) (Obj.cells #[.bool s2, .slice a2 n2 p2, .bool false, .bool o2] 46) (Obj.cells #[.bool false, .slice none 0 0, .bool false, .bool false] 46)
  obtain ⟨G, HG⟩ : ∃ G, Hid (Nat.gcd x.natAbs y.natAbs = G) := ⟨_, Lib.hid rfl⟩
  have HI0 : Hid (GcI K G W.heap.size V V (.slice a1 n1 p1) (.slice a2 n2 p2) x.natAbs y.natAbs) := Lib.hid ⟨(MN.old hm1).later vb (Nat.le_refl _), (MN.old hm2).later vb (Nat.le_refl _), HG.out, hn1, hn2, Below.refl _ _⟩
  have HVB := Lib.hid vb
  have F0 := Lib.hid (And.intro (Box4.of v0) (And.intro (Box4.of v1) (show Box4 (W.heap.size + 1 + 1) _ _ _ _ V from Box4.of v2)))
  obtain ⟨-, c1, -, -, -, -, -, -⟩ := F0.out.1
  obtain ⟨-, d1, -, -, -, -, -, -⟩ := F0.out.2.1
  clear hm1 hm2 vb v0 v1 v2
  rw [HG.out]
  go_enter Tryd.func87, Tryd.ntmps87
  go_upto_region 1 with (fail)
  rw [← hV]
  clear hV
  go_quiet (fail)
  go_wp2
  go_loopw [5, 6] (fun av bv wr => ∃ (m n : Nat), Hid (GcI K G W.heap.size V wr av bv m n)) (fun _ bv w => rowN w bv)
  case atStart => exact ⟨x.natAbs, y.natAbs, Lib.hid ⟨HI0.out.ma, HI0.out.mb, HI0.out.g, HI0.out.km, HI0.out.kn, ⟨rfl, rfl, rfl, Nat.le_refl _, fun _ _ => rfl⟩⟩⟩
  case round =>
    obtain ⟨m, n, hi⟩ := hrel
    obtain ⟨am, pm, rfl, _, _⟩ := hi.out.ma.1.slice
    obtain ⟨an, pn, rfl, _, _⟩ := hi.out.mb.1.slice
    have hln : (digs B32 n).length = nd n := rfl
    have hlm : (digs B32 m).length = nd m := rfl
    rw [hln, hlm] at hi
    rw [hln, hlm]
    by_cases h0 : n = 0
    · have hn0 : nd n = 0 := nd_zero.2 h0
      have hg : Hid (m = G) := Lib.hid (by have := hi.out.g; rw [h0, Nat.gcd_zero_right] at this; exact this)
      have HB := Lib.hid hi.out.bel
      have HR := Lib.hid (F0.out.2.2.after hi.out.bel)
      obtain ⟨r0, r1, r2, r3, q0, q1, q2, q3⟩ := HR.out
      rw [hn0]
      clear c1 d1
      go_wp2
      refine bodyPost_ret (v := numV false (.slice am (nd m) pm) false false) (by simp [results, Tryd.results87, go_sem, r0, r1, r2, r3]) rfl ⟨⟨_, rfl, ?_⟩, ?_⟩
      · have h4 := (hi.out.ma.four (g := W.heap.size + 1 + 1) (by omega) (by omega) (.bool false) (.slice am (nd m) pm) (.bool false) (.bool false)).1
        have h5 := hi.out.km
        rw [hg.out] at h4 h5 ⊢
        refine ⟨am, nd G, pm, false, ?_, h4, h5⟩
        rw [decide_eq_false (by omega)]
      · exact below_four (g := W.heap.size + 1 + 1) (HVB.out.trans (HB.out.mono HVB.out.size)) (by omega) _ _ _ _
    · have hn0 : 0 < nd n := Nat.pos_of_ne_zero fun e => h0 (nd_zero.1 e)
      have HOV := Lib.hid (overH_any (by have := hi.out.km; omega) (by have := hi.out.kn; omega) (Nat.pos_of_ne_zero h0) _ _ _ hi.out.ma.1 hi.out.mb.1)
      go_wp2_with fail
      refine HOV.out.mono ?_
      rintro e w2 ⟨vq, vr, rfl, hq, hr, hb2⟩
      have hwz : W.heap.size + 3 ≤ wr.heap.size := by have := hi.out.bel.size; omega
      have hr' : MN W.heap.size (W.heap.size + 3) w2 vr (digs B32 (m % n)) := by
        rcases hr with h | ⟨e, h⟩
        · exact MN.new (h.mono hwz)
        · refine ⟨h, ?_⟩; rw [e]; exact hi.out.ma.2
      have HR := Lib.hid hr'
      have HB2 := Lib.hid hb2
      obtain ⟨ar, nr, pr, rfl⟩ := hr'.1.slice3
      obtain ⟨aq, nq, pq, rfl⟩ := hq.slice3
      clear hq hr hr' hb2
      go_wp2
      go_roundw
      case rel =>
        refine ⟨n, m % n, Lib.hid ⟨hi.out.mb.later HB2.out (Nat.le_refl _), HR.out, ?_, hi.out.kn, Nat.le_trans (nd_mod m n) hi.out.km, hi.out.bel.trans (HB2.out.mono hi.out.bel.size)⟩⟩
        rw [Nat.gcd_comm, ← Nat.gcd_rec, Nat.gcd_comm]
        exact hi.out.g
      case measure =>
        rw [rowN_eq HR.out.1, rowN_eq hi.out.mb.1]
        exact Nat.mod_lt _ (Nat.pos_of_ne_zero h0)
set_option maxRecDepth 100000 in
set_option maxHeartbeats 2000000 in
theorem two_gcd (a b : ByteArray) (W : World) (ha : a.size ≤ 1000000) (hb : b.size ≤ 1000000) : Calls Tryd.prog 63 #[.string a, .string b, .func (.func 87) #[] #[]] W (TwoR (fun x y => ((Nat.gcd x.natAbs y.natAbs : Nat) : Int)) a b W) := by
  go_enter Tryd.func63, Tryd.ntmps63
  go_wp2_with (first | (go_at_call 69; refine (parseTwo_any a b _ ha hb).mono ?_; rintro e w2 ⟨m1, ao1, n1, cap1, lg1, od1, m2, ao2, n2, cap2, lg2, od2, er, rfl, hd, hbd⟩; have HD := Lib.hid hd; have HB := Lib.hid hbd; clear hd hbd; rcases HD.out with ⟨h1, rfl⟩ | ⟨h1, rfl, h2 | ⟨h2, rfl, h3⟩, h4 | ⟨h4, rfl, h5⟩⟩) | (go_at_call 87; refine (ngcd_any (h3.later (((Below.refl _ _).alloc (Nat.le_refl _) _).alloc (by simp) _) (Nat.le_refl _)) (h5.later (((Below.refl _ _).alloc (Nat.le_refl _) _).alloc (by simp) _) (Nat.le_refl _)) (by decide)).mono ?_; rintro e w4 ⟨⟨v4, rfl, h6⟩, hb4⟩; have HB4 := Lib.hid hb4; have H6 := Lib.hid h6; clear hb4 h6) | (go_at_call 77; refine (written_any H6.out (by decide)).mono ?_; rintro e w5 ⟨rfl, hb5⟩; have HB5 := Lib.hid hb5; clear hb5))
  · exact bodyPost_ret (v := .tuple #[.string ⟨#[]⟩, .int .i64 2]) (by simp [results, Tryd.results63, go_sem]) rfl ⟨_, 2, rfl, Or.inl ⟨h1, rfl, rfl⟩, ((HB.out.alloc HB.out.size _).alloc (by have := HB.out.size; simp; omega) _)⟩
  · exact bodyPost_ret (v := .tuple #[.string ⟨#[]⟩, .int .i64 4]) (by simp [results, Tryd.results63, go_sem]) rfl ⟨_, 4, rfl, Or.inr (Or.inl ⟨h1, Or.inl h2.1, rfl, rfl⟩), ((HB.out.alloc HB.out.size _).alloc (by have := HB.out.size; simp; omega) _)⟩
  · exact bodyPost_ret (v := .tuple #[.string ⟨#[]⟩, .int .i64 4]) (by simp [results, Tryd.results63, go_sem]) rfl ⟨_, 4, rfl, Or.inr (Or.inl ⟨h1, Or.inl h2.1, rfl, rfl⟩), ((HB.out.alloc HB.out.size _).alloc (by have := HB.out.size; simp; omega) _)⟩
  · exact bodyPost_ret (v := .tuple #[.string ⟨#[]⟩, .int .i64 4]) (by simp [results, Tryd.results63, go_sem]) rfl ⟨_, 4, rfl, Or.inr (Or.inl ⟨h1, Or.inr h4.1, rfl, rfl⟩), ((HB.out.alloc HB.out.size _).alloc (by have := HB.out.size; simp; omega) _)⟩
  · exact bodyPost_ret (v := .tuple #[.string (toldS (((Nat.gcd (valT a).natAbs (valT b).natAbs : Nat) : Int))), .int .i64 (toldE (((Nat.gcd (valT a).natAbs (valT b).natAbs : Nat) : Int)))]) (by simp [results, Tryd.results63, go_sem]) rfl ⟨_, _, rfl, Or.inr (Or.inr ⟨h1, h2, h4, rfl, rfl⟩),
      (((HB.out.alloc HB.out.size _).alloc (by have := HB.out.size; simp; omega) _).trans (HB4.out.mono (by have := HB.out.size; simp; omega))).trans (HB5.out.mono (by have h8 := HB.out.size; have h7 := HB4.out.size; simp at h7; omega))⟩
set_option maxHeartbeats 1000000 in
theorem gcd_any (a b : ByteArray) (W : World) (ha : a.size ≤ 1000000) (hb : b.size ≤ 1000000) : Calls Tryd.prog 29 #[.string a, .string b] W (TwoR (fun x y => ((Nat.gcd x.natAbs y.natAbs : Nat) : Int)) a b W) := by
  go_enter Tryd.func29, Tryd.ntmps29
  go_wp2_with (go_at_call 63; refine (two_gcd a b _ ha hb).mono ?_; rintro e w ⟨r, er, rfl, h, hb⟩)
  exact bodyPost_ret (v := .tuple #[.string r, .int .i64 er]) (by simp [results, Tryd.results29, go_sem]) rfl ⟨_, _, rfl, h, hb⟩
set_option maxHeartbeats 1000000 in
theorem absolute_any {K : Nat} {W : World} {v : Value} {x : Int} (h : Nm K W v x) : Calls Tryd.prog 91 #[v] W fun e W' => (∃ v', e = .returned v' ∧ Nm K W' v' ((x.natAbs : Nat) : Int)) ∧ Below W.heap.size W W' := by
  obtain ⟨ao, n, cap, od, rfl, hm, hn⟩ := h
  have HM := Lib.hid hm
  have HN := Lib.hid hn
  obtain ⟨sx, HS⟩ : ∃ b, Hid (decide (x < 0) = b) := ⟨_, Lib.hid rfl⟩
  rw [HS.out]
  clear hm hn
  obtain ⟨V1, hV1, hbox1, vb1, vs1⟩ := box_new W (.bool sx) (.slice ao n cap) (.bool false) (.bool od)
  obtain ⟨V, hV, hbox, vb, vs⟩ := box_new V1 (.bool false) (.slice none 0 0) (.bool false) (.bool false)
  rw [vs1] at hbox
  have HBX := Lib.hid hbox
  have HVB := Lib.hid (vb1.trans (vb.mono (by omega)))
  have hVV : V = (W.alloc (Obj.cells #[.bool sx, .slice ao n cap, .bool false, .bool od] 46)).alloc (Obj.cells #[.bool false, .slice none 0 0, .bool false, .bool false] 46) := by rw [hV, hV1]
  clear hbox vb hV hV1 hbox1 vb1
  go_enter Tryd.func91, Tryd.ntmps91
  go_wp2_with (go_at_call 80; rw [← hVV]; clear hVV; refine (signed_any sx false od false ao n cap _).mono ?_; rintro e w4 ⟨rfl, hb4⟩; have hB4 := Lib.hid (HBX.out.after hb4); obtain ⟨x0, x1, x2, x3, y0, y1, y2, y3⟩ := hB4.out; have HB4 := Lib.hid hb4; clear hb4)
  refine bodyPost_ret (v := numV (false && (false || decide (0 < n))) (.slice ao n cap) false od) (by simp [results, Tryd.results91, go_sem, x0, x1, x2, x3]) rfl ⟨⟨_, rfl, ?_⟩, ?_⟩
  · refine Nm.mk (a := x.natAbs) (HM.out.later (below_four (g := W.heap.size + 1) (HVB.out.trans (HB4.out.mono (by omega))) (by omega) _ _ _ _) (Nat.le_refl _)) (by omega) ?_ HN.out
    intro hz
    rw [decide_eq_false (by omega)]
  · exact below_four (HVB.out.trans (HB4.out.mono (by omega))) (by omega) _ _ _ _

set_option maxRecDepth 100000 in
set_option maxHeartbeats 1000000 in
theorem one_abs (s : ByteArray) (W : World) (hs : s.size ≤ 1000000) : Calls Tryd.prog 58 #[.string s, .func (.func 91) #[] #[]] W (OneQ (fun x => ((x.natAbs : Nat) : Int)) s W) := by
  go_enter Tryd.func58, Tryd.ntmps58
  go_wp2_with (first | (go_at_call 62; refine (parse_num s _ hs).mono ?_; rintro e w2 ⟨m, ao, n, cap, lg, od, er, rfl, hd, hb⟩; have HD := Lib.hid hd; have HB := Lib.hid hb; clear hd hb; rcases HD.out with ⟨h1, rfl⟩ | ⟨h1, h2, rfl, rfl⟩ | ⟨h1, h2, rfl, rfl, h3, _⟩) | (go_at_call 91; refine (absolute_any (h3.later ((Below.refl _ _).alloc (Nat.le_refl _) _) (Nat.le_refl _))).mono ?_; rintro e w4 ⟨⟨v4, rfl, h4⟩, hb4⟩; have HB4 := Lib.hid hb4; have H4 := Lib.hid h4; clear hb4 h4) | (go_at_call 77; refine (written_any H4.out (by decide)).mono ?_; rintro e w5 ⟨rfl, hb5⟩; have HB5 := Lib.hid hb5; clear hb5))
  · exact bodyPost_ret (v := .tuple #[.string ⟨#[]⟩, .int .i64 2]) (by simp [results, Tryd.results58, go_sem]) rfl ⟨_, 2, rfl, Or.inl ⟨h1, rfl, rfl⟩, HB.out.alloc (HB.out.size) _⟩
  · exact bodyPost_ret (v := .tuple #[.string ⟨#[]⟩, .int .i64 4]) (by simp [results, Tryd.results58, go_sem]) rfl ⟨_, 4, rfl, Or.inr (Or.inl ⟨h1, h2, rfl, rfl⟩), HB.out.alloc (HB.out.size) _⟩
  · exact bodyPost_ret (v := .tuple #[.string (toldS ((((valT s).natAbs : Nat) : Int))), .int .i64 (toldE ((((valT s).natAbs : Nat) : Int)))]) (by simp [results, Tryd.results58, go_sem]) rfl ⟨_, _, rfl, Or.inr (Or.inr ⟨h1, h2, rfl, rfl⟩),
      ((HB.out.alloc (HB.out.size) _).trans (HB4.out.mono (by have := HB.out.size; simp; omega))).trans (HB5.out.mono (by have h6 := HB.out.size; have h7 := HB4.out.size; simp at h7; omega))⟩
theorem abs_any (s : ByteArray) (W : World) (hs : s.size ≤ 1000000) : Calls Tryd.prog 33 #[.string s] W (OneQ (fun x => ((x.natAbs : Nat) : Int)) s W) := by
  go_enter Tryd.func33, Tryd.ntmps33
  go_wp2_with (go_at_call 58; refine (one_abs s _ hs).mono ?_; rintro e w ⟨r, er, rfl, h, hb⟩)
  exact bodyPost_ret (v := .tuple #[.string r, .int .i64 er]) (by simp [results, Tryd.results33, go_sem]) rfl ⟨_, _, rfl, h, hb⟩
end Go.Proofs.YtkpoegdcmnjedaaDoor
