import Derived.Test.YtkpoegdcmnjedaaDoorNB2
import Derived.Test.YtkpoegdcmnjedaaDoorMH3
import Derived.Deep.RegionHeld3
import Derived.Deep.Cut
namespace Go.Proofs.YtkpoegdcmnjedaaDoor
open Go.RowKit
set_option linter.unusedVariables false
set_option linter.unusedSimpArgs false

/-! ### withBits -/
theorem nine_cells {g h b : Nat} {x0 x1 x2 x3 y0 y1 y2 y3 z : Value} {W : World} (a : Box4 g x0 x1 x2 x3 W) (c : Box4 h y0 y1 y2 y3 W) (d : W.cell? ⟨b, 0, none⟩ = some z) :
    W.cell? ⟨g, 0, none⟩ = some x0 ∧ W.cell? ⟨g, 1, none⟩ = some x1 ∧ W.cell? ⟨g, 2, none⟩ = some x2 ∧ W.cell? ⟨g, 3, none⟩ = some x3 ∧ W.cell? ⟨h, 0, none⟩ = some y0 ∧ W.cell? ⟨h, 1, none⟩ = some y1 ∧ W.cell? ⟨h, 2, none⟩ = some y2 ∧ W.cell? ⟨h, 3, none⟩ = some y3 ∧ W.cell? ⟨b, 0, none⟩ = some z :=
  ⟨a.c0, a.c1, a.c2, a.c3, c.c0, c.c1, c.c2, c.c3, d⟩
/-- so far, the digits are turned round. -/
structure CmI (z : List Nat) (g p B : Nat) (W wr : World) (k : Nat) (r : List Nat) : Prop where
  len : r.length = z.length
  low : ∀ i, i < k → dg r i = 4294967295 - dg z i
  high : ∀ i, k ≤ i → dg r i = dg z i
  m : M B wr (.slice (some ⟨g, 0, none⟩) z.length p) r
  b : Below B W wr
theorem cpl {d : Nat} (h : d < 4294967296) : bits .xor .u32 (if IntKind.u32.signed = true then -1 else IntKind.u32.max) (d : Int) = ((4294967295 - d : Nat) : Int) := by
  have := u32_xor_nat 4294967295 d (by decide) h
  rw [Nat.xor_comm, xor_full h] at this
  exact this
theorem CmI.step {z : List Nat} {g p B : Nat} {W wr : World} {k : Nat} {r : List Nat} (h : CmI z g p B W wr k r) (hk : k < z.length) (hg : B ≤ g) {d : Nat} (hd : d = 4294967295 - dg z k) : CmI z g p B W (wr.setCell ⟨g, k, none⟩ (.int .u32 (d : Int))) (k + 1) (r.set k d) :=
  have hk' : k < r.length := by rw [h.len]; exact hk
  ⟨by rw [List.length_set]; exact h.len, fun i hi => by
    rw [dg_set hk']
    by_cases c : i = k
    · rw [if_pos c, c]; exact hd
    · rw [if_neg c]; exact h.low i (by omega), fun i hi => by
    rw [dg_set hk', if_neg (by omega)]; exact h.high i (by omega), h.m.set hk' d, h.b.setCell hg _⟩
theorem range_dg (z : List Nat) : (List.range z.length).map (dg z) = z := ext_dg (by simp) fun i hi => by
  simp at hi
  rw [dg_map, if_pos hi]
theorem CmI.done {z : List Nat} {g p B : Nat} {W wr : World} {r : List Nat} (h : CmI z g p B W wr z.length r) (hz : Dig B32 z) : val B32 r + val B32 z + 1 = B32 ^ z.length ∧ Dig B32 r := by
  have e : r = (List.range z.length).map fun j => 4294967295 - dg z j := ext_dg (by rw [h.len]; simp) fun i hi => by
    rw [h.len] at hi
    rw [h.low i hi, dg_map, if_pos hi]
  have h1 := val_comp (f := dg z) (fun i => hz i) z.length
  rw [range_dg] at h1
  rw [← e] at h1
  refine ⟨h1, fun i => ?_⟩
  by_cases hi : i < z.length
  · rw [h.low i hi]; show _ < 4294967296; omega
  · rw [dg_ge (by rw [h.len]; omega)]; decide
theorem Box4.low {g B : Nat} {x0 x1 x2 x3 : Value} {W W' : World} (h : Box4 g x0 x1 x2 x3 W) (hg : g < B) (hb : Below B W W') : Box4 g x0 x1 x2 x3 W' :=
  ⟨(hb.cell (p := ⟨g, 0, none⟩) hg).trans h.c0, (hb.cell (p := ⟨g, 1, none⟩) hg).trans h.c1, (hb.cell (p := ⟨g, 2, none⟩) hg).trans h.c2, (hb.cell (p := ⟨g, 3, none⟩) hg).trans h.c3, (hb.frozen (p := ⟨g, 0, none⟩) hg).trans h.f0, (hb.frozen (p := ⟨g, 1, none⟩) hg).trans h.f1, (hb.frozen (p := ⟨g, 2, none⟩) hg).trans h.f2, (hb.frozen (p := ⟨g, 3, none⟩) hg).trans h.f3⟩
set_option maxRecDepth 100000 in
set_option maxHeartbeats 4000000 in
theorem bits_any2 {K : Nat} {W : World} {va vb : Value} {x y : Int} {k : FuncId} {f : Nat → Nat → Nat} (hk : DigF k f) (ha : Nm K W va x) (hb : Nm K W vb y) (hK : K ≤ 1000) (g : Nat) (hg : W.cell? ⟨g, 0, none⟩ = some (Fv k #[])) :
    Calls Tryd.prog 122 #[va, vb, .pointer (some ⟨g, 0, none⟩)] W fun e W' => (∃ v', e = .returned v' ∧ Nm (K + 2) W' v' (twZ f x y)) ∧ Below W.heap.size W W' := by
  have hab := ha
  have hbb := hb
  obtain ⟨a1, n1, p1, o1, rfl, hm1, hn1⟩ := ha
  obtain ⟨a2, n2, p2, o2, rfl, hm2, hn2⟩ := hb
  have HNA := Lib.hid hab
  have HNB := Lib.hid hbb
  have HL1 := Lib.hid hm1.len
  have HL2 := Lib.hid hm2.len
  obtain ⟨s1, HS1⟩ : ∃ b, Hid (decide (x < 0) = b) := ⟨_, Lib.hid rfl⟩
  obtain ⟨s2, HS2⟩ : ∃ b, Hid (decide (y < 0) = b) := ⟨_, Lib.hid rfl⟩
  rw [HS1.out] at HNA ⊢
  rw [HS2.out] at HNB ⊢
  clear hab hbb hm1 hm2
  obtain ⟨V1, hV1, hbox1, vb1, vs1⟩ := box_new W (.bool s1) (.slice a1 n1 p1) (.bool false) (.bool o1)
  obtain ⟨V2, hV2, hbox2, vb2, vs2⟩ := box_new V1 (.bool s2) (.slice a2 n2 p2) (.bool false) (.bool o2)
  obtain ⟨V, hV3, hbox3, vb3, vs3⟩ := box_new V2 (.bool false) (.slice none 0 0) (.bool false) (.bool false)
  have HV : Hid (V = ((W.alloc (Obj.cells #[.bool s1, .slice a1 n1 p1, .bool false, .bool o1] 46)).alloc (Obj.cells #[.bool s2, .slice a2 n2 p2, .bool false, .bool o2] 46)).alloc (Obj.cells #[.bool false, .slice none 0 0, .bool false, .bool false] 46)) := Lib.hid (by rw [hV3, hV2, hV1])
  have hvb12 : Below W.heap.size W V2 := vb1.trans (vb2.mono (by omega))
  have HVB : Hid (Below W.heap.size W V) := Lib.hid (hvb12.trans (vb3.mono (by omega)))
  have HVS : Hid (V.heap.size = W.heap.size + 3) := Lib.hid (by omega)
  rw [vs1] at hbox2
  rw [vs2, vs1] at hbox3
  have F0 : Hid (Box4 W.heap.size (.bool s1) (.slice a1 n1 p1) (.bool false) (.bool o1) V ∧ Box4 (W.heap.size + 1) (.bool s2) (.slice a2 n2 p2) (.bool false) (.bool o2) V ∧ Box4 (W.heap.size + 2) (.bool false) (.slice none 0 0) (.bool false) (.bool false) V ∧ V.cell? ⟨g, 0, none⟩ = some (Fv k #[])) := Lib.hid ⟨(hbox1.after vb2).after vb3, hbox2.after vb3, hbox3, cell_after HVB.out hg⟩
  have HNAV := Lib.hid (HNA.out.later HVB.out (Nat.le_refl _))
  have HNBV := Lib.hid (HNB.out.later HVB.out (Nat.le_refl _))
  obtain ⟨L, HLE⟩ : ∃ L, Hid (twLen x y = L) := ⟨_, Lib.hid rfl⟩
  have hL : ((max n1 n2 + 1 : Nat) : Int) = (L : Int) := by rw [← HLE.out]; unfold twLen; rw [HL1.out, HL2.out]; rfl
  have hmax : max (n1 : Int) (n2 : Int) + 1 = (L : Int) := by omega
  have hLb : L ≤ 1001 := by
    rw [← HLE.out]; unfold twLen; have := hn1; have := hn2; omega
  obtain ⟨c0, c1, c2, c3, _⟩ := F0.out.1
  obtain ⟨d0, d1, d2, d3, _⟩ := F0.out.2.1
  clear hV1 hV2 hV3 hbox1 hbox2 hbox3 vb1 vb2 vb3 vs1 vs2 vs3 hvb12
  have HK := Lib.hid hK
  have HLc : Hid (L ≤ 100000) := Lib.hid (by omega)
  have HDF := Lib.hid hk
  clear hk hK
  go_enter Tryd.func122, Tryd.ntmps122
  go_upto_region 1 with (fail)
  rw [← HV.out]
  go_upto_region 2 with (fail)
  go_region_held3 (fun w' => (w'.cell? ⟨W.heap.size, 0, none⟩ = some (.bool s1) ∧ w'.cell? ⟨W.heap.size, 1, none⟩ = some (.slice a1 n1 p1) ∧ w'.cell? ⟨W.heap.size, 2, none⟩ = some (.bool false) ∧ w'.cell? ⟨W.heap.size, 3, none⟩ = some (.bool o1) ∧ w'.cell? ⟨W.heap.size + 1, 0, none⟩ = some (.bool s2) ∧ w'.cell? ⟨W.heap.size + 1, 1, none⟩ = some (.slice a2 n2 p2) ∧ w'.cell? ⟨W.heap.size + 1, 2, none⟩ = some (.bool false) ∧ w'.cell? ⟨W.heap.size + 1, 3, none⟩ = some (.bool o2) ∧ w'.cell? ⟨g, 0, none⟩ = some (Fv k #[]))) (first | (with_reducible exact nine_cells (F0.out.1.after (Below.drew (Below.refl _ _))) (F0.out.2.1.after (Below.drew (Below.refl _ _))) (cell_after (Below.drew (Below.refl _ _)) F0.out.2.2.2)) | (with_reducible exact nine_cells (F0.out.1.after (undrew hb5)) (F0.out.2.1.after (undrew hb5)) (cell_after (undrew hb5) F0.out.2.2.2)) | (with_reducible exact nine_cells ((F0.out.1.after (undrew hb5)).after hb6) ((F0.out.2.1.after (undrew hb5)).after hb6) (cell_after hb6 (cell_after (undrew hb5) F0.out.2.2.2))) | (with_reducible exact nine_cells (((F0.out.1.after (undrew hb5)).after hb6).after hb7) (((F0.out.2.1.after (undrew hb5)).after hb6).after hb7) (cell_after hb7 (cell_after hb6 (cell_after (undrew hb5) F0.out.2.2.2))))) (first | (go_at_call 124; (with_reducible refine (bitsOf_any (HNAV.out.later (Below.drew (Below.refl _ _)) (Nat.le_refl _)) HK.out L HLc.out).mono ?_); rintro e w5 ⟨⟨v5, rfl, hm5⟩, hb5⟩; have HM5 := Lib.hid hm5; clear hm5) | (go_at_call 124; (with_reducible refine (bitsOf_any (HNBV.out.later (undrew hb5) (Nat.le_refl _)) HK.out L HLc.out).mono ?_); rintro e w6 ⟨⟨v6, rfl, hm6⟩, hb6⟩; have HM6 := Lib.hid hm6; clear hm6) | (go_at_call 123; (with_reducible refine (merged_any HDF.out (HM5.out.later hb6 (Nat.le_refl _)) HM6.out (by rw [twL_length, twL_length]) (by rw [twL_length]; have := HLc.out; omega) (twL_dig x L) (twL_dig y L)).mono ?_); rintro e w7 ⟨⟨v7, rfl, hm7⟩, hb7⟩; obtain ⟨a7, n7, p7, rfl⟩ := hm7.slice3; have HM7 := Lib.hid hm7; clear hm7))
  obtain ⟨z, HZ⟩ : ∃ z, Hid (zipD f (twL x L) (twL y L) = z) := ⟨_, Lib.hid rfl⟩
  have HZL : Hid (z.length = L) := Lib.hid (by rw [← HZ.out, zipD_length, twL_length])
  have HZD : Hid (Dig B32 z) := Lib.hid (by rw [← HZ.out]; exact zipD_dig HDF.out.2.1 (twL_dig x L) (twL_dig y L))
  have HZV : Hid (twZ f x y = twV z) := Lib.hid (by rw [← HZ.out, ← HLE.out]; rfl)
  rw [HZ.out] at HM7
  have HLK : Hid (L ≤ K + 1) := Lib.hid (by rw [← HLE.out]; unfold twLen; omega)
  have HNK : Hid (nd (twV z).natAbs ≤ K + 2) := Lib.hid (by
    refine (digs_length_le (by decide)).2 (Nat.lt_of_le_of_lt (twV_bd HZD.out) ?_)
    rw [HZL.out]
    exact Nat.pow_lt_pow_right (by decide) (by have := HLK.out; omega))
  have HB7 : Hid (Below W.heap.size W w7) := Lib.hid (HVB.out.trans (((undrew hb5).trans (hb6.mono (undrew hb5).size)).trans (hb7.mono (Nat.le_trans (undrew hb5).size hb6.size)) |>.mono HVB.out.size))
  have HG6 : Hid (W.heap.size + 2 < w6.heap.size) := Lib.hid (by have h1 := HVS.out; have h2 := (undrew hb5).size; have h3 := hb6.size; omega)
  have F7 : Hid (Box4 (W.heap.size + 1 + 1) (.bool false) (.slice none 0 0) (.bool false) (.bool false) w7) := Lib.hid (((F0.out.2.2.1.after (undrew hb5)).after hb6).after hb7)
  have h7 := F7.out
  obtain ⟨e0, e1, e2, e3, l0, l1, l2, l3⟩ := h7
  obtain rfl : n7 = L := by rw [HM7.out.len, HZL.out]
  obtain ⟨g7, rfl, hg7, hg7'⟩ := HM7.out.block (show 0 < n7 by have := HLE.out; unfold twLen at this; omega)
  have hn70 : 0 < n7 := by have := HLE.out; unfold twLen at this; omega
  have hct := HM7.out.cell (show n7 - 1 < z.length by rw [HZL.out]; omega)
  have htd : dg z (n7 - 1) < 4294967296 := HZD.out (n7 - 1)
  have et : ((n7 : Int) - 1).toNat = n7 - 1 := by omega
  have HTOP : Hid (twV z = if 2147483648 ≤ dg z (n7 - 1) then (val B32 z : Int) - (B32 ^ n7 : Nat) else (val B32 z : Int)) := Lib.hid (by unfold twV; rw [HZL.out])
  obtain ⟨t, HT⟩ : ∃ t, Hid (dg z (n7 - 1) = t) := ⟨_, Lib.hid rfl⟩
  rw [HT.out] at hct htd HTOP
  clear hb5 hb6 hb7 c0 c1 c2 c3 d0 d1 d2 d3 hmax hL
  by_cases ht : 2147483648 ≤ t
  · have hsh : (t : Int) / 2147483648 = 1 := by omega
    rw [if_pos ht] at HTOP
    have HCI0 : Hid (CmI z g7 p7 w6.heap.size w7 w7 0 z) := Lib.hid ⟨rfl, fun i hi => absurd hi (Nat.not_lt_zero _), fun i _ => rfl, by have := HM7.out; rw [HZL.out]; exact this, Below.refl _ _⟩
    go_wp2
    go_loopw [8, 37] (fun _ kv wr => ∃ (j : Nat) (r : List Nat), kv = .int .i64 j ∧ j ≤ n7 ∧ Hid (CmI z g7 p7 w6.heap.size w7 wr j r)) (fun _ kv _ => n7 - (intOf kv).toNat)
    case atStart => exact ⟨0, _, rfl, Nat.zero_le _, HCI0⟩
    case round =>
      obtain ⟨j, r, rfl, hj, hi⟩ := hrel
      by_cases hlt : j < n7
      · have hr0 : j < r.length := by rw [hi.out.len, HZL.out]; exact hlt
        have hcr := hi.out.m.cell hr0
        have hfr := hi.out.m.free j
        rw [hi.out.high j (Nat.le_refl _)] at hcr
        have hd : dg z j < 4294967296 := HZD.out j
        obtain ⟨d, HD⟩ : ∃ d, Hid (dg z j = d) := ⟨_, Lib.hid rfl⟩
        rw [HD.out] at hcr hd
        have hxr := cpl hd
        have HST := Lib.hid (hi.out.step (by rw [HZL.out]; exact hlt) hg7 (d := 4294967295 - d) (by rw [HD.out]))
        go_wp2
        go_roundw
        case rel => exact ⟨j + 1, _, by go_num, by omega, HST⟩
        case measure => simp [intOf]; omega
      · obtain rfl : j = n7 := by omega
        have hdone := CmI.done (by have := hi.out; rw [← HZL.out] at this; exact this) HZD.out
        have HDN := Lib.hid hdone.1
        have HDR := Lib.hid hdone.2
        have HMR : Hid (M w6.heap.size wr (.slice (some ⟨g7, 0, none⟩) j p7) r) := Lib.hid (by have := hi.out.m; rw [HZL.out] at this; exact this)
        have F8 : Hid (Box4 (W.heap.size + 1 + 1) (.bool false) (.slice none 0 0) (.bool false) (.bool false) wr) := Lib.hid (F7.out.low HG6.out hi.out.b)
        have H111 : Hid (Calls Tryd.prog 111 #[.slice (some ⟨g7, 0, none⟩) (nd (val B32 r)) p7, .slice (some ⟨wr.heap.size, 0, none⟩) 1 1] (wr.alloc (Obj.cells #[.int .u32 1] 75)) fun e W' => (∃ v', e = .returned v' ∧ M (wr.heap.size + 1) W' v' (digs B32 (val B32 r + 1))) ∧ Below (wr.heap.size + 1) (wr.alloc (Obj.cells #[.int .u32 1] 75)) W') := Lib.hid (by
          have h1 := M.single wr 1
          have hd1 : Dig B32 [1] := Dig.mem (by decide) (fun d hd => by simp at hd; subst hd; decide)
          have h2 := (HMR.out.trim HDR.out).later ((Below.refl wr.heap.size wr).alloc (Nat.le_refl _) (Obj.cells #[.int .u32 1] 75)) (Nat.le_refl _)
          have := plus_any h2 h1 (digs_dig (by decide) _) hd1 (by show nd (val B32 r) ≤ _; exact Nat.le_trans (nd_le HDR.out) (by rw [hi.out.len, HZL.out]; have := HLc.out; omega)) (by decide)
          rw [val_digs (by decide), show val B32 [1] = 1 from rfl] at this
          simpa using this)
        clear hdone
        go_wp2_with (first | (go_at_call 125; (with_reducible refine (trimmed_any HMR.out HDR.out).mono ?_); rintro e w8 ⟨rfl, rfl⟩) | (go_at_call 111; (with_reducible refine H111.out.mono ?_); rintro e w9 ⟨⟨v9, rfl, hm9⟩, hb9⟩; obtain ⟨a9, n9, p9, rfl⟩ := hm9.slice3; have HM9 := Lib.hid hm9; have HB9 := Lib.hid ((Below.refl wr.heap.size wr).alloc (Nat.le_refl _) (Obj.cells #[.int .u32 1] 75) |>.trans (hb9.mono (by omega))); clear hm9 hb9; have F9 := Lib.hid (F8.out.after HB9.out); have f9 := F9.out; obtain ⟨r0, r1, r2, r3, k0, k1, k2, k3⟩ := f9))
        refine bodyPost_ret (v := numV true (.slice a9 n9 p9) false false) (by simp [results, Tryd.results122, go_sem, r0, r1, r2, r3]) rfl ⟨⟨_, rfl, ?_⟩, ?_⟩
        · rw [HZV.out]
          have hlt2 := val_lt HZD.out
          rw [HZL.out] at hlt2
          have hdn := HDN.out
          rw [HZL.out] at hdn
          have htop := HTOP.out
          generalize B32 ^ j = P at *
          refine ⟨a9, n9, p9, false, ?_, ?_, HNK.out⟩
          · rw [decide_eq_true (show twV z < 0 by rw [htop]; omega)]
          · have e : (twV z).natAbs = val B32 r + 1 := by rw [htop]; omega
            rw [e]
            exact (HM9.out.four (g := W.heap.size + 2) (by have := HG6.out; have := hi.out.b.size; omega) _ _ _ _).mono (Nat.zero_le _)
        · exact below_four (g := W.heap.size + 2) ((HB7.out.trans (hi.out.b.mono (by have := HG6.out; omega))).trans (HB9.out.mono (by have := HG6.out; have := hi.out.b.size; omega))) (by omega) _ _ _ _
  · have hsh : (t : Int) / 2147483648 = 0 := by omega
    rw [if_neg ht] at HTOP
    go_wp2_with ((go_at_call 125; (with_reducible refine (trimmed_any HM7.out HZD.out).mono ?_); rintro e w8 ⟨rfl, rfl⟩))
    refine bodyPost_ret (v := numV false (.slice (some ⟨g7, 0, none⟩) (nd (val B32 z)) p7) false false) (by simp [results, Tryd.results122, go_sem, e0, e1, e2, e3]) rfl ⟨⟨_, rfl, ?_⟩, ?_⟩
    · rw [HZV.out]
      refine ⟨some ⟨g7, 0, none⟩, nd (val B32 z), p7, false, ?_, ?_, HNK.out⟩
      · rw [decide_eq_false (show ¬ twV z < 0 by rw [HTOP.out]; omega)]
      · have e : (twV z).natAbs = val B32 z := by rw [HTOP.out]; exact Int.natAbs_natCast _
        rw [e]
        exact ((HM7.out.trim HZD.out).four (g := W.heap.size + 2) HG6.out _ _ _ _).mono (Nat.zero_le _)
    · exact below_four (g := W.heap.size + 2) HB7.out (by omega) _ _ _ _
end Go.Proofs.YtkpoegdcmnjedaaDoor
