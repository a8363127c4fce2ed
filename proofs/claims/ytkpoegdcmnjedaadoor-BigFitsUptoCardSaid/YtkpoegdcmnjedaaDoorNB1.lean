import Derived.Test.YtkpoegdcmnjedaaDoorNB0
namespace Go.Proofs.YtkpoegdcmnjedaaDoor
open Go.RowKit
set_option linter.unusedVariables false
set_option linter.unusedSimpArgs false

/-! ### bitsOf -/
/-- so far, the row holds the digits. -/
structure BoI (x : Int) (L B g : Nat) (W wr : World) (k : Nat) (r : List Nat) : Prop where
  len : r.length = L
  low : ∀ i, i < k → dg r i = twD x i
  high : ∀ i, k ≤ i → dg r i = 0
  m : M B wr (.slice (some ⟨g, 0, none⟩) L L) r
  b : Below B W wr
theorem ext_dg {l m : List Nat} (h : l.length = m.length) (hd : ∀ i, i < l.length → dg l i = dg m i) : l = m := by
  refine List.ext_getElem h fun i h1 h2 => ?_
  have := hd i h1
  unfold dg at this
  simpa [h1, h2] using this
theorem BoI.done {x : Int} {L B g : Nat} {W wr : World} {r : List Nat} (h : BoI x L B g W wr L r) : r = twL x L := by
  refine ext_dg (by rw [h.len, twL_length]) fun i hi => ?_
  rw [h.len] at hi
  rw [h.low i hi, dg_twL hi]
theorem BoI.step {x : Int} {L B g : Nat} {W wr w' : World} {k : Nat} {r : List Nat} (h : BoI x L B g W wr k r) (hk : k < L) {e : Nat} (he : e = twD x k) (hm : M B w' (.slice (some ⟨g, 0, none⟩) L L) (r.set k e)) (hb : Below B W w') : BoI x L B g W w' (k + 1) (r.set k e) :=
  ⟨by rw [List.length_set]; exact h.len, fun i hi => by
    rw [dg_set (by rw [h.len]; exact hk)]
    by_cases c : i = k
    · rw [if_pos c, c]; exact he
    · rw [if_neg c]; exact h.low i (by omega), fun i hi => by
    rw [dg_set (by rw [h.len]; exact hk), if_neg (by omega)]; exact h.high i (by omega), hm, hb⟩
theorem xor_full {d : Nat} (h : d < 4294967296) : d ^^^ 4294967295 = 4294967295 - d := by
  have h1 := xor_and d 4294967295
  have h2 : d &&& 4294967295 = d := by
    have := Nat.and_two_pow_sub_one_eq_mod d 32
    rw [show (2 ^ 32 - 1 : Nat) = 4294967295 by decide, Nat.mod_eq_of_lt (by simpa using h)] at this
    exact this
  rw [h2] at h1; omega
theorem xor_fill {d : Nat} (h : d < 4294967296) : bits .xor .u32 (d : Int) 4294967295 = ((4294967295 - d : Nat) : Int) := by
  have := u32_xor_nat d 4294967295 h (by decide)
  rw [xor_full h] at this
  exact this
theorem xor_zero {d : Nat} (h : d < 4294967296) : bits .xor .u32 (d : Int) 0 = (d : Int) := by
  have := u32_xor_nat d 0 h (by decide)
  rw [Nat.xor_zero] at this
  exact this
theorem make43 (W : World) (n : Nat) (hn : n ≤ 1000000000) : ∃ W1, (Instr.makeSlice 43 (.int .i64 (n : Int)) (.int .i64 (n : Int))).run Tryd.prog W = .ok (.slice (some ⟨W.heap.size, 0, none⟩) n n) W1 ∧
    M W.heap.size W1 (.slice (some ⟨W.heap.size, 0, none⟩) n n) (List.replicate n 0) ∧ Below W.heap.size W W1 ∧ W.heap.size < W1.heap.size := by
  obtain ⟨i0, hi, hinf⟩ := Option.map_eq_some_iff.1 info75
  simp only [Prod.mk.injEq] at hinf
  obtain ⟨hz0, hz1, hz2⟩ := hinf
  have hr := run_make (P := Tryd.prog) W 43 75 i0 _ Tryd.underlying43 hi hz0 .i64 .i64 (n : Int) (n : Int) (by omega) (by omega) (by rw [hz2]; omega) (by omega)
  refine ⟨_, hr, ?_, (Below.refl _ _).alloc (Nat.le_refl _) _, by simp⟩
  unfold M
  rw [List.length_replicate]
  refine ⟨by simp [U32s], Or.inr ⟨W.heap.size, n, _, rfl, Nat.le_refl _, heap_alloc_new W _, Nat.le_refl _, by unfold maxLen; omega, ?_, ?_⟩⟩
  · rw [size_madeCells, hz1]; simp
  · have : (Value.int IntKind.u32 0).cells = #[.int .u32 0] := rfl
    rw [this, toList_madeCells_one, hz1]
    simp [U32s, List.take_replicate]
theorem M.single (w : World) (d : Nat) : M w.heap.size (w.alloc (Obj.cells #[.int .u32 (d : Int)] 75)) (.slice (some ⟨w.heap.size, 0, none⟩) 1 1) [d] :=
  ⟨by simp [U32s], Or.inr ⟨w.heap.size, 1, _, rfl, Nat.le_refl _, heap_alloc_new w _, by simp, by simp [maxLen], by simp, by simp [U32s]⟩⟩
theorem dg_replicate (n i : Nat) : dg (List.replicate n 0) i = 0 := by
  unfold dg
  by_cases h : i < n <;> simp [h]
set_option maxRecDepth 100000 in
set_option maxHeartbeats 1000000 in
theorem bitsOf_any {K : Nat} {v : Value} {x : Int} {W : World} (h : Nm K W v x) (hK : K ≤ 1000) (L : Nat) (hL : L ≤ 100000) :
    Calls Tryd.prog 124 #[v, .int .i64 L] W fun e W' => (∃ v', e = .returned v' ∧ M W.heap.size W' v' (twL x L)) ∧ Below W.heap.size W W' := by
  obtain ⟨ao, n, cap, od, rfl, hm, hn⟩ := h
  have HM := Lib.hid hm
  have HNN := Lib.hid hm.len
  have hnd : n ≤ 1000 := by rw [HNN.out]; exact Nat.le_trans hn hK
  clear hm
  by_cases hx : x < 0
  · rw [decide_eq_true hx]
    obtain ⟨V, hV, hbox, vb, vs⟩ := box_new W (.bool true) (.slice ao n cap) (.bool false) (.bool od)
    have HV := Lib.hid hV
    have HVB := Lib.hid vb
    have HVS := Lib.hid vs
    have H113 : Hid (Calls Tryd.prog 113 #[.slice ao n cap, .slice (some ⟨W.heap.size + 1, 0, none⟩) 1 1] (V.alloc (Obj.cells #[.int .u32 1] 75)) fun e W' => (∃ v', e = .returned v' ∧ M (V.heap.size + 1) W' v' (digs B32 (x.natAbs - 1))) ∧ Below (V.heap.size + 1) (V.alloc (Obj.cells #[.int .u32 1] 75)) W') := Lib.hid (by
      have h1 := M.single V 1
      have hd1 : Dig B32 [1] := Dig.mem (by decide) (fun d hd => by simp at hd; subst hd; decide)
      have := minus_any (HM.out.later (vb.alloc (by omega) (Obj.cells #[.int .u32 1] 75)) (Nat.le_refl _)) h1 (digs_dig (by decide) _) hd1 (by rw [← HNN.out]; omega) (by decide) (by rw [val_digs (by decide)]; show val B32 [1] ≤ _; rw [show val B32 [1] = 1 from rfl]; omega)
      rw [val_digs (by decide), show val B32 [1] = 1 from rfl] at this
      rw [← vs]
      simpa using this)
    obtain ⟨c0, c1, c2, c3, _⟩ := hbox
    clear hV vb vs
    go_enter Tryd.func124, Tryd.ntmps124
    go_wp2_with ((go_at_call 113; rw [← HV.out]; (with_reducible refine H113.out.mono ?_); rintro e W2 ⟨⟨v2, rfl, hm2⟩, hb2⟩; obtain ⟨ao2, n2, cap2, rfl⟩ := hm2.slice3; have HM2 := Lib.hid hm2; have HB2 : Hid (Below W.heap.size W W2) := Lib.hid ((HVB.out.alloc HVB.out.size _).trans (hb2.mono (by have := HVS.out; omega))); clear hm2 hb2; obtain ⟨W3, hmk, hm3, hb3, hs3⟩ := make43 W2 L (by omega)))
    have HMS : Hid (M 0 W2 (.slice ao2 n2 cap2) (digs B32 (x.natAbs - 1))) := Lib.hid (HM2.out.mono (Nat.zero_le _))
    have HPB : Hid (Below W.heap.size W W2) := Lib.hid HB2.out
    have HG : Hid (W.heap.size ≤ W2.heap.size) := Lib.hid HPB.out.size
    have HI0 : Hid (BoI x L W2.heap.size W2.heap.size W2 W3 0 (List.replicate L 0)) := Lib.hid ⟨by simp, fun i hi => absurd hi (Nat.not_lt_zero _), fun i _ => dg_replicate L i, hm3, hb3⟩
    have HNL : Hid (n2 = (digs B32 (x.natAbs - 1)).length) := Lib.hid HMS.out.len
    have HTW0 : Hid (∀ i, twD x i = (4294967295 - dg (digs B32 (x.natAbs - 1)) i)) := Lib.hid (fun i => by unfold twD; rw [if_pos hx])
    clear hm3 hb3
    go_loopw [8, 21] (fun _ kv wr => ∃ (k : Nat) (r : List Nat), kv = .int .i64 k ∧ k ≤ L ∧ Hid (BoI x L W2.heap.size W2.heap.size W2 wr k r)) (fun _ kv _ => L - (intOf kv).toNat)
    case atStart => exact ⟨0, _, rfl, Nat.zero_le _, HI0⟩
    case round =>
      obtain ⟨k, r, rfl, hk, hi⟩ := hrel
      by_cases hlt : k < L
      · have hr0 : k < r.length := by rw [hi.out.len]; exact hlt
        have hcr := hi.out.m.cell hr0
        have hfr := hi.out.m.free k
        rw [hi.out.high k (Nat.le_refl _)] at hcr
        have hd := digs_dig (b := B32) (by decide) (x.natAbs - 1) k
        obtain ⟨d, HD⟩ : ∃ d, Hid (dg (digs B32 (x.natAbs - 1)) k = d) := ⟨_, Lib.hid rfl⟩
        rw [HD.out] at hd
        obtain ⟨e, hxr, he⟩ : ∃ e : Nat, bits .xor .u32 (d : Int) 4294967295 = (e : Int) ∧ e = twD x k := ⟨_, xor_fill hd, by rw [HTW0.out, HD.out]⟩
        have HTW := Lib.hid he
        clear he
        by_cases hks : k < n2
        · obtain ⟨gs, rfl, _, hgs⟩ := HMS.out.block (show 0 < n2 by omega)
          have hcs := (HMS.out.later hi.out.b (Nat.le_refl _)).cell (show k < (digs B32 (x.natAbs - 1)).length by rw [← HNL.out]; exact hks)
          rw [HD.out] at hcs
          have HS2 := Lib.hid ((hi.out.m.set hr0 d).set (i := k) (by rw [List.length_set]; exact hr0) e)
          have hne : gs ≠ W2.heap.size := by omega
          go_wp2
          go_roundw
          case rel =>
            refine ⟨k + 1, r.set k e, by go_num, by omega, Lib.hid (hi.out.step hlt HTW.out ?_ ?_)⟩
            · have := HS2.out; rw [List.set_set] at this; exact this
            · exact (hi.out.b.setCell (Nat.le_refl _) _).setCell (Nat.le_refl _) _
          case measure => simp [intOf]; omega
        · have hd0 : d = 0 := by
            rw [← HD.out]; exact dg_ge (by rw [← HNL.out]; omega)
          subst hd0
          have hks' : n2 ≤ k := by omega
          have hxr0 : bits .xor .u32 0 4294967295 = (e : Int) := by simpa using hxr
          have HS1 := Lib.hid (hi.out.m.set hr0 e)
          go_wp2
          go_roundw
          case rel => exact ⟨k + 1, r.set k e, by go_num, by omega, Lib.hid (hi.out.step hlt HTW.out HS1.out (hi.out.b.setCell (Nat.le_refl _) _))⟩
          case measure => simp [intOf]; omega
      · obtain rfl : k = L := by omega
        have HF := Lib.hid hi.out.done
        go_wp2
        go_ret
        exact ⟨⟨_, rfl, by rw [← HF.out]; exact hi.out.m.mono HG.out⟩, HPB.out.trans (hi.out.b.mono HG.out)⟩
  · rw [decide_eq_false hx]
    obtain ⟨V, hV, hbox, vb, vs⟩ := box_new W (.bool false) (.slice ao n cap) (.bool false) (.bool od)
    have HV := Lib.hid hV
    have HVB := Lib.hid vb
    have HVS := Lib.hid vs
    obtain ⟨c0, c1, c2, c3, _⟩ := hbox
    clear hV vb vs
    obtain ⟨W3, hmk, hm3, hb3, hs3⟩ := make43 V L (by omega)
    go_enter Tryd.func124, Tryd.ntmps124
    go_upto_region 4 with (fail)
    rw [← HV.out]
    go_wp2
    have HMS : Hid (M 0 V (.slice ao n cap) (digs B32 x.natAbs)) := Lib.hid (HM.out.later HVB.out (Nat.le_refl _))
    have HPB : Hid (Below W.heap.size W V) := Lib.hid HVB.out
    have HG : Hid (W.heap.size ≤ V.heap.size) := Lib.hid HPB.out.size
    have HI0 : Hid (BoI x L V.heap.size V.heap.size V W3 0 (List.replicate L 0)) := Lib.hid ⟨by simp, fun i hi => absurd hi (Nat.not_lt_zero _), fun i _ => dg_replicate L i, hm3, hb3⟩
    have HNL : Hid (n = (digs B32 x.natAbs).length) := Lib.hid HMS.out.len
    have HTW0 : Hid (∀ i, twD x i = ( dg (digs B32 x.natAbs) i)) := Lib.hid (fun i => by unfold twD; rw [if_neg (by omega)])
    clear hm3 hb3
    go_loopw [8, 21] (fun _ kv wr => ∃ (k : Nat) (r : List Nat), kv = .int .i64 k ∧ k ≤ L ∧ Hid (BoI x L V.heap.size V.heap.size V wr k r)) (fun _ kv _ => L - (intOf kv).toNat)
    case atStart => exact ⟨0, _, rfl, Nat.zero_le _, HI0⟩
    case round =>
      obtain ⟨k, r, rfl, hk, hi⟩ := hrel
      by_cases hlt : k < L
      · have hr0 : k < r.length := by rw [hi.out.len]; exact hlt
        have hcr := hi.out.m.cell hr0
        have hfr := hi.out.m.free k
        rw [hi.out.high k (Nat.le_refl _)] at hcr
        have hd := digs_dig (b := B32) (by decide) x.natAbs k
        obtain ⟨d, HD⟩ : ∃ d, Hid (dg (digs B32 x.natAbs) k = d) := ⟨_, Lib.hid rfl⟩
        rw [HD.out] at hd
        obtain ⟨e, hxr, he⟩ : ∃ e : Nat, bits .xor .u32 (d : Int) 0 = (e : Int) ∧ e = twD x k := ⟨_, xor_zero hd, by rw [HTW0.out, HD.out]⟩
        have HTW := Lib.hid he
        clear he
        by_cases hks : k < n
        · obtain ⟨gs, rfl, _, hgs⟩ := HMS.out.block (show 0 < n by omega)
          have hcs := (HMS.out.later hi.out.b (Nat.le_refl _)).cell (show k < (digs B32 x.natAbs).length by rw [← HNL.out]; exact hks)
          rw [HD.out] at hcs
          have HS2 := Lib.hid ((hi.out.m.set hr0 d).set (i := k) (by rw [List.length_set]; exact hr0) e)
          have hne : gs ≠ V.heap.size := by omega
          go_wp2
          go_roundw
          case rel =>
            refine ⟨k + 1, r.set k e, by go_num, by omega, Lib.hid (hi.out.step hlt HTW.out ?_ ?_)⟩
            · have := HS2.out; rw [List.set_set] at this; exact this
            · exact (hi.out.b.setCell (Nat.le_refl _) _).setCell (Nat.le_refl _) _
          case measure => simp [intOf]; omega
        · have hd0 : d = 0 := by
            rw [← HD.out]; exact dg_ge (by rw [← HNL.out]; omega)
          subst hd0
          have hks' : n ≤ k := by omega
          have hxr0 : bits .xor .u32 0 0 = (e : Int) := by simpa using hxr
          have HS1 := Lib.hid (hi.out.m.set hr0 e)
          go_wp2
          go_roundw
          case rel => exact ⟨k + 1, r.set k e, by go_num, by omega, Lib.hid (hi.out.step hlt HTW.out HS1.out (hi.out.b.setCell (Nat.le_refl _) _))⟩
          case measure => simp [intOf]; omega
      · obtain rfl : k = L := by omega
        have HF := Lib.hid hi.out.done
        go_wp2
        go_ret
        exact ⟨⟨_, rfl, by rw [← HF.out]; exact hi.out.m.mono HG.out⟩, HPB.out.trans (hi.out.b.mono HG.out)⟩
end Go.Proofs.YtkpoegdcmnjedaaDoor
