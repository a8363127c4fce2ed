import Derived.Test.YtkpoegdcmnjedaaDoorNA1
namespace Go.Proofs.YtkpoegdcmnjedaaDoor
open Go.RowKit
set_option linter.unusedVariables false
set_option linter.unusedSimpArgs false

/-! ### sums of bits -/
abbrev fAnd (x y : Nat) : Nat := x &&& y
abbrev fOr (x y : Nat) : Nat := x ||| y
abbrev fXor (x y : Nat) : Nat := x ^^^ y
theorem V_and_or {l m : List Nat} : ∀ i, i ≤ l.length → V B32 (zipD fAnd l m) i + V B32 (zipD fOr l m) i = V B32 l i + V B32 m i
  | 0, _ => rfl
  | i + 1, h => by
    have ih := V_and_or (l := l) (m := m) i (by omega)
    rw [V_succ, V_succ, V_succ, V_succ, dg_zipD (by omega), dg_zipD (by omega)]
    have e := congrArg (B32 ^ i * ·) (and_or (dg l i) (dg m i))
    simp only [Nat.mul_add] at e
    show _ + B32 ^ i * (dg l i &&& dg m i) + (_ + B32 ^ i * (dg l i ||| dg m i)) = _
    omega
theorem V_xor_and {l m : List Nat} : ∀ i, i ≤ l.length → V B32 (zipD fXor l m) i + 2 * V B32 (zipD fAnd l m) i = V B32 l i + V B32 m i
  | 0, _ => rfl
  | i + 1, h => by
    have ih := V_xor_and (l := l) (m := m) i (by omega)
    rw [V_succ, V_succ, V_succ, V_succ, dg_zipD (by omega), dg_zipD (by omega)]
    have e := congrArg (B32 ^ i * ·) (xor_and (dg l i) (dg m i))
    simp only [Nat.mul_add] at e
    have e2 : B32 ^ i * (2 * (dg l i &&& dg m i)) = 2 * (B32 ^ i * (dg l i &&& dg m i)) := by rw [← Nat.mul_assoc, Nat.mul_comm (B32 ^ i) 2, Nat.mul_assoc]
    show _ + B32 ^ i * (dg l i ^^^ dg m i) + 2 * (_ + B32 ^ i * (dg l i &&& dg m i)) = _
    omega
theorem val_zip {f : Nat → Nat → Nat} {l m : List Nat} : val B32 (zipD f l m) = V B32 (zipD f l m) l.length := by unfold val; rw [zipD_length]
/-- the numbers' digits, all of one length. -/
def twLen (x y : Int) : Nat := max (nd x.natAbs) (nd y.natAbs) + 1
theorem twLen_lt (x y : Int) : nd x.natAbs < twLen x y ∧ nd y.natAbs < twLen x y := by unfold twLen; omega
theorem tw_top (f : Nat → Nat → Nat) (x y : Int) : dg (zipD f (twL x (twLen x y)) (twL y (twLen x y))) (twLen x y - 1) = f (if x < 0 then 4294967295 else 0) (if y < 0 then 4294967295 else 0) := by
  have h := twLen_lt x y
  rw [dg_zipD (by rw [twL_length]; omega), dg_twL (by omega), dg_twL (by omega), twD_top h.1, twD_top h.2]
theorem twZ_eq (f : Nat → Nat → Nat) (x y : Int) : twZ f x y = if 2147483648 ≤ f (if x < 0 then 4294967295 else 0) (if y < 0 then 4294967295 else 0) then (V B32 (zipD f (twL x (twLen x y)) (twL y (twLen x y))) (twLen x y) : Int) - (B32 ^ twLen x y : Nat) else (V B32 (zipD f (twL x (twLen x y)) (twL y (twLen x y))) (twLen x y) : Int) := by
  have h1 := tw_top f x y
  have h2 := val_zip (f := f) (l := twL x (twLen x y)) (m := twL y (twLen x y))
  rw [twL_length] at h2
  show twV (zipD f (twL x (twLen x y)) (twL y (twLen x y))) = _
  unfold twV
  rw [zipD_length, twL_length, h1, h2]
theorem tw_self (x : Int) {L : Nat} (h : nd x.natAbs < L) : x = if x < 0 then (V B32 (twL x L) L : Int) - (B32 ^ L : Nat) else (V B32 (twL x L) L : Int) := by
  have h1 := twV_twL h
  unfold twV at h1
  have h2 : val B32 (twL x L) = V B32 (twL x L) L := by unfold val; rw [twL_length]
  rw [twL_length, dg_twL (by omega), twD_top h, h2] at h1
  by_cases hx : x < 0
  · rw [if_pos hx, if_pos (by decide)] at h1
    rw [if_pos hx]; exact h1.symm
  · rw [if_neg hx, if_neg (by decide)] at h1
    rw [if_neg hx]; exact h1.symm
theorem twZ_and_or (x y : Int) : twZ fOr x y + twZ fAnd x y = x + y := by
  have h := twLen_lt x y
  have e := V_and_or (l := twL x (twLen x y)) (m := twL y (twLen x y)) (twLen x y) (by rw [twL_length]; exact Nat.le_refl _)
  have hx := tw_self x h.1
  have hy := tw_self y h.2
  rw [twZ_eq, twZ_eq]
  generalize V B32 (zipD fAnd (twL x (twLen x y)) (twL y (twLen x y))) (twLen x y) = va at *
  generalize V B32 (zipD fOr (twL x (twLen x y)) (twL y (twLen x y))) (twLen x y) = vo at *
  generalize V B32 (twL x (twLen x y)) (twLen x y) = vx at *
  generalize V B32 (twL y (twLen x y)) (twLen x y) = vy at *
  generalize B32 ^ twLen x y = p at *
  have t11 : fAnd 4294967295 4294967295 = 4294967295 := by decide
  have t10 : fAnd 4294967295 0 = 0 := by decide
  have t01 : fAnd 0 4294967295 = 0 := by decide
  have t00 : fAnd 0 0 = 0 := by decide
  have o11 : fOr 4294967295 4294967295 = 4294967295 := by decide
  have o10 : fOr 4294967295 0 = 4294967295 := by decide
  have o01 : fOr 0 4294967295 = 4294967295 := by decide
  have o00 : fOr 0 0 = 0 := by decide
  by_cases h1 : x < 0 <;> by_cases h2 : y < 0
  · rw [if_pos h1] at hx; rw [if_pos h2] at hy
    rw [if_pos h1, if_pos h2, t11, o11, if_pos (by decide), if_pos (by decide)]; omega
  · rw [if_pos h1] at hx; rw [if_neg h2] at hy
    rw [if_pos h1, if_neg h2, t10, o10, if_pos (by decide), if_neg (by decide)]; omega
  · rw [if_neg h1] at hx; rw [if_pos h2] at hy
    rw [if_neg h1, if_pos h2, t01, o01, if_pos (by decide), if_neg (by decide)]; omega
  · rw [if_neg h1] at hx; rw [if_neg h2] at hy
    rw [if_neg h1, if_neg h2, t00, o00, if_neg (by decide), if_neg (by decide)]; omega
theorem twZ_xor_and (x y : Int) : twZ fXor x y + (twZ fAnd x y + twZ fAnd x y) = x + y := by
  have h := twLen_lt x y
  have e := V_xor_and (l := twL x (twLen x y)) (m := twL y (twLen x y)) (twLen x y) (by rw [twL_length]; exact Nat.le_refl _)
  have hx := tw_self x h.1
  have hy := tw_self y h.2
  rw [twZ_eq, twZ_eq]
  generalize V B32 (zipD fAnd (twL x (twLen x y)) (twL y (twLen x y))) (twLen x y) = va at *
  generalize V B32 (zipD fXor (twL x (twLen x y)) (twL y (twLen x y))) (twLen x y) = vo at *
  generalize V B32 (twL x (twLen x y)) (twLen x y) = vx at *
  generalize V B32 (twL y (twLen x y)) (twLen x y) = vy at *
  generalize B32 ^ twLen x y = p at *
  have t11 : fAnd 4294967295 4294967295 = 4294967295 := by decide
  have t10 : fAnd 4294967295 0 = 0 := by decide
  have t01 : fAnd 0 4294967295 = 0 := by decide
  have t00 : fAnd 0 0 = 0 := by decide
  have o11 : fXor 4294967295 4294967295 = 0 := by decide
  have o10 : fXor 4294967295 0 = 4294967295 := by decide
  have o01 : fXor 0 4294967295 = 4294967295 := by decide
  have o00 : fXor 0 0 = 0 := by decide
  by_cases h1 : x < 0 <;> by_cases h2 : y < 0
  · rw [if_pos h1] at hx; rw [if_pos h2] at hy
    rw [if_pos h1, if_pos h2, t11, o11, if_neg (by decide), if_pos (by decide)]; omega
  · rw [if_pos h1] at hx; rw [if_neg h2] at hy
    rw [if_pos h1, if_neg h2, t10, o10, if_pos (by decide), if_neg (by decide)]; omega
  · rw [if_neg h1] at hx; rw [if_pos h2] at hy
    rw [if_neg h1, if_pos h2, t01, o01, if_pos (by decide), if_neg (by decide)]; omega
  · rw [if_neg h1] at hx; rw [if_neg h2] at hy
    rw [if_neg h1, if_neg h2, t00, o00, if_neg (by decide), if_neg (by decide)]; omega
theorem twV_bd {l : List Nat} (h : Dig B32 l) : (twV l).natAbs ≤ B32 ^ l.length := by
  have h1 := val_lt h
  unfold twV
  generalize val B32 l = v at *
  generalize B32 ^ l.length = p at *
  split <;> omega
theorem zipD_dig {f : Nat → Nat → Nat} (hf : ∀ a b, a < 4294967296 → b < 4294967296 → f a b < 4294967296) {l m : List Nat} (hl : Dig B32 l) (hm : Dig B32 m) : Dig B32 (zipD f l m) := by
  intro i
  show dg ((List.range l.length).map _) i < 4294967296
  rw [dg_map]; split
  · exact hf _ _ (hl i) (hm i)
  · decide
theorem twZ_bd {f : Nat → Nat → Nat} (hf : ∀ a b, a < 4294967296 → b < 4294967296 → f a b < 4294967296) (x y : Int) : (twZ f x y).natAbs ≤ B32 ^ twLen x y := by
  have := twV_bd (zipD_dig hf (twL_dig x (twLen x y)) (twL_dig y (twLen x y)))
  rw [zipD_length, twL_length] at this
  exact this
theorem fAnd_lt : ∀ a b, a < 4294967296 → b < 4294967296 → fAnd a b < 4294967296 := fun a b ha hb => Nat.and_lt_two_pow (n := 32) a hb
theorem fOr_lt : ∀ a b, a < 4294967296 → b < 4294967296 → fOr a b < 4294967296 := fun a b ha hb => Nat.or_lt_two_pow (n := 32) ha hb
theorem fXor_lt : ∀ a b, a < 4294967296 → b < 4294967296 → fXor a b < 4294967296 := fun a b ha hb => Nat.xor_lt_two_pow (n := 32) ha hb
end Go.Proofs.YtkpoegdcmnjedaaDoor
namespace Go.Proofs.YtkpoegdcmnjedaaDoor
open Go.RowKit
set_option linter.unusedVariables false
set_option linter.unusedSimpArgs false

/-! ### bitsOf -/
/-- so far, the row holds the digits. -/
structure BoI (x : Int) (L B g : Nat) (W wr : World) (k : Nat) (r : List Nat) : Prop where
  len : r.length = L
  low : ∀ i, i < k → dg r i = twD x i
  high : ∀ i, k ≤ i → dg r i = 0
  m : M B wr (.slice (some ⟨g, 0, none⟩) L L) r
  b : Below B W wr
theorem ext_dg {l m : List Nat} (h : l.length = m.length) (hd : ∀ i, i < l.length → dg l i = dg m i) : l = m := by
  refine List.ext_getElem h fun i h1 h2 => ?_
  have := hd i h1
  unfold dg at this
  simpa [h1, h2] using this
theorem BoI.done {x : Int} {L B g : Nat} {W wr : World} {r : List Nat} (h : BoI x L B g W wr L r) : r = twL x L := by
  refine ext_dg (by rw [h.len, twL_length]) fun i hi => ?_
  rw [h.len] at hi
  rw [h.low i hi, dg_twL hi]
theorem BoI.step {x : Int} {L B g : Nat} {W wr w' : World} {k : Nat} {r : List Nat} (h : BoI x L B g W wr k r) (hk : k < L) {e : Nat} (he : e = twD x k) (hm : M B w' (.slice (some ⟨g, 0, none⟩) L L) (r.set k e)) (hb : Below B W w') : BoI x L B g W w' (k + 1) (r.set k e) :=
  ⟨by rw [List.length_set]; exact h.len, fun i hi => by
    rw [dg_set (by rw [h.len]; exact hk)]
    by_cases c : i = k
    · rw [if_pos c, c]; exact he
    · rw [if_neg c]; exact h.low i (by omega), fun i hi => by
    rw [dg_set (by rw [h.len]; exact hk), if_neg (by omega)]; exact h.high i (by omega), hm, hb⟩
theorem xor_full {d : Nat} (h : d < 4294967296) : d ^^^ 4294967295 = 4294967295 - d := by
  have h1 := xor_and d 4294967295
  have h2 : d &&& 4294967295 = d := by
    have := Nat.and_two_pow_sub_one_eq_mod d 32
    rw [show (2 ^ 32 - 1 : Nat) = 4294967295 by decide, Nat.mod_eq_of_lt (by simpa using h)] at this
    exact this
  rw [h2] at h1; omega
theorem xor_fill {d : Nat} (h : d < 4294967296) : bits .xor .u32 (d : Int) 4294967295 = ((4294967295 - d : Nat) : Int) := by
  have := u32_xor_nat d 4294967295 h (by decide)
  rw [xor_full h] at this
  exact this
theorem xor_zero {d : Nat} (h : d < 4294967296) : bits .xor .u32 (d : Int) 0 = (d : Int) := by
  have := u32_xor_nat d 0 h (by decide)
  rw [Nat.xor_zero] at this
  exact this
theorem make43 (W : World) (n : Nat) (hn : n ≤ 1000000000) : ∃ W1, (Instr.makeSlice 43 (.int .i64 (n : Int)) (.int .i64 (n : Int))).run Tryd.prog W = .ok (.slice (some ⟨W.heap.size, 0, none⟩) n n) W1 ∧
    M W.heap.size W1 (.slice (some ⟨W.heap.size, 0, none⟩) n n) (List.replicate n 0) ∧ Below W.heap.size W W1 ∧ W.heap.size < W1.heap.size := by
  obtain ⟨i0, hi, hinf⟩ := Option.map_eq_some_iff.1 info75
  simp only [Prod.mk.injEq] at hinf
  obtain ⟨hz0, hz1, hz2⟩ := hinf
  have hr := run_make (P := Tryd.prog) W 43 75 i0 _ Tryd.underlying43 hi hz0 .i64 .i64 (n : Int) (n : Int) (by omega) (by omega) (by rw [hz2]; omega) (by omega)
  refine ⟨_, hr, ?_, (Below.refl _ _).alloc (Nat.le_refl _) _, by simp⟩
  unfold M
  rw [List.length_replicate]
  refine ⟨by simp [U32s], Or.inr ⟨W.heap.size, n, _, rfl, Nat.le_refl _, heap_alloc_new W _, Nat.le_refl _, by unfold maxLen; omega, ?_, ?_⟩⟩
  · rw [size_madeCells, hz1]; simp
  · have : (Value.int IntKind.u32 0).cells = #[.int .u32 0] := rfl
    rw [this, toList_madeCells_one, hz1]
    simp [U32s, List.take_replicate]
theorem M.single (w : World) (d : Nat) : M w.heap.size (w.alloc (Obj.cells #[.int .u32 (d : Int)] 75)) (.slice (some ⟨w.heap.size, 0, none⟩) 1 1) [d] :=
  ⟨by simp [U32s], Or.inr ⟨w.heap.size, 1, _, rfl, Nat.le_refl _, heap_alloc_new w _, by simp, by simp [maxLen], by simp, by simp [U32s]⟩⟩
theorem dg_replicate (n i : Nat) : dg (List.replicate n 0) i = 0 := by
  unfold dg
  by_cases h : i < n <;> simp [h]
set_option maxRecDepth 100000 in
set_option maxHeartbeats 1000000 in
theorem bitsOf_any {K : Nat} {v : Value} {x : Int} {W : World} (h : Nm K W v x) (hK : K ≤ 1000) (L : Nat) (hL : L ≤ 100000) :
    Calls Tryd.prog 124 #[v, .int .i64 L] W fun e W' => (∃ v', e = .returned v' ∧ M W.heap.size W' v' (twL x L)) ∧ Below W.heap.size W W' := by
  obtain ⟨ao, n, cap, od, rfl, hm, hn⟩ := h
  have HM := Lib.hid hm
  have HNN := Lib.hid hm.len
  have hnd : n ≤ 1000 := by rw [HNN.out]; exact Nat.le_trans hn hK
  clear hm
  by_cases hx : x < 0
  · rw [decide_eq_true hx]
    obtain ⟨V, hV, hbox, vb, vs⟩ := box_new W (.bool true) (.slice ao n cap) (.bool false) (.bool od)
    have HV := Lib.hid hV
    have HVB := Lib.hid vb
    have HVS := Lib.hid vs
    have H113 : Hid (Calls Tryd.prog 113 #[.slice ao n cap, .slice (some ⟨W.heap.size + 1, 0, none⟩) 1 1] (V.alloc (Obj.cells #[.int .u32 1] 75)) fun e W' => (∃ v', e = .returned v' ∧ M (V.heap.size + 1) W' v' (digs B32 (x.natAbs - 1))) ∧ Below (V.heap.size + 1) (V.alloc (Obj.cells #[.int .u32 1] 75)) W') := Lib.hid (by
      have h1 := M.single V 1
      have hd1 : Dig B32 [1] := Dig.mem (by decide) (fun d hd => by simp at hd; subst hd; decide)
      have := minus_any (HM.out.later (vb.alloc (by omega) (Obj.cells #[.int .u32 1] 75)) (Nat.le_refl _)) h1 (digs_dig (by decide) _) hd1 (by rw [← HNN.out]; omega) (by decide) (by rw [val_digs (by decide)]; show val B32 [1] ≤ _; rw [show val B32 [1] = 1 from rfl]; omega)
      rw [val_digs (by decide), show val B32 [1] = 1 from rfl] at this
      rw [← vs]
      simpa using this)
    obtain ⟨c0, c1, c2, c3, _⟩ := hbox
    clear hV vb vs
    go_enter Tryd.func124, Tryd.ntmps124
    go_wp2_with ((go_at_call 113; rw [← HV.out]; (with_reducible refine H113.out.mono ?_); rintro e W2 ⟨⟨v2, rfl, hm2⟩, hb2⟩; obtain ⟨ao2, n2, cap2, rfl⟩ := hm2.slice3; have HM2 := Lib.hid hm2; have HB2 : Hid (Below W.heap.size W W2) := Lib.hid ((HVB.out.alloc HVB.out.size _).trans (hb2.mono (by have := HVS.out; omega))); clear hm2 hb2; obtain ⟨W3, hmk, hm3, hb3, hs3⟩ := make43 W2 L (by omega)))
    have HMS : Hid (M 0 W2 (.slice ao2 n2 cap2) (digs B32 (x.natAbs - 1))) := Lib.hid (HM2.out.mono (Nat.zero_le _))
    have HPB : Hid (Below W.heap.size W W2) := Lib.hid HB2.out
    have HG : Hid (W.heap.size ≤ W2.heap.size) := Lib.hid HPB.out.size
    have HI0 : Hid (BoI x L W2.heap.size W2.heap.size W2 W3 0 (List.replicate L 0)) := Lib.hid ⟨by simp, fun i hi => absurd hi (Nat.not_lt_zero _), fun i _ => dg_replicate L i, hm3, hb3⟩
    have HNL : Hid (n2 = (digs B32 (x.natAbs - 1)).length) := Lib.hid HMS.out.len
    have HTW0 : Hid (∀ i, twD x i = (4294967295 - dg (digs B32 (x.natAbs - 1)) i)) := Lib.hid (fun i => by unfold twD; rw [if_pos hx])
    clear hm3 hb3
    go_loopw [8, 21] (fun _ kv wr => ∃ (k : Nat) (r : List Nat), kv = .int .i64 k ∧ k ≤ L ∧ Hid (BoI x L W2.heap.size W2.heap.size W2 wr k r)) (fun _ kv _ => L - (intOf kv).toNat)
    case atStart => exact ⟨0, _, rfl, Nat.zero_le _, HI0⟩
    case round =>
      obtain ⟨k, r, rfl, hk, hi⟩ := hrel
      by_cases hlt : k < L
      · have hr0 : k < r.length := by rw [hi.out.len]; exact hlt
        have hcr := hi.out.m.cell hr0
        have hfr := hi.out.m.free k
        rw [hi.out.high k (Nat.le_refl _)] at hcr
        have hd := digs_dig (b := B32) (by decide) (x.natAbs - 1) k
        obtain ⟨d, HD⟩ : ∃ d, Hid (dg (digs B32 (x.natAbs - 1)) k = d) := ⟨_, Lib.hid rfl⟩
        rw [HD.out] at hd
        obtain ⟨e, hxr, he⟩ : ∃ e : Nat, bits .xor .u32 (d : Int) 4294967295 = (e : Int) ∧ e = twD x k := ⟨_, xor_fill hd, by rw [HTW0.out, HD.out]⟩
        have HTW := Lib.hid he
        clear he
        by_cases hks : k < n2
        · obtain ⟨gs, rfl, _, hgs⟩ := HMS.out.block (show 0 < n2 by omega)
          have hcs := (HMS.out.later hi.out.b (Nat.le_refl _)).cell (show k < (digs B32 (x.natAbs - 1)).length by rw [← HNL.out]; exact hks)
          rw [HD.out] at hcs
          have HS2 := Lib.hid ((hi.out.m.set hr0 d).set (i := k) (by rw [List.length_set]; exact hr0) e)
          have hne : gs ≠ W2.heap.size := by omega
          go_wp2
          go_roundw
          case rel =>
            refine ⟨k + 1, r.set k e, by go_num, by omega, Lib.hid (hi.out.step hlt HTW.out ?_ ?_)⟩
            · have := HS2.out; rw [List.set_set] at this; exact this
            · exact (hi.out.b.setCell (Nat.le_refl _) _).setCell (Nat.le_refl _) _
          case measure => simp [intOf]; omega
        · have hd0 : d = 0 := by
            rw [← HD.out]; exact dg_ge (by rw [← HNL.out]; omega)
          subst hd0
          have hks' : n2 ≤ k := by omega
          have hxr0 : bits .xor .u32 0 4294967295 = (e : Int) := by simpa using hxr
          have HS1 := Lib.hid (hi.out.m.set hr0 e)
          go_wp2
          go_roundw
          case rel => exact ⟨k + 1, r.set k e, by go_num, by omega, Lib.hid (hi.out.step hlt HTW.out HS1.out (hi.out.b.setCell (Nat.le_refl _) _))⟩
          case measure => simp [intOf]; omega
      · obtain rfl : k = L := by omega
        have HF := Lib.hid hi.out.done
        go_wp2
        go_ret
        exact ⟨⟨_, rfl, by rw [← HF.out]; exact hi.out.m.mono HG.out⟩, HPB.out.trans (hi.out.b.mono HG.out)⟩
  · rw [decide_eq_false hx]
    obtain ⟨V, hV, hbox, vb, vs⟩ := box_new W (.bool false) (.slice ao n cap) (.bool false) (.bool od)
    have HV := Lib.hid hV
    have HVB := Lib.hid vb
    have HVS := Lib.hid vs
    obtain ⟨c0, c1, c2, c3, _⟩ := hbox
    clear hV vb vs
    obtain ⟨W3, hmk, hm3, hb3, hs3⟩ := make43 V L (by omega)
    go_enter Tryd.func124, Tryd.ntmps124
    go_upto_region 4 with (fail)
    rw [← HV.out]
    go_wp2
    have HMS : Hid (M 0 V (.slice ao n cap) (digs B32 x.natAbs)) := Lib.hid (HM.out.later HVB.out (Nat.le_refl _))
    have HPB : Hid (Below W.heap.size W V) := Lib.hid HVB.out
    have HG : Hid (W.heap.size ≤ V.heap.size) := Lib.hid HPB.out.size
    have HI0 : Hid (BoI x L V.heap.size V.heap.size V W3 0 (List.replicate L 0)) := Lib.hid ⟨by simp, fun i hi => absurd hi (Nat.not_lt_zero _), fun i _ => dg_replicate L i, hm3, hb3⟩
    have HNL : Hid (n = (digs B32 x.natAbs).length) := Lib.hid HMS.out.len
    have HTW0 : Hid (∀ i, twD x i = ( dg (digs B32 x.natAbs) i)) := Lib.hid (fun i => by unfold twD; rw [if_neg (by omega)])
    clear hm3 hb3
    go_loopw [8, 21] (fun _ kv wr => ∃ (k : Nat) (r : List Nat), kv = .int .i64 k ∧ k ≤ L ∧ Hid (BoI x L V.heap.size V.heap.size V wr k r)) (fun _ kv _ => L - (intOf kv).toNat)
    case atStart => exact ⟨0, _, rfl, Nat.zero_le _, HI0⟩
    case round =>
      obtain ⟨k, r, rfl, hk, hi⟩ := hrel
      by_cases hlt : k < L
      · have hr0 : k < r.length := by rw [hi.out.len]; exact hlt
        have hcr := hi.out.m.cell hr0
        have hfr := hi.out.m.free k
        rw [hi.out.high k (Nat.le_refl _)] at hcr
        have hd := digs_dig (b := B32) (by decide) x.natAbs k
        obtain ⟨d, HD⟩ : ∃ d, Hid (dg (digs B32 x.natAbs) k = d) := ⟨_, Lib.hid rfl⟩
        rw [HD.out] at hd
        obtain ⟨e, hxr, he⟩ : ∃ e : Nat, bits .xor .u32 (d : Int) 0 = (e : Int) ∧ e = twD x k := ⟨_, xor_zero hd, by rw [HTW0.out, HD.out]⟩
        have HTW := Lib.hid he
        clear he
        by_cases hks : k < n
        · obtain ⟨gs, rfl, _, hgs⟩ := HMS.out.block (show 0 < n by omega)
          have hcs := (HMS.out.later hi.out.b (Nat.le_refl _)).cell (show k < (digs B32 x.natAbs).length by rw [← HNL.out]; exact hks)
          rw [HD.out] at hcs
          have HS2 := Lib.hid ((hi.out.m.set hr0 d).set (i := k) (by rw [List.length_set]; exact hr0) e)
          have hne : gs ≠ V.heap.size := by omega
          go_wp2
          go_roundw
          case rel =>
            refine ⟨k + 1, r.set k e, by go_num, by omega, Lib.hid (hi.out.step hlt HTW.out ?_ ?_)⟩
            · have := HS2.out; rw [List.set_set] at this; exact this
            · exact (hi.out.b.setCell (Nat.le_refl _) _).setCell (Nat.le_refl _) _
          case measure => simp [intOf]; omega
        · have hd0 : d = 0 := by
            rw [← HD.out]; exact dg_ge (by rw [← HNL.out]; omega)
          subst hd0
          have hks' : n ≤ k := by omega
          have hxr0 : bits .xor .u32 0 0 = (e : Int) := by simpa using hxr
          have HS1 := Lib.hid (hi.out.m.set hr0 e)
          go_wp2
          go_roundw
          case rel => exact ⟨k + 1, r.set k e, by go_num, by omega, Lib.hid (hi.out.step hlt HTW.out HS1.out (hi.out.b.setCell (Nat.le_refl _) _))⟩
          case measure => simp [intOf]; omega
      · obtain rfl : k = L := by omega
        have HF := Lib.hid hi.out.done
        go_wp2
        go_ret
        exact ⟨⟨_, rfl, by rw [← HF.out]; exact hi.out.m.mono HG.out⟩, HPB.out.trans (hi.out.b.mono HG.out)⟩
end Go.Proofs.YtkpoegdcmnjedaaDoor
namespace Go.Proofs.YtkpoegdcmnjedaaDoor
open Go.RowKit
set_option linter.unusedVariables false
set_option linter.unusedSimpArgs false

/-! ### merged -/
abbrev Fv (k : FuncId) (cap : Array Value) : Value := .func (.func k) #[] cap
abbrev U4 (d : Nat) : Value := .int .u32 (d : Int)
def IsGo (k : FuncId) : Prop := ∀ (args : Array Value) (w : World), (callFunc k args).run Tryd.prog w = .ok (.enter k args) w
theorem isGo_of {k : FuncId} {fn : Func} (hf : Tryd.prog.funcs[k]? = some fn) (hn : (fn.name == "runtime.NumGoroutine") = false) (hb : fn.body.isNone = false) : IsGo k := fun args w => by
  have h1 : fn.name ≠ "runtime.NumGoroutine" := by simpa using hn
  have h2 : ¬ fn.body = none := by intro h; simp [h] at hb
  simp [callFunc, hf, h1, h2, go_sem]
/-- a function of two digits. -/
def DigF (k : FuncId) (f : Nat → Nat → Nat) : Prop := IsGo k ∧ (∀ a b, a < 4294967296 → b < 4294967296 → f a b < 4294967296) ∧
  ∀ (a b : Nat) (w : World), a < 4294967296 → b < 4294967296 → Calls Tryd.prog k #[U4 a, U4 b] w fun e w' => e = .returned (U4 (f a b)) ∧ w = w'
theorem wpList_app43 {ops : Array Oper} {rest : List Oper} {o : Oper} {a : Act} {Q : Exit → Act → World → Prop} (hgd : o.guard = none) (s x : Operand)
    (ho : o.op = .call { callee := .builtin .append, args := #[s, x], argTypes := #[43, 43] }) (β : Nat) (V : World) (z : Int) (d : Nat) (hz : z = d)
    (v : Value) (l : List Nat) (hs : a.eval s = v) (hx : a.eval x = .slice (some ⟨V.heap.size, 0, none⟩) 1 1) (hm : M β V v l) (hβ : β ≤ V.heap.size) (hn : l.length ≤ 1000000000)
    (h : ∀ v' w', Below β V w' → M β w' v' (l ++ [d]) → wpList Tryd.prog ops Q rest (a.put o.dst v') w') :
    wpList Tryd.prog ops Q (o :: rest) a (V.alloc (Obj.cells #[.int .u32 z] 75)) := by
  subst hz
  refine wpList_app1 hgd s x 43 75 _ 4 Tryd.underlying43 info75 rfl (by decide) ho β V _ rfl v l.length (U32s l) hs hx hm hβ hn ?_
  intro v' w' hb hown hk
  refine h v' w' hb ?_
  unfold M
  rw [List.length_append, ← U32s_snoc]
  exact hown
structure MeI (f : Nat → Nat → Nat) (la lb : List Nat) (W wr : World) (v : Value) (k : Nat) (r : List Nat) : Prop where
  len : r.length = k
  eq : ∀ i, i < k → dg r i = f (dg la i) (dg lb i)
  m : M W.heap.size wr v r
  b : Below W.heap.size W wr
theorem MeI.done {f : Nat → Nat → Nat} {la lb : List Nat} {W wr : World} {v : Value} {r : List Nat} (h : MeI f la lb W wr v la.length r) : r = zipD f la lb := by
  refine ext_dg (by rw [h.len, zipD_length]) fun i hi => ?_
  rw [h.len] at hi
  rw [h.eq i hi, dg_zipD hi]
theorem MeI.step {f : Nat → Nat → Nat} {la lb : List Nat} {W wr w' : World} {v v' : Value} {k : Nat} {r : List Nat} (h : MeI f la lb W wr v k r) {d : Nat} (hd : d = f (dg la k) (dg lb k)) (hm : M W.heap.size w' v' (r ++ [d])) (hb : Below W.heap.size W w') : MeI f la lb W w' v' (k + 1) (r ++ [d]) :=
  ⟨by rw [List.length_append, h.len]; rfl, fun i hi => by
    rw [dg_snoc]
    by_cases c : i < k
    · rw [if_pos (by rw [h.len]; exact c)]; exact h.eq i c
    · have : i = k := by omega
      subst this
      rw [if_neg (by rw [h.len]; omega), if_pos h.len.symm, hd], hm, hb⟩
set_option maxRecDepth 100000 in
set_option maxHeartbeats 1000000 in
theorem merged_any {Ba Bb : Nat} {va vb : Value} {la lb : List Nat} {W : World} {k : FuncId} {f : Nat → Nat → Nat} (hk : DigF k f) (ha : M Ba W va la) (hb : M Bb W vb lb) (hl : lb.length = la.length) (hla : la.length ≤ 1000000) (da : Dig B32 la) (db : Dig B32 lb) :
    Calls Tryd.prog 123 #[va, vb, Fv k #[]] W fun e W' => (∃ v', e = .returned v' ∧ M W.heap.size W' v' (zipD f la lb)) ∧ Below W.heap.size W W' := by
  obtain ⟨hgo, hf, hcall⟩ := hk
  unfold IsGo at hgo
  obtain ⟨aoa, na, capa, rfl⟩ := ha.slice3
  obtain ⟨aob, nb, capb, rfl⟩ := hb.slice3
  have HLA := Lib.hid ha.len
  have HLB := Lib.hid (hb.len.trans hl)
  have HA := Lib.hid ha
  have HB := Lib.hid hb
  have HC := Lib.hid hcall
  have HDA := Lib.hid da
  have HDB := Lib.hid db
  have HI0 : Hid (MeI f la lb W W (.slice none 0 0) 0 []) := Lib.hid ⟨rfl, fun i hi => absurd hi (Nat.not_lt_zero _), M.nil _ _, Below.refl _ _⟩
  have hna : na ≤ 1000000 := by rw [HLA.out]; exact hla
  have hnb : nb = na := by rw [HLB.out, HLA.out]
  have HHL := Lib.hid hl
  subst hnb
  clear ha hb hl da db hcall
  go_enter Tryd.func123, Tryd.ntmps123
  go_wp2
  go_loopw [7, 8, 9, 12] (fun rv _ _ kv wr => ∃ (k : Nat) (r : List Nat), kv = .int .i64 k ∧ k ≤ nb ∧ Hid (MeI f la lb W wr rv k r)) (fun _ _ _ kv _ => nb - (intOf kv).toNat)
  case atStart => exact ⟨0, _, rfl, Nat.zero_le _, HI0⟩
  case round =>
    obtain ⟨j, r, rfl, hj, hi⟩ := hrel
    obtain ⟨ao7, n7, cap7, rfl⟩ := hi.out.m.slice3
    by_cases hlt : j < nb
    · obtain ⟨ga, rfl, _, hga⟩ := HA.out.block (show 0 < nb by omega)
      obtain ⟨gb, rfl, _, hgb⟩ := HB.out.block (show 0 < nb by omega)
      have hca := (HA.out.later hi.out.b (Nat.le_refl _)).cell (show j < la.length by rw [← HLA.out]; exact hlt)
      have hcb := (HB.out.later hi.out.b (Nat.le_refl _)).cell (show j < lb.length by rw [HHL.out, ← HLA.out]; exact hlt)
      obtain ⟨x, HX⟩ : ∃ x, Hid (dg la j = x) := ⟨_, Lib.hid rfl⟩
      obtain ⟨y, HY⟩ : ∃ y, Hid (dg lb j = y) := ⟨_, Lib.hid rfl⟩
      have hx := HDA.out j
      have hy := HDB.out j
      rw [HX.out] at hca hx
      rw [HY.out] at hcb hy
      have HCX := Lib.hid (fun w => HC.out x y w hx hy)
      obtain ⟨d, HD⟩ : ∃ d, Hid (f x y = d) := ⟨_, Lib.hid rfl⟩
      rw [HD.out] at HCX
      have HBw := Lib.hid hi.out.b.size
      have HLr : Hid (r.length ≤ 1000000000) := Lib.hid (by rw [hi.out.len]; omega)
      go_wp2_with (first | ((with_reducible refine (HCX.out _).mono ?_); rintro e w' ⟨rfl, rfl⟩) | (at_builtin; go_loud (refine wpList_app43 rfl _ _ rfl W.heap.size wr _ d rfl (.slice ao7 n7 cap7) r rfl rfl hi.out.m HBw.out HLr.out ?_; intro v' w' hb' hm'; have HM := Lib.hid hm'; have HBB := Lib.hid hb'; clear hm' hb')))
      go_roundw
      case rel => exact ⟨j + 1, _, by go_num, by omega, Lib.hid (hi.out.step (by rw [← HD.out, HX.out, HY.out]) HM.out (hi.out.b.trans HBB.out))⟩
      case measure => simp [intOf]; omega
    · obtain rfl : j = nb := by omega
      have HF : Hid (r = zipD f la lb) := Lib.hid (MeI.done (by have := hi.out; rw [HLA.out] at this; exact this))
      go_wp2
      go_ret
      exact ⟨⟨_, rfl, by rw [← HF.out]; exact hi.out.m⟩, hi.out.b⟩
end Go.Proofs.YtkpoegdcmnjedaaDoor
