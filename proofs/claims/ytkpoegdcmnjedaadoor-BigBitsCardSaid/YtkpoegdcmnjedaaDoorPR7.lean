import Derived.Test.YtkpoegdcmnjedaaDoorPR5
import Derived.Test.YtkpoegdcmnjedaaDoorRF4
import Derived.Test.YtkpoegdcmnjedaaDoorRF6
import Derived.Test.YtkpoegdcmnjedaaDoorNB2
namespace Go.Proofs.YtkpoegdcmnjedaaDoor
open Go.RowKit
set_option linter.unusedVariables false
set_option linter.unusedSimpArgs false

/-! ### the reference's bitwise, given what bits tells -/
abbrev BitsH : Prop := ∀ (B : Nat) (v : Value) (x : Int) (W : World) (c : Nat), Qn B W v x → nt x.natAbs ≤ 1000 → c ≤ 100000 → Calls Tryd.prog 126 #[v, .int .i64 c] W fun e W' => (∃ v', e = .returned v' ∧ Bo W.heap.size W' v' (bitsL x c)) ∧ Below W.heap.size W W'
theorem info4 : (Tryd.prog.info? 4).map (fun i => (i.zero, i.size, i.bytes)) = some (some (.bool false), 1, 1) := by kernel_rfl
theorem bitsL_length (x : Int) (c : Nat) : (bitsL x c).length = c := by simp [bitsL]
theorem bitsL_get {x : Int} {c i : Nat} (h : i < (bitsL x c).length) : (bitsL x c)[i] = tbZ x i := by simp [bitsL]
theorem opL_succ (g : Bool → Bool → Bool) (x y : Int) (k : Nat) : opL g x y (k + 1) = opL g x y k ++ [g (tbZ x k) (tbZ y k)] := by
  unfold opL; rw [List.range_succ, List.map_append]; rfl
theorem opL_length (g : Bool → Bool → Bool) (x y : Int) (c : Nat) : (opL g x y c).length = c := by simp [opL]
theorem wpList_appB {ops : Array Oper} {rest : List Oper} {o : Oper} {a : Act} {Q : Exit → Act → World → Prop} (hgd : o.guard = none) (s x : Operand)
    (ho : o.op = .call { callee := .builtin .append, args := #[s, x], argTypes := #[115, 115] }) (β : Nat) (V : World) (d : Bool)
    (v : Value) (l : List Bool) (hs : a.eval s = v) (hx : a.eval x = .slice (some ⟨V.heap.size, 0, none⟩) 1 1) (hm : Bo β V v l) (hβ : β ≤ V.heap.size) (hn : l.length ≤ 1000000000)
    (h : ∀ v' w', Below β V w' → Bo β w' v' (l ++ [d]) → wpList Tryd.prog ops Q rest (a.put o.dst v') w') :
    wpList Tryd.prog ops Q (o :: rest) a (V.alloc (Obj.cells #[.bool d] 4)) := by
  refine wpList_app1 hgd s x 115 4 _ 1 Tryd.underlying115 info4 rfl (by decide) ho β V _ rfl v l.length (Bools l) hs hx hm hβ hn ?_
  intro v' w' hb hown hk
  refine h v' w' hb ?_
  unfold Bo
  rw [List.length_append]
  have e : Bools (l ++ [d]) = Bools l ++ [.bool d] := by simp [Bools]
  rw [e]
  exact hown
set_option maxRecDepth 100000 in
set_option maxHeartbeats 8000000 in
theorem ref_bitwise_0 (hB : BitsH) (a b : ByteArray) (W : World) (ha : a.size ≤ 400000) (hb : b.size ≤ 400000) : Calls Tryd.prog 101 #[.string a, .string b, .int .i64 0] W (TwoR (fun x y => twZ fAnd x y) a b W) := by
  go_enter Tryd.func101, Tryd.ntmps101
  go_wp2_with fail
  refine (ref_both_any a b _ (by omega) (by omega)).mono ?_
  rintro e w2 ⟨m1, ao1, n1, cap1, m2, ao2, n2, cap2, er, rfl, hd, hbd⟩
  have HB := Lib.hid hbd
  clear hbd
  rcases hd with ⟨h1, rfl⟩ | ⟨h1, rfl, h2, h3⟩
  · go_wp2
    exact bodyPost_ret (v := .tuple #[.string ⟨#[]⟩, .int .i64 2]) (by simp [results, Tryd.results101, go_sem]) rfl ⟨_, 2, rfl, Or.inl ⟨h1, rfl, rfl⟩, ((HB.out.alloc HB.out.size _).alloc (by have := HB.out.size; simp; omega) _)⟩
  · obtain ⟨x, hx1, hx2, hx3, hx4⟩ := h2.read h1.1 ha
    obtain ⟨y, hy1, hy2, hy3, hy4⟩ := h3.read h1.2 hb
    obtain ⟨V1, hV1, hbox1, vb1, vs1⟩ := box2_new w2 (.bool m1) (.slice ao1 n1 cap1)
    obtain ⟨V, hV, hbox, vb, vs⟩ := box2_new V1 (.bool m2) (.slice ao2 n2 cap2)
    rw [vs1] at hbox
    have hl1 : n1 = nt x.natAbs := by
      obtain ⟨_, _, _, _, e', _, _, _, h5⟩ := hx1.parts
      simp only [numR, Value.agg.injEq, Array.mk.injEq, List.cons.injEq, Value.slice.injEq] at e'
      rw [e'.2.1.2.1]; exact h5
    have hl2 : n2 = nt y.natAbs := by
      obtain ⟨_, _, _, _, e', _, _, _, h5⟩ := hy1.parts
      simp only [numR, Value.agg.injEq, Array.mk.injEq, List.cons.injEq, Value.slice.injEq] at e'
      rw [e'.2.1.2.1]; exact h5
    have HL1 := Lib.hid hl1
    have HL2 := Lib.hid hl2
    clear hl1 hl2
    have hvb := vb1.trans (vb.mono (by omega))
    have HVB := Lib.hid hvb
    have F1 := Lib.hid (hbox1.after vb)
    have F2 := Lib.hid hbox
    have HX := Lib.hid (hx1.later hvb (Nat.le_refl _))
    have HY := Lib.hid (hy1.later hvb (Nat.le_refl _))
    have HNX := Lib.hid (And.intro hx2 hy2)
    have HVS : Hid (V.heap.size = w2.heap.size + 2) := Lib.hid (by omega)
    obtain ⟨sb, HSB⟩ : ∃ b, Hid ((!decide (Lim ≤ x.natAbs) && !decide (Lim ≤ y.natAbs)) = b) := ⟨_, Lib.hid rfl⟩
    have HSN : Hid (sb = true ↔ natT a < Lim ∧ natT b < Lim) := Lib.hid (by
      rw [← HSB.out, Bool.and_eq_true, Bool.not_eq_true', Bool.not_eq_true', decide_eq_false_iff_not, decide_eq_false_iff_not, hx3, hy3]; omega)
    have HVL : Hid (natT a < Lim ∧ natT b < Lim → x = valT a ∧ y = valT b) := Lib.hid fun h => ⟨hx4 h.1, hy4 h.2⟩
    have hsh := ref_short_two (HX.out.later ((Below.refl V.heap.size V).alloc (Nat.le_refl _) (Obj.cells #[.bool m1, .slice ao1 n1 cap1, .bool m2, .slice ao2 n2 cap2] 51)) (Nat.le_refl _)) (HY.out.later ((Below.refl V.heap.size V).alloc (Nat.le_refl _) (Obj.cells #[.bool m1, .slice ao1 n1 cap1, .bool m2, .slice ao2 n2 cap2] 51)) (Nat.le_refl _)) (Two4.new V m1 m2 (.slice ao1 n1 cap1) (.slice ao2 n2 cap2))
    rw [HSB.out] at hsh
    have HSH := Lib.hid hsh
    have HI := Lib.hid h1
    have hVV : V = (w2.alloc (Obj.cells #[.bool m1, .slice ao1 n1 cap1] 51)).alloc (Obj.cells #[.bool m2, .slice ao2 n2 cap2] 51) := by rw [hV, hV1]
    obtain ⟨c0, c1, -, -⟩ := F1.out
    obtain ⟨d0, d1, -, -⟩ := F2.out
    clear hbox hvb vb hV hV1 hbox1 vb1 vs vs1 hx1 hy1 hx2 hy2 hx3 hy3 hx4 hy4 h2 h3 h1 hsh
    go_upto_region 4 with (fail)
    rw [← hVV]
    clear hVV
    go_wp2_with fail
    refine HSH.out.mono ?_
    rintro e w3 ⟨rfl, hb3⟩
    have HW3 : Hid (Below V.heap.size V w3) := Lib.hid (((Below.refl _ _).alloc (Nat.le_refl _) _).trans (hb3.mono (by simp)))
    clear hb3
    obtain ⟨k0, k1, -, -⟩ := F1.out.after HW3.out
    obtain ⟨l0, l1, -, -⟩ := F2.out.after HW3.out
    have hz2 := HB.out.size
    have hvs := HVS.out
    have HWW : Hid (Below W.heap.size W w3) := Lib.hid ((HB.out.trans (HVB.out.mono hz2)).trans (HW3.out.mono (by omega)))
    clear c0 c1 d0 d1 hvs
    cases sb
    · have HL : Hid (Lim ≤ natT a ∨ Lim ≤ natT b) := Lib.hid (by
        have h := HSN.out
        by_cases h1 : natT a < Lim
        · by_cases h2 : natT b < Lim
          · have := h.2 ⟨h1, h2⟩; cases this
          · right; omega
        · left; omega)
      go_wp2
      exact bodyPost_ret (v := .tuple #[.string ⟨#[]⟩, .int .i64 4]) (by simp [results, Tryd.results101, go_sem]) rfl ⟨_, 4, rfl, Or.inr (Or.inl ⟨HI.out, HL.out, rfl, rfl⟩), HWW.out⟩
    · have HL := Lib.hid (HSN.out.1 rfl)
      have HXL : Hid (nt x.natAbs ≤ 600 ∧ nt y.natAbs ≤ 600) := Lib.hid (by
        have h := HSB.out
        rw [Bool.and_eq_true, Bool.not_eq_true', Bool.not_eq_true', decide_eq_false_iff_not, decide_eq_false_iff_not] at h
        exact ⟨nt_lim'.2 (by omega), nt_lim'.2 (by omega)⟩)
      obtain ⟨C, HC⟩ : ∃ C : Nat, Hid (C = 4 * max n1 n2 + 1) := ⟨_, Lib.hid rfl⟩
      obtain ⟨D, HD⟩ : ∃ D : Nat, Hid (D = C + 1) := ⟨_, Lib.hid rfl⟩
      have hcm : 4 * max (n1 : Int) (n2 : Int) + 2 = (D : Int) := by have := HC.out; have := HD.out; omega
      have hmx : max (n1 : Int) (n2 : Int) ≤ 600 := by have h := HXL.out; rw [← HL1.out, ← HL2.out] at h; omega
      have hC : C ≤ 3000 := by have := HC.out; omega
      have HIX : Hid (InW C x) := Lib.hid (by rw [HC.out]; exact inW_digits (by rw [← HL1.out]; omega))
      have HIY : Hid (InW C y) := Lib.hid (by rw [HC.out]; exact inW_digits (by rw [← HL2.out]; omega))
      have F3 := Lib.hid (And.intro (F1.out.after HW3.out) (F2.out.after HW3.out))
      have HX3 := Lib.hid (HX.out.later HW3.out (Nat.le_refl _))
      have HY3 := Lib.hid (HY.out.later HW3.out (Nat.le_refl _))
      have hD : D ≤ 3001 := by have := HD.out; omega
      have HCL : Hid (D ≤ 100000) := Lib.hid (by omega)
      have HBI : Hid BitsH := Lib.hid hB
      have HX6 : Hid (nt x.natAbs ≤ 1000 ∧ nt y.natAbs ≤ 1000) := Lib.hid (by have := HXL.out; omega)
      have HRES : Hid (ofL (opL (fun p q => p && q) x y D) = twZ fAnd x y) := Lib.hid (by rw [HD.out]; exact ofL_twZ bitOp_and HIX.out HIY.out)
      clear HSH HSB HSN hB
      go_upto_region 7 with (fail)
      go_region_held3 (fun w' => (w'.cell? ⟨w2.heap.size, 0, none⟩ = some (.bool m1) ∧ w'.cell? ⟨w2.heap.size, 1, none⟩ = some (.slice ao1 n1 cap1) ∧ w'.cell? ⟨w2.heap.size + 1, 0, none⟩ = some (.bool m2) ∧ w'.cell? ⟨w2.heap.size + 1, 1, none⟩ = some (.slice ao2 n2 cap2))) (with_reducible first | (with_reducible exact four_cells2 (F3.out.1.after (Below.drew (Below.refl _ _))) (F3.out.2.after (Below.drew (Below.refl _ _)))) | (with_reducible exact four_cells2 (F3.out.1.after HW8.out) (F3.out.2.after HW8.out)) | (with_reducible exact four_cells2 (F3.out.1.after HW9.out) (F3.out.2.after HW9.out))) (first | (go_at_call 126; (with_reducible refine (HBI.out _ _ x _ D (HX3.out.later (Below.drew (Below.refl _ _)) (Nat.le_refl _)) HX6.out.1 HCL.out).mono ?_); rintro e w8 ⟨⟨v8, rfl, hm8⟩, hb8⟩; have HM8 := Lib.hid hm8; have HW8 := Lib.hid (undrew hb8); obtain ⟨a8, n8, p8, rfl⟩ := hm8.slice3; clear hm8 hb8) | (go_at_call 126; (with_reducible refine (HBI.out _ _ y _ D (HY3.out.later HW8.out (Nat.le_refl _)) HX6.out.2 HCL.out).mono ?_); rintro e w9 ⟨⟨v9, rfl, hm9⟩, hb9⟩; have HM9 := Lib.hid hm9; have HM8' := Lib.hid (HM8.out.later hb9 (Nat.le_refl _)); have HW9 := Lib.hid (HW8.out.trans (hb9.mono HW8.out.size)); obtain ⟨a9, n9, p9, rfl⟩ := hm9.slice3; clear hm9 hb9))
      have HN8 : Hid (n8 = D) := Lib.hid (by rw [HM8'.out.len, bitsL_length])
      have HN9 : Hid (n9 = D) := Lib.hid (by rw [HM9.out.len, bitsL_length])
      have h8 := HN8.out
      subst h8
      have h9 := HN9.out
      subst h9
      have HI0 : Hid (Bo w9.heap.size w9 (.slice none 0 0) (opL (fun p q => p && q) x y 0) ∧ Below w9.heap.size w9 w9) := Lib.hid ⟨World.ownsRow_nil w9 w9.heap.size 4 1, Below.refl _ _⟩
      go_wp2
      go_loopw [14, 15, 48] (fun ov _ iv wr => ∃ k : Nat, iv = .int .i64 k ∧ k ≤ n9 ∧ Hid (Bo w9.heap.size wr ov (opL (fun p q => p && q) x y k) ∧ Below w9.heap.size w9 wr)) (fun _ _ iv _ => n9 - (intOf iv).toNat)
      case atStart => exact ⟨0, rfl, Nat.zero_le _, HI0⟩
      case round =>
        obtain ⟨k, rfl, hk, hi⟩ := hrel
        obtain ⟨ao7, n7, cap7, rfl⟩ := hi.out.1.slice3
        by_cases hlt : k < n9
        · obtain ⟨g8, rfl, _, _⟩ := HM8'.out.block (show 0 < n9 by omega)
          obtain ⟨g9, rfl, _, _⟩ := HM9.out.block (show 0 < n9 by omega)
          have hc8 := (HM8'.out.later hi.out.2 (Nat.le_refl _)).cell (i := k) (by rw [bitsL_length]; exact hlt)
          have hc9 := (HM9.out.later hi.out.2 (Nat.le_refl _)).cell (i := k) (by rw [bitsL_length]; exact hlt)
          rw [bitsL_get] at hc8 hc9
          obtain ⟨b8, HB8⟩ : ∃ b, Hid (tbZ x k = b) := ⟨_, Lib.hid rfl⟩
          obtain ⟨b9, HB9⟩ : ∃ b, Hid (tbZ y k = b) := ⟨_, Lib.hid rfl⟩
          rw [HB8.out] at hc8
          rw [HB9.out] at hc9
          have HBw := Lib.hid hi.out.2.size
          have HLr : Hid ((opL (fun p q => p && q) x y k).length ≤ 1000000000) := Lib.hid (by rw [opL_length]; omega)
          have HST : Hid (∀ c : Bool, c = (fun p q => p && q) b8 b9 → opL (fun p q => p && q) x y k ++ [c] = opL (fun p q => p && q) x y (k + 1)) := Lib.hid (fun c hc => by rw [opL_succ, HB8.out, HB9.out, hc])
          cases b8 <;> cases b9
          all_goals
            go_wp2_with (at_builtin; go_loud (refine wpList_appB rfl _ _ rfl w9.heap.size wr _ (.slice ao7 n7 cap7) (opL (fun p q => p && q) x y k) rfl rfl hi.out.1 HBw.out HLr.out ?_; intro v' w' hb' hm'; have HM := Lib.hid hm'; have HBB := Lib.hid hb'; clear hm' hb'))
            go_roundw
            case rel => exact ⟨k + 1, by go_num, by omega, Lib.hid ⟨by rw [← HST.out _ rfl]; exact HM.out, hi.out.2.trans HBB.out⟩⟩
            case measure => simp [intOf]; omega
        · obtain rfl : k = n9 := by omega
          have HBw := Lib.hid hi.out.2.size
          have H127 := Lib.hid (ref_of_any hi.out.1 (by rw [opL_length]; have := HD.out; omega) (by rw [opL_length]; omega))
          rw [HRES.out] at H127
          go_wp2_with (first | (go_at_call 127; (with_reducible refine H127.out.mono ?_); rintro e w10 ⟨⟨v10, rfl, hm10⟩, hb10⟩; have HM10 := Lib.hid hm10; have HB10 := Lib.hid hb10; clear hm10 hb10) | (go_at_call 61; (with_reducible refine (ref_told_nil HM10.out).mono ?_); rintro e w11 ⟨rfl, hb11⟩; have HB11 := Lib.hid hb11; clear hb11))
          refine bodyPost_ret (v := .tuple #[.string (toldS (twZ fAnd x y)), .int .i64 (toldE (twZ fAnd x y))]) (by simp [results, Tryd.results101, go_sem]) rfl ⟨_, _, rfl, Or.inr (Or.inr ⟨HI.out, HL.out.1, HL.out.2, ?_, ?_⟩), ?_⟩
          · obtain ⟨e1, e2⟩ := HVL.out HL.out
            rw [← e1, ← e2]
          · obtain ⟨e1, e2⟩ := HVL.out HL.out
            rw [← e1, ← e2]
          · exact ((HWW.out.trans ((HW9.out.trans (hi.out.2.mono HW9.out.size)).mono HWW.out.size)).trans (HB10.out.mono (Nat.le_trans HWW.out.size (Nat.le_trans HW9.out.size HBw.out)))).trans (HB11.out.mono (Nat.le_trans HWW.out.size (Nat.le_trans HW9.out.size (Nat.le_trans HBw.out HB10.out.size))))
set_option maxRecDepth 100000 in
set_option maxHeartbeats 8000000 in
theorem ref_bitwise_1 (hB : BitsH) (a b : ByteArray) (W : World) (ha : a.size ≤ 400000) (hb : b.size ≤ 400000) : Calls Tryd.prog 101 #[.string a, .string b, .int .i64 1] W (TwoR (fun x y => twZ fOr x y) a b W) := by
  go_enter Tryd.func101, Tryd.ntmps101
  go_wp2_with fail
  refine (ref_both_any a b _ (by omega) (by omega)).mono ?_
  rintro e w2 ⟨m1, ao1, n1, cap1, m2, ao2, n2, cap2, er, rfl, hd, hbd⟩
  have HB := Lib.hid hbd
  clear hbd
  rcases hd with ⟨h1, rfl⟩ | ⟨h1, rfl, h2, h3⟩
  · go_wp2
    exact bodyPost_ret (v := .tuple #[.string ⟨#[]⟩, .int .i64 2]) (by simp [results, Tryd.results101, go_sem]) rfl ⟨_, 2, rfl, Or.inl ⟨h1, rfl, rfl⟩, ((HB.out.alloc HB.out.size _).alloc (by have := HB.out.size; simp; omega) _)⟩
  · obtain ⟨x, hx1, hx2, hx3, hx4⟩ := h2.read h1.1 ha
    obtain ⟨y, hy1, hy2, hy3, hy4⟩ := h3.read h1.2 hb
    obtain ⟨V1, hV1, hbox1, vb1, vs1⟩ := box2_new w2 (.bool m1) (.slice ao1 n1 cap1)
    obtain ⟨V, hV, hbox, vb, vs⟩ := box2_new V1 (.bool m2) (.slice ao2 n2 cap2)
    rw [vs1] at hbox
    have hl1 : n1 = nt x.natAbs := by
      obtain ⟨_, _, _, _, e', _, _, _, h5⟩ := hx1.parts
      simp only [numR, Value.agg.injEq, Array.mk.injEq, List.cons.injEq, Value.slice.injEq] at e'
      rw [e'.2.1.2.1]; exact h5
    have hl2 : n2 = nt y.natAbs := by
      obtain ⟨_, _, _, _, e', _, _, _, h5⟩ := hy1.parts
      simp only [numR, Value.agg.injEq, Array.mk.injEq, List.cons.injEq, Value.slice.injEq] at e'
      rw [e'.2.1.2.1]; exact h5
    have HL1 := Lib.hid hl1
    have HL2 := Lib.hid hl2
    clear hl1 hl2
    have hvb := vb1.trans (vb.mono (by omega))
    have HVB := Lib.hid hvb
    have F1 := Lib.hid (hbox1.after vb)
    have F2 := Lib.hid hbox
    have HX := Lib.hid (hx1.later hvb (Nat.le_refl _))
    have HY := Lib.hid (hy1.later hvb (Nat.le_refl _))
    have HNX := Lib.hid (And.intro hx2 hy2)
    have HVS : Hid (V.heap.size = w2.heap.size + 2) := Lib.hid (by omega)
    obtain ⟨sb, HSB⟩ : ∃ b, Hid ((!decide (Lim ≤ x.natAbs) && !decide (Lim ≤ y.natAbs)) = b) := ⟨_, Lib.hid rfl⟩
    have HSN : Hid (sb = true ↔ natT a < Lim ∧ natT b < Lim) := Lib.hid (by
      rw [← HSB.out, Bool.and_eq_true, Bool.not_eq_true', Bool.not_eq_true', decide_eq_false_iff_not, decide_eq_false_iff_not, hx3, hy3]; omega)
    have HVL : Hid (natT a < Lim ∧ natT b < Lim → x = valT a ∧ y = valT b) := Lib.hid fun h => ⟨hx4 h.1, hy4 h.2⟩
    have hsh := ref_short_two (HX.out.later ((Below.refl V.heap.size V).alloc (Nat.le_refl _) (Obj.cells #[.bool m1, .slice ao1 n1 cap1, .bool m2, .slice ao2 n2 cap2] 51)) (Nat.le_refl _)) (HY.out.later ((Below.refl V.heap.size V).alloc (Nat.le_refl _) (Obj.cells #[.bool m1, .slice ao1 n1 cap1, .bool m2, .slice ao2 n2 cap2] 51)) (Nat.le_refl _)) (Two4.new V m1 m2 (.slice ao1 n1 cap1) (.slice ao2 n2 cap2))
    rw [HSB.out] at hsh
    have HSH := Lib.hid hsh
    have HI := Lib.hid h1
    have hVV : V = (w2.alloc (Obj.cells #[.bool m1, .slice ao1 n1 cap1] 51)).alloc (Obj.cells #[.bool m2, .slice ao2 n2 cap2] 51) := by rw [hV, hV1]
    obtain ⟨c0, c1, -, -⟩ := F1.out
    obtain ⟨d0, d1, -, -⟩ := F2.out
    clear hbox hvb vb hV hV1 hbox1 vb1 vs vs1 hx1 hy1 hx2 hy2 hx3 hy3 hx4 hy4 h2 h3 h1 hsh
    go_upto_region 4 with (fail)
    rw [← hVV]
    clear hVV
    go_wp2_with fail
    refine HSH.out.mono ?_
    rintro e w3 ⟨rfl, hb3⟩
    have HW3 : Hid (Below V.heap.size V w3) := Lib.hid (((Below.refl _ _).alloc (Nat.le_refl _) _).trans (hb3.mono (by simp)))
    clear hb3
    obtain ⟨k0, k1, -, -⟩ := F1.out.after HW3.out
    obtain ⟨l0, l1, -, -⟩ := F2.out.after HW3.out
    have hz2 := HB.out.size
    have hvs := HVS.out
    have HWW : Hid (Below W.heap.size W w3) := Lib.hid ((HB.out.trans (HVB.out.mono hz2)).trans (HW3.out.mono (by omega)))
    clear c0 c1 d0 d1 hvs
    cases sb
    · have HL : Hid (Lim ≤ natT a ∨ Lim ≤ natT b) := Lib.hid (by
        have h := HSN.out
        by_cases h1 : natT a < Lim
        · by_cases h2 : natT b < Lim
          · have := h.2 ⟨h1, h2⟩; cases this
          · right; omega
        · left; omega)
      go_wp2
      exact bodyPost_ret (v := .tuple #[.string ⟨#[]⟩, .int .i64 4]) (by simp [results, Tryd.results101, go_sem]) rfl ⟨_, 4, rfl, Or.inr (Or.inl ⟨HI.out, HL.out, rfl, rfl⟩), HWW.out⟩
    · have HL := Lib.hid (HSN.out.1 rfl)
      have HXL : Hid (nt x.natAbs ≤ 600 ∧ nt y.natAbs ≤ 600) := Lib.hid (by
        have h := HSB.out
        rw [Bool.and_eq_true, Bool.not_eq_true', Bool.not_eq_true', decide_eq_false_iff_not, decide_eq_false_iff_not] at h
        exact ⟨nt_lim'.2 (by omega), nt_lim'.2 (by omega)⟩)
      obtain ⟨C, HC⟩ : ∃ C : Nat, Hid (C = 4 * max n1 n2 + 1) := ⟨_, Lib.hid rfl⟩
      obtain ⟨D, HD⟩ : ∃ D : Nat, Hid (D = C + 1) := ⟨_, Lib.hid rfl⟩
      have hcm : 4 * max (n1 : Int) (n2 : Int) + 2 = (D : Int) := by have := HC.out; have := HD.out; omega
      have hmx : max (n1 : Int) (n2 : Int) ≤ 600 := by have h := HXL.out; rw [← HL1.out, ← HL2.out] at h; omega
      have hC : C ≤ 3000 := by have := HC.out; omega
      have HIX : Hid (InW C x) := Lib.hid (by rw [HC.out]; exact inW_digits (by rw [← HL1.out]; omega))
      have HIY : Hid (InW C y) := Lib.hid (by rw [HC.out]; exact inW_digits (by rw [← HL2.out]; omega))
      have F3 := Lib.hid (And.intro (F1.out.after HW3.out) (F2.out.after HW3.out))
      have HX3 := Lib.hid (HX.out.later HW3.out (Nat.le_refl _))
      have HY3 := Lib.hid (HY.out.later HW3.out (Nat.le_refl _))
      have hD : D ≤ 3001 := by have := HD.out; omega
      have HCL : Hid (D ≤ 100000) := Lib.hid (by omega)
      have HBI : Hid BitsH := Lib.hid hB
      have HX6 : Hid (nt x.natAbs ≤ 1000 ∧ nt y.natAbs ≤ 1000) := Lib.hid (by have := HXL.out; omega)
      have HRES : Hid (ofL (opL (fun p q => p || q) x y D) = twZ fOr x y) := Lib.hid (by rw [HD.out]; exact ofL_twZ bitOp_or HIX.out HIY.out)
      clear HSH HSB HSN hB
      go_upto_region 7 with (fail)
      go_region_held3 (fun w' => (w'.cell? ⟨w2.heap.size, 0, none⟩ = some (.bool m1) ∧ w'.cell? ⟨w2.heap.size, 1, none⟩ = some (.slice ao1 n1 cap1) ∧ w'.cell? ⟨w2.heap.size + 1, 0, none⟩ = some (.bool m2) ∧ w'.cell? ⟨w2.heap.size + 1, 1, none⟩ = some (.slice ao2 n2 cap2))) (with_reducible first | (with_reducible exact four_cells2 (F3.out.1.after (Below.drew (Below.refl _ _))) (F3.out.2.after (Below.drew (Below.refl _ _)))) | (with_reducible exact four_cells2 (F3.out.1.after HW8.out) (F3.out.2.after HW8.out)) | (with_reducible exact four_cells2 (F3.out.1.after HW9.out) (F3.out.2.after HW9.out))) (first | (go_at_call 126; (with_reducible refine (HBI.out _ _ x _ D (HX3.out.later (Below.drew (Below.refl _ _)) (Nat.le_refl _)) HX6.out.1 HCL.out).mono ?_); rintro e w8 ⟨⟨v8, rfl, hm8⟩, hb8⟩; have HM8 := Lib.hid hm8; have HW8 := Lib.hid (undrew hb8); obtain ⟨a8, n8, p8, rfl⟩ := hm8.slice3; clear hm8 hb8) | (go_at_call 126; (with_reducible refine (HBI.out _ _ y _ D (HY3.out.later HW8.out (Nat.le_refl _)) HX6.out.2 HCL.out).mono ?_); rintro e w9 ⟨⟨v9, rfl, hm9⟩, hb9⟩; have HM9 := Lib.hid hm9; have HM8' := Lib.hid (HM8.out.later hb9 (Nat.le_refl _)); have HW9 := Lib.hid (HW8.out.trans (hb9.mono HW8.out.size)); obtain ⟨a9, n9, p9, rfl⟩ := hm9.slice3; clear hm9 hb9))
      have HN8 : Hid (n8 = D) := Lib.hid (by rw [HM8'.out.len, bitsL_length])
      have HN9 : Hid (n9 = D) := Lib.hid (by rw [HM9.out.len, bitsL_length])
      have h8 := HN8.out
      subst h8
      have h9 := HN9.out
      subst h9
      have HI0 : Hid (Bo w9.heap.size w9 (.slice none 0 0) (opL (fun p q => p || q) x y 0) ∧ Below w9.heap.size w9 w9) := Lib.hid ⟨World.ownsRow_nil w9 w9.heap.size 4 1, Below.refl _ _⟩
      go_wp2
      go_loopw [14, 15, 48] (fun ov _ iv wr => ∃ k : Nat, iv = .int .i64 k ∧ k ≤ n9 ∧ Hid (Bo w9.heap.size wr ov (opL (fun p q => p || q) x y k) ∧ Below w9.heap.size w9 wr)) (fun _ _ iv _ => n9 - (intOf iv).toNat)
      case atStart => exact ⟨0, rfl, Nat.zero_le _, HI0⟩
      case round =>
        obtain ⟨k, rfl, hk, hi⟩ := hrel
        obtain ⟨ao7, n7, cap7, rfl⟩ := hi.out.1.slice3
        by_cases hlt : k < n9
        · obtain ⟨g8, rfl, _, _⟩ := HM8'.out.block (show 0 < n9 by omega)
          obtain ⟨g9, rfl, _, _⟩ := HM9.out.block (show 0 < n9 by omega)
          have hc8 := (HM8'.out.later hi.out.2 (Nat.le_refl _)).cell (i := k) (by rw [bitsL_length]; exact hlt)
          have hc9 := (HM9.out.later hi.out.2 (Nat.le_refl _)).cell (i := k) (by rw [bitsL_length]; exact hlt)
          rw [bitsL_get] at hc8 hc9
          obtain ⟨b8, HB8⟩ : ∃ b, Hid (tbZ x k = b) := ⟨_, Lib.hid rfl⟩
          obtain ⟨b9, HB9⟩ : ∃ b, Hid (tbZ y k = b) := ⟨_, Lib.hid rfl⟩
          rw [HB8.out] at hc8
          rw [HB9.out] at hc9
          have HBw := Lib.hid hi.out.2.size
          have HLr : Hid ((opL (fun p q => p || q) x y k).length ≤ 1000000000) := Lib.hid (by rw [opL_length]; omega)
          have HST : Hid (∀ c : Bool, c = (fun p q => p || q) b8 b9 → opL (fun p q => p || q) x y k ++ [c] = opL (fun p q => p || q) x y (k + 1)) := Lib.hid (fun c hc => by rw [opL_succ, HB8.out, HB9.out, hc])
          cases b8 <;> cases b9
          all_goals
            go_wp2_with (at_builtin; go_loud (refine wpList_appB rfl _ _ rfl w9.heap.size wr _ (.slice ao7 n7 cap7) (opL (fun p q => p || q) x y k) rfl rfl hi.out.1 HBw.out HLr.out ?_; intro v' w' hb' hm'; have HM := Lib.hid hm'; have HBB := Lib.hid hb'; clear hm' hb'))
            go_roundw
            case rel => exact ⟨k + 1, by go_num, by omega, Lib.hid ⟨by rw [← HST.out _ rfl]; exact HM.out, hi.out.2.trans HBB.out⟩⟩
            case measure => simp [intOf]; omega
        · obtain rfl : k = n9 := by omega
          have HBw := Lib.hid hi.out.2.size
          have H127 := Lib.hid (ref_of_any hi.out.1 (by rw [opL_length]; have := HD.out; omega) (by rw [opL_length]; omega))
          rw [HRES.out] at H127
          go_wp2_with (first | (go_at_call 127; (with_reducible refine H127.out.mono ?_); rintro e w10 ⟨⟨v10, rfl, hm10⟩, hb10⟩; have HM10 := Lib.hid hm10; have HB10 := Lib.hid hb10; clear hm10 hb10) | (go_at_call 61; (with_reducible refine (ref_told_nil HM10.out).mono ?_); rintro e w11 ⟨rfl, hb11⟩; have HB11 := Lib.hid hb11; clear hb11))
          refine bodyPost_ret (v := .tuple #[.string (toldS (twZ fOr x y)), .int .i64 (toldE (twZ fOr x y))]) (by simp [results, Tryd.results101, go_sem]) rfl ⟨_, _, rfl, Or.inr (Or.inr ⟨HI.out, HL.out.1, HL.out.2, ?_, ?_⟩), ?_⟩
          · obtain ⟨e1, e2⟩ := HVL.out HL.out
            rw [← e1, ← e2]
          · obtain ⟨e1, e2⟩ := HVL.out HL.out
            rw [← e1, ← e2]
          · exact ((HWW.out.trans ((HW9.out.trans (hi.out.2.mono HW9.out.size)).mono HWW.out.size)).trans (HB10.out.mono (Nat.le_trans HWW.out.size (Nat.le_trans HW9.out.size HBw.out)))).trans (HB11.out.mono (Nat.le_trans HWW.out.size (Nat.le_trans HW9.out.size (Nat.le_trans HBw.out HB10.out.size))))
end Go.Proofs.YtkpoegdcmnjedaaDoor
