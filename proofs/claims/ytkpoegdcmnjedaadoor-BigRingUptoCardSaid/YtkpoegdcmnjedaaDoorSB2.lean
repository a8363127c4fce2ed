import Derived.Test.YtkpoegdcmnjedaaDoorSB1
namespace Go.Proofs.YtkpoegdcmnjedaaDoor
open Go.RowKit
set_option linter.unusedVariables false
set_option linter.unusedSimpArgs false

/-- a number with digits of a base. -/
def renB (b : Nat) (x : Int) : ByteArray := if x < 0 then ⟨#[45]⟩ ++ txt (textL b x.natAbs) else txt (textL b x.natAbs)
/-- what Base tells. -/
def BaQ (s : ByteArray) (base : Int) (W : World) (e : Ending) (W' : World) : Prop :=
  ∃ (r : ByteArray) (er : Int), e = .returned (.tuple #[.string r, .int .i64 er]) ∧
    ((¬ IsNum s ∧ r = ⟨#[]⟩ ∧ er = 2) ∨ (IsNum s ∧ ¬ (2 ≤ base ∧ base ≤ 36) ∧ r = ⟨#[]⟩ ∧ er = 7) ∨ (IsNum s ∧ (2 ≤ base ∧ base ≤ 36) ∧ Lim ≤ natT s ∧ r = ⟨#[]⟩ ∧ er = 4) ∨
     (IsNum s ∧ (2 ≤ base ∧ base ≤ 36) ∧ natT s < Lim ∧ r = renB base.toNat (valT s) ∧ er = 0)) ∧ Below W.heap.size W W'
set_option maxRecDepth 100000 in
set_option maxHeartbeats 2000000 in
theorem base_any (s : ByteArray) (base : Int) (W : World) (hs : s.size ≤ 1000000) : Calls Tryd.prog 53 #[.string s, .int .i64 base] W (BaQ s base W) := by
  go_enter Tryd.func53, Tryd.ntmps53
  go_wp2_with fail
  refine (parse_num s _ hs).mono ?_
  rintro e w2 ⟨m, ao, n, cap, lg, od, er, rfl, hd, hb⟩
  have HD := Lib.hid hd
  have HB := Lib.hid hb
  clear hd hb
  rcases HD.out with ⟨h1, rfl⟩ | ⟨h1, h2, rfl, rfl⟩ | ⟨h1, h2, rfl, rfl, h3, -⟩
  · go_wp2
    exact bodyPost_ret (v := .tuple #[.string ⟨#[]⟩, .int .i64 2]) (by simp [results, Tryd.results53, go_sem]) rfl ⟨_, 2, rfl, Or.inl ⟨h1, rfl, rfl⟩, HB.out.alloc HB.out.size _⟩
  · have H2 := Lib.hid h2
    clear h2
    by_cases hb : 2 ≤ base ∧ base ≤ 36
    · obtain ⟨hb1, hb2⟩ := hb
      go_wp2
      exact bodyPost_ret (v := .tuple #[.string ⟨#[]⟩, .int .i64 4]) (by simp [results, Tryd.results53, go_sem]) rfl ⟨_, 4, rfl, Or.inr (Or.inr (Or.inl ⟨h1, ⟨hb1, hb2⟩, H2.out, rfl, rfl⟩)), HB.out.alloc HB.out.size _⟩
    · have HNB := Lib.hid hb
      have hc : base < 2 ∨ (decide (base < 2) = false ∧ 36 < base) := by
        by_cases h : base < 2
        · exact Or.inl h
        · exact Or.inr ⟨by simpa using h, by omega⟩
      clear hb
      rcases hc with hc | ⟨hc, hc2⟩
      all_goals
        go_wp2
        exact bodyPost_ret (v := .tuple #[.string ⟨#[]⟩, .int .i64 7]) (by simp [results, Tryd.results53, go_sem]) rfl ⟨_, 7, rfl, Or.inr (Or.inl ⟨h1, HNB.out, rfl, rfl⟩), HB.out.alloc HB.out.size _⟩
  · have H2 := Lib.hid h2
    have H3 := Lib.hid h3
    clear h2 h3
    by_cases hb : 2 ≤ base ∧ base ≤ 36
    · obtain ⟨hb1, hb2⟩ := hb
      obtain ⟨b, rfl⟩ : ∃ b : Nat, base = (b : Int) := ⟨base.toNat, by omega⟩
      have hb3 : 2 ≤ b := by omega
      have hb4 : b ≤ 36 := by omega
      obtain ⟨ao', n', cap', od', e, hm, hn⟩ := H3.out
      have e2 := e
      simp only [numV, Value.agg.injEq, Array.mk.injEq, List.cons.injEq, Value.bool.injEq, Value.slice.injEq] at e2
      obtain ⟨hsg, ⟨rfl, rfl, rfl⟩, -⟩ := e2
      clear e
      have HN : Hid (nd (valT s).natAbs ≤ 1000000) := Lib.hid (by omega)
      have HM := Lib.hid (hm.later (W' := w2.alloc (Obj.cells #[.bool m, .slice ao n cap, .bool false, .bool od] 46)) ((Below.refl _ _).alloc (Nat.le_refl _) _) (Nat.le_refl _))
      clear hn hm
      obtain ⟨t, HT⟩ : ∃ t, Hid (txt (textL b (valT s).natAbs) = t) := ⟨_, Lib.hid rfl⟩
      have HTX : Hid (∀ w, M 0 w (.slice ao n cap) (digs B32 (valT s).natAbs) → Calls Tryd.prog 104 #[.slice ao n cap, .int .u32 b] w fun e W' => e = .returned (.string t) ∧ Below w.heap.size w W') := Lib.hid fun w h => by
        rw [← HT.out]; exact text_any b hb3 hb4 h HN.out
      have HTS : Hid (t.size ≤ 64000000) := Lib.hid (by
        rw [← HT.out, txt_size]
        have := textL_nd b (valT s).natAbs hb3
        have := nd_lim (n := (valT s).natAbs) (by rw [valT_abs]; exact H2.out)
        omega)
      have hts := HTS.out
      have hts2 : 1 + t.size ≤ 9223372036854775807 := by omega
      have hb5 : (b : Int) ≤ 4294967295 := by omega
      obtain ⟨V, hV, hbx, vb, vs⟩ := box_new w2 (.bool m) (.slice ao n cap) (.bool false) (.bool od)
      rw [← hV] at HM
      have HBX := Lib.hid hbx
      have HVB := Lib.hid vb
      have c0 := hbx.c0
      have c1 := hbx.c1
      have c2 := hbx.c2
      have HSG := Lib.hid hsg
      clear hbx vb hsg H3
      go_upto_region 8 with (fail)
      rw [← hV]
      clear hV
      go_wp2_with fail
      refine (HTX.out _ HM.out).mono ?_
      rintro e w3 ⟨rfl, hb6⟩
      have HB6 := Lib.hid hb6
      have d0 := cell_after hb6 c0
      have HR : Hid (renB (b : Int).toNat (valT s) = if m = true then ⟨#[45]⟩ ++ t else t) := Lib.hid (by
        unfold renB
        rw [Int.toNat_natCast, HT.out, HSG.out]
        by_cases h : valT s < 0
        · rw [if_pos h, if_pos (decide_eq_true h)]
        · rw [if_neg h, if_neg (by rw [decide_eq_false h]; decide)])
      clear hb6 c0 c1 c2
      cases m
      · have HR2 : Hid (renB (b : Int).toNat (valT s) = t) := Lib.hid (HR.out.trans (if_neg (by decide)))
        go_wp2
        exact bodyPost_ret (v := .tuple #[.string t, .int .i64 0]) (by simp [results, Tryd.results53, go_sem]) rfl ⟨_, 0, rfl, Or.inr (Or.inr (Or.inr ⟨h1, ⟨by omega, by omega⟩, H2.out, HR2.out.symm, rfl⟩)), (HB.out.trans (HVB.out.mono HB.out.size)).trans (HB6.out.mono (by have := HB.out.size; omega))⟩
      · have HR2 : Hid (renB (b : Int).toNat (valT s) = ⟨#[45]⟩ ++ t) := Lib.hid (HR.out.trans (if_pos rfl))
        go_wp2
        exact bodyPost_ret (v := .tuple #[.string (⟨#[45]⟩ ++ t), .int .i64 0]) (by simp [results, Tryd.results53, go_sem]) rfl ⟨_, 0, rfl, Or.inr (Or.inr (Or.inr ⟨h1, ⟨by omega, by omega⟩, H2.out, HR2.out.symm, rfl⟩)), (HB.out.trans (HVB.out.mono HB.out.size)).trans (HB6.out.mono (by have := HB.out.size; omega))⟩
    · have HNB := Lib.hid hb
      have hc : base < 2 ∨ (decide (base < 2) = false ∧ 36 < base) := by
        by_cases h : base < 2
        · exact Or.inl h
        · exact Or.inr ⟨by simpa using h, by omega⟩
      clear hb H3
      rcases hc with hc | ⟨hc, hc2⟩
      all_goals
        go_wp2
        exact bodyPost_ret (v := .tuple #[.string ⟨#[]⟩, .int .i64 7]) (by simp [results, Tryd.results53, go_sem]) rfl ⟨_, 7, rfl, Or.inr (Or.inl ⟨h1, HNB.out, rfl, rfl⟩), HB.out.alloc HB.out.size _⟩
end Go.Proofs.YtkpoegdcmnjedaaDoor
