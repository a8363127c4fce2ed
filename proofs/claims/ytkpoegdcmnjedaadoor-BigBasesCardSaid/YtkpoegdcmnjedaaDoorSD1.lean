import Derived.Test.YtkpoegdcmnjedaaDoorRG3
import Derived.Test.YtkpoegdcmnjedaaDoorMG5
namespace Go.Proofs.YtkpoegdcmnjedaaDoor
open Go.RowKit
set_option linter.unusedVariables false
set_option linter.unusedSimpArgs false

set_option maxHeartbeats 1000000 in
theorem written_long (m od : Bool) (ao : Option Addr) (n cap : Nat) (W : World) :
    Calls Tryd.prog 77 #[numV m (.slice ao n cap) true od] W fun e W' => e = .returned (.tuple #[.string ⟨#[]⟩, .int .i64 4]) ∧ Below W.heap.size W W' := by
  go_enter Tryd.func77, Tryd.ntmps77
  go_wp2
  go_ret2
  exact ⟨rfl, (Below.refl _ _).alloc (Nat.le_refl _) _⟩
set_option maxRecDepth 100000 in
set_option maxHeartbeats 2000000 in
theorem read_any (s : ByteArray) (base : Int) (W : World) (hs : s.size ≤ 1000000) : Calls Tryd.prog 55 #[.string s, .int .i64 base] W (ReQ s base W) := by
  by_cases hb : 2 ≤ base ∧ base ≤ 36
  · obtain ⟨hb1, hb2⟩ := hb
    obtain ⟨b, rfl⟩ : ∃ b : Nat, base = (b : Int) := ⟨base.toNat, by omega⟩
    have hb3 : 2 ≤ b := by omega
    have hb4 : b ≤ 36 := by omega
    obtain ⟨mn, HMN⟩ : ∃ x, Hid (pneg s = x) := ⟨_, Lib.hid rfl⟩
    obtain ⟨t, HT⟩ : ∃ x, Hid (rbody s = x) := ⟨_, Lib.hid rfl⟩
    obtain ⟨c, HCB⟩ : ∃ c, Hid (byteN s 0 = c) := ⟨_, Lib.hid rfl⟩
    have hc255 : c ≤ 255 := by rw [← HCB.out]; exact byteN_le s 0
    have hts : t.size ≤ 1000000 := by rw [← HT.out]; unfold rbody; split <;> (try rw [ByteArray.size_extract]) <;> omega
    have HDG := Lib.hid (digits_q t b W hb3 hb4 hts)
    go_enter Tryd.func55, Tryd.ntmps55
    go_upto_region 3 with (fail)
    go_cut [6] from 15 to 21 (fun mv wx => mv = .bool mn ∧ wx = W)
    case first =>
      by_cases h0 : s.size = 0
      · have he3 : s.toList = [] := list_empty h0
        have he2 : s.toList.isEmpty = true := by rw [he3]; rfl
        have hmn : Hid (false = mn) := Lib.hid (by rw [← HMN.out]; unfold pneg; simp [h0])
        go_wp2
        go_meet
        exact ⟨congrArg Value.bool hmn.out, rfl⟩
      · have hne : s.toList.isEmpty = false := list_full h0
        have hne2 : ¬ s.toList = [] := list_full2 h0
        have hbt := byte_at s (i := 0) (by omega)
        rw [HCB.out] at hbt
        by_cases h45 : c = 45
        · have hmn : Hid (true = mn) := Lib.hid (by rw [← HMN.out]; unfold pneg; rw [HCB.out]; simp [h45]; omega)
          subst h45
          have hpos : 1 ≤ s.size := by omega
          go_wp2
          go_meet
          exact ⟨congrArg Value.bool hmn.out, rfl⟩
        · have hmn : Hid (false = mn) := Lib.hid (by rw [← HMN.out]; unfold pneg; rw [HCB.out]; simp [h45])
          have hn45 : ((c : Int) == 45) = false := by rw [beq_eq_false_iff_ne]; omega
          go_wp2
          go_meet
          exact ⟨congrArg Value.bool hmn.out, rfl⟩
    case rest =>
      obtain ⟨rfl, rfl⟩ := hcut
      have HARG : Hid ((mn = true ∧ s.extract 1 s.size = t ∧ 1 ≤ s.size) ∨ (mn = false ∧ s = t)) := Lib.hid (by
        have h := HMN.out
        rw [← HT.out]
        unfold rbody
        rw [h]
        cases mn
        · exact Or.inr ⟨rfl, rfl⟩
        · refine Or.inl ⟨rfl, rfl, ?_⟩
          unfold pneg at h
          simp only [Bool.and_eq_true, decide_eq_true_eq] at h
          omega)
      rcases HARG.out with ⟨rfl, ht, hpos⟩ | ⟨rfl, ht⟩
      all_goals
        subst ht
        go_wp2_with fail
        refine HDG.out.mono ?_
        rintro e w2 ⟨ao, n, cap, lg, od, er, rfl, hd, hb⟩
        have HB := Lib.hid hb
        clear hb
        rcases hd with ⟨h1, h2, -, rfl, h5⟩ | ⟨h1, rfl, rfl, rfl, rfl, rfl, rfl⟩
        · have HI : Hid (AllD b (rbody s)) := Lib.hid (by rw [HT.out]; exact h1)
          have HBX : Hid (Below wc.heap.size wc (w2.alloc (Obj.cells #[.bool false, .slice ao n cap, .bool lg, .bool od] 46))) := Lib.hid (HB.out.alloc HB.out.size _)
          have hs2 : w2.heap.size < (w2.alloc (Obj.cells #[.bool false, .slice ao n cap, .bool lg, .bool od] 46)).heap.size := by simp
          by_cases hl : Lim ≤ rd b (rbody s) (rbody s).size
          · have hlg : lg = true := by rw [h2, ← HT.out]; exact decide_eq_true hl
            subst hlg
            have HTO : Hid (toldS (rdZ b s) = ⟨#[]⟩ ∧ toldE (rdZ b s) = 4) := Lib.hid (by
              have h3 : ¬ (rdZ b s).natAbs < Lim := by unfold rdZ; split <;> omega
              unfold toldS toldE
              rw [if_neg h3, if_neg h3]; exact ⟨rfl, rfl⟩)
            clear h2 h5 hl
            go_wp2_with (first | (go_at_call 80; refine (signed_any _ _ _ _ _ _ _ _).mono ?_; rintro e w3 ⟨rfl, hb3⟩; have HB3 := Lib.hid hb3; clear hb3) | (go_at_call 77; refine (written_long _ _ _ _ _ _).mono ?_; rintro e w4 ⟨rfl, hb4⟩; have HB4 := Lib.hid hb4; clear hb4))
            refine bodyPost_ret (v := .tuple #[.string ⟨#[]⟩, .int .i64 4]) (by simp [results, Tryd.results55, go_sem]) rfl ⟨_, _, rfl, Or.inr (Or.inr ⟨⟨hb1, hb2⟩, by rw [Int.toNat_natCast]; exact HI.out, by rw [Int.toNat_natCast]; exact HTO.out.1.symm, by rw [Int.toNat_natCast]; exact HTO.out.2.symm⟩), (HBX.out.trans (HB3.out.mono HBX.out.size)).trans (HB4.out.mono (by have := HBX.out.size; have := HB3.out.size; omega))⟩
          · have hl2 : rd b (rbody s) (rbody s).size < Lim := by omega
            have hlg : lg = false := by rw [h2, ← HT.out]; exact decide_eq_false hl
            subst hlg
            have HM := Lib.hid (h5 (by rw [← HT.out]; exact hl2))
            have HNM : Hid (∀ w, Below w2.heap.size w2 w → Nm 63 w (numV (pneg s && (false || decide (0 < n))) (.slice ao n cap) false od) (rdZ b s)) := Lib.hid fun w hw => by
              have hmm := HM.out.later hw (Nat.le_refl _)
              rw [← HT.out] at hmm
              rw [Bool.false_or]
              refine Nm.mk (a := rd b (rbody s) (rbody s).size) (hmm.mono (Nat.zero_le _)) (by unfold rdZ; split <;> omega) ?_ (nd_lim hl2)
              intro hz
              unfold rdZ
              by_cases hp : pneg s = true
              · rw [if_pos hp, hp]; symm; rw [decide_eq_true_eq]; omega
              · rw [if_neg hp]
                have : pneg s = false := by simpa using hp
                rw [this]; symm; rw [decide_eq_false_iff_not]; omega
            rw [HMN.out] at HNM
            have hB2 : Hid (Below w2.heap.size w2 (w2.alloc (Obj.cells #[.bool false, .slice ao n cap, .bool false, .bool od] 46))) := Lib.hid ((Below.refl _ _).alloc (Nat.le_refl _) _)
            clear h2 h5 hl
            go_wp2_with (first | (go_at_call 80; refine (signed_any _ _ _ _ _ _ _ _).mono ?_; rintro e w3 ⟨rfl, hb3⟩; have HB3 := Lib.hid hb3; clear hb3) | (go_at_call 77; refine (written_any (HNM.out _ (hB2.out.trans (HB3.out.mono hB2.out.size))) (by decide)).mono ?_; rintro e w4 ⟨rfl, hb4⟩; have HB4 := Lib.hid hb4; clear hb4))
            refine bodyPost_ret (v := .tuple #[.string (toldS (rdZ b s)), .int .i64 (toldE (rdZ b s))]) (by simp [results, Tryd.results55, go_sem]) rfl ⟨_, _, rfl, Or.inr (Or.inr ⟨⟨hb1, hb2⟩, by rw [Int.toNat_natCast]; exact HI.out, by rw [Int.toNat_natCast], by rw [Int.toNat_natCast]⟩), (HBX.out.trans (HB3.out.mono HBX.out.size)).trans (HB4.out.mono (by have := HBX.out.size; have := HB3.out.size; omega))⟩
        · have HNO : Hid (¬ AllD b (rbody s)) := Lib.hid (by rw [HT.out]; exact h1)
          go_wp2
          exact bodyPost_ret (v := .tuple #[.string ⟨#[]⟩, .int .i64 2]) (by simp [results, Tryd.results55, go_sem]) rfl ⟨_, 2, rfl, Or.inr (Or.inl ⟨⟨hb1, hb2⟩, by rw [Int.toNat_natCast]; exact HNO.out, rfl, rfl⟩), HB.out.alloc HB.out.size _⟩
  · have HNB := Lib.hid hb
    have hc : base < 2 ∨ (decide (base < 2) = false ∧ 36 < base) := by
      by_cases h : base < 2
      · exact Or.inl h
      · exact Or.inr ⟨by simpa using h, by omega⟩
    clear hb
    rcases hc with hc | ⟨hc, hc2⟩
    all_goals
      go_enter Tryd.func55, Tryd.ntmps55
      go_wp2
      exact bodyPost_ret (v := .tuple #[.string ⟨#[]⟩, .int .i64 7]) (by simp [results, Tryd.results55, go_sem]) rfl ⟨_, 7, rfl, Or.inl ⟨HNB.out, rfl, rfl⟩, Below.refl _ _⟩
end Go.Proofs.YtkpoegdcmnjedaaDoor
