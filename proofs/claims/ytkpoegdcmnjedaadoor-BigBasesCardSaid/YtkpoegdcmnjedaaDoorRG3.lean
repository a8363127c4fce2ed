import Derived.Test.YtkpoegdcmnjedaaDoorRE2
namespace Go.Proofs.YtkpoegdcmnjedaaDoor
open Go.RowKit
set_option linter.unusedVariables false
set_option linter.unusedSimpArgs false

/-- a text without its sign. -/
def rbody (s : ByteArray) : ByteArray := if pneg s = true then s.extract 1 s.size else s
/-- the number that a text's digits of a base tell. -/
def rdZ (b : Nat) (s : ByteArray) : Int := if pneg s = true then -(rd b (rbody s) (rbody s).size : Int) else (rd b (rbody s) (rbody s).size : Int)
/-- what Read tells. -/
def ReQ (s : ByteArray) (base : Int) (W : World) (e : Ending) (W' : World) : Prop :=
  ∃ (r : ByteArray) (er : Int), e = .returned (.tuple #[.string r, .int .i64 er]) ∧
    ((¬ (2 ≤ base ∧ base ≤ 36) ∧ r = ⟨#[]⟩ ∧ er = 7) ∨ ((2 ≤ base ∧ base ≤ 36) ∧ ¬ AllD base.toNat (rbody s) ∧ r = ⟨#[]⟩ ∧ er = 2) ∨
     ((2 ≤ base ∧ base ≤ 36) ∧ AllD base.toNat (rbody s) ∧ r = toldS (rdZ base.toNat s) ∧ er = toldE (rdZ base.toNat s))) ∧ Below W.heap.size W W'
theorem told_abs {x y : Int} (h : x = y ∨ (Lim ≤ x.natAbs ∧ Lim ≤ y.natAbs)) : toldS x = toldS y ∧ toldE x = toldE y := by
  rcases h with rfl | ⟨h1, h2⟩
  · exact ⟨rfl, rfl⟩
  · unfold toldS toldE
    rw [if_neg (by omega), if_neg (by omega), if_neg (by omega), if_neg (by omega)]
    exact ⟨rfl, rfl⟩
theorem rd_x {s : ByteArray} {b u : Nat} (h : u = rd b (rbody s) (rbody s).size ∨ (1200 < nt u ∧ u ≤ rd b (rbody s) (rbody s).size)) :
    ∃ x : Int, x.natAbs = u ∧ (u ≠ 0 → pneg s = decide (x < 0)) ∧ toldS x = toldS (rdZ b s) ∧ toldE x = toldE (rdZ b s) := by
  refine ⟨if pneg s = true then -(u : Int) else u, by split <;> omega, fun h => ?_, told_abs ?_⟩
  · by_cases hp : pneg s = true
    · rw [if_pos hp, hp]
      have : -(u : Int) < 0 := by omega
      exact (decide_eq_true this).symm
    · rw [if_neg hp]
      have : ¬ (u : Int) < 0 := by omega
      rw [decide_eq_false this]
      exact Bool.eq_false_iff.2 hp
  · unfold rdZ
    rcases h with h | ⟨h1, h2⟩
    · left; rw [h]
    · right
      have := lim_big h1
      split <;> omega
set_option maxRecDepth 100000 in
set_option maxHeartbeats 2000000 in
theorem ref_read_any (s : ByteArray) (base : Int) (W : World) (hs : s.size ≤ 2000000) : Calls Tryd.prog 56 #[.string s, .int .i64 base] W (ReQ s base W) := by
  by_cases hb : 2 ≤ base ∧ base ≤ 36
  · obtain ⟨hb1, hb2⟩ := hb
    obtain ⟨b, rfl⟩ : ∃ b : Nat, base = (b : Int) := ⟨base.toNat, by omega⟩
    have hb3 : 2 ≤ b := by omega
    have hb4 : b ≤ 36 := by omega
    obtain ⟨mn, HMN⟩ : ∃ x, Hid (pneg s = x) := ⟨_, Lib.hid rfl⟩
    obtain ⟨t, HT⟩ : ∃ x, Hid (rbody s = x) := ⟨_, Lib.hid rfl⟩
    obtain ⟨c, HCB⟩ : ∃ c, Hid (byteN s 0 = c) := ⟨_, Lib.hid rfl⟩
    have hc255 : c ≤ 255 := by rw [← HCB.out]; exact byteN_le s 0
    have hts : t.size ≤ 2000000 := by rw [← HT.out]; unfold rbody; split <;> (try rw [ByteArray.size_extract]) <;> omega
    have HDG := Lib.hid (ref_digits_any t b W hts hb3 hb4)
    go_enter Tryd.func56, Tryd.ntmps56
    go_upto_region 3 with (fail)
    go_cut [6] from 15 to 21 (fun mv wx => mv = .bool mn ∧ wx = W)
    case first =>
      by_cases h0 : s.size = 0
      · have he3 : s.toList = [] := list_empty h0
        have he2 : s.toList.isEmpty = true := by rw [he3]; rfl
        have hmn : Hid (false = mn) := Lib.hid (by rw [← HMN.out]; unfold pneg; simp [h0])
        go_wp2
        go_meet
        exact ⟨congrArg Value.bool hmn.out, rfl⟩
      · have hne : s.toList.isEmpty = false := list_full h0
        have hne2 : ¬ s.toList = [] := list_full2 h0
        have hbt := byte_at s (i := 0) (by omega)
        rw [HCB.out] at hbt
        by_cases h45 : c = 45
        · have hmn : Hid (true = mn) := Lib.hid (by rw [← HMN.out]; unfold pneg; rw [HCB.out]; simp [h45]; omega)
          subst h45
          have hpos : 1 ≤ s.size := by omega
          go_wp2
          go_meet
          exact ⟨congrArg Value.bool hmn.out, rfl⟩
        · have hmn : Hid (false = mn) := Lib.hid (by rw [← HMN.out]; unfold pneg; rw [HCB.out]; simp [h45])
          have hn45 : ((c : Int) == 45) = false := by rw [beq_eq_false_iff_ne]; omega
          go_wp2
          go_meet
          exact ⟨congrArg Value.bool hmn.out, rfl⟩
    case rest =>
      obtain ⟨rfl, rfl⟩ := hcut
      have HARG : Hid ((mn = true ∧ s.extract 1 s.size = t ∧ 1 ≤ s.size) ∨ (mn = false ∧ s = t)) := Lib.hid (by
        have h := HMN.out
        rw [← HT.out]
        unfold rbody
        rw [h]
        cases mn
        · exact Or.inr ⟨rfl, rfl⟩
        · refine Or.inl ⟨rfl, rfl, ?_⟩
          unfold pneg at h
          simp only [Bool.and_eq_true, decide_eq_true_eq] at h
          omega)
      rcases HARG.out with ⟨rfl, ht, hpos⟩ | ⟨rfl, ht⟩
      all_goals
        subst ht
        go_wp2_with fail
        refine HDG.out.mono ?_
        rintro e w2 ⟨v, ok, u, rfl, hok, hn, hu, hb⟩
        obtain ⟨ao, n, cap, rfl⟩ := hn.slice3
        have HOK := Lib.hid hok
        have HN := Lib.hid hn
        have HU := Lib.hid hu
        have HB := Lib.hid hb
        clear hok hn hu hb
        cases ok
        · have HNO : Hid (¬ AllD b (rbody s)) := Lib.hid fun h => by rw [HT.out] at h; have := HOK.out.2 h; cases this
          go_wp2
          exact bodyPost_ret (v := .tuple #[.string ⟨#[]⟩, .int .i64 2]) (by simp [results, Tryd.results56, go_sem]) rfl ⟨_, 2, rfl, Or.inr (Or.inl ⟨⟨hb1, hb2⟩, by rw [Int.toNat_natCast]; exact HNO.out, rfl, rfl⟩), HB.out⟩
        · have HI : Hid (AllD b (rbody s)) := Lib.hid (by rw [HT.out]; exact HOK.out.1 rfl)
          have hxx := rd_x (s := s) (b := b) (u := u) (by rw [HT.out]; exact HU.out (HOK.out.1 rfl))
          obtain ⟨x, hx1, hx2, hx3, hx4⟩ := hxx
          rw [HMN.out] at hx2
          have HX := Lib.hid hx1
          have HX2 := Lib.hid hx2
          have HX3 := Lib.hid hx3
          have HX4 := Lib.hid hx4
          clear hx1 hx2 hx3 hx4
          go_wp2_with (first | (go_at_call 83; refine (ref_num_any _ _ _ _ _).mono ?_; rintro e w3 ⟨rfl, hb3⟩; have HB3 := Lib.hid hb3; have HQ := Lib.hid (Qn.mk (HN.out.later hb3 (Nat.le_refl _)) HX.out HX2.out); clear hb3) | (go_at_call 61; refine (ref_told_nil HQ.out).mono ?_; rintro e w4 ⟨rfl, hb4⟩; have HB4 := Lib.hid hb4; clear hb4))
          refine bodyPost_ret (v := .tuple #[.string (toldS x), .int .i64 (toldE x)]) (by simp [results, Tryd.results56, go_sem]) rfl ⟨_, _, rfl, Or.inr (Or.inr ⟨⟨hb1, hb2⟩, by rw [Int.toNat_natCast]; exact HI.out, by rw [Int.toNat_natCast]; exact HX3.out, by rw [Int.toNat_natCast]; exact HX4.out⟩), (HB.out.trans (HB3.out.mono HB.out.size)).trans (HB4.out.mono (by have := HB.out.size; have := HB3.out.size; omega))⟩
  · have HNB := Lib.hid hb
    have hc : base < 2 ∨ (decide (base < 2) = false ∧ 36 < base) := by
      by_cases h : base < 2
      · exact Or.inl h
      · exact Or.inr ⟨by simpa using h, by omega⟩
    clear hb
    rcases hc with hc | ⟨hc, hc2⟩
    all_goals
      go_enter Tryd.func56, Tryd.ntmps56
      go_wp2
      exact bodyPost_ret (v := .tuple #[.string ⟨#[]⟩, .int .i64 7]) (by simp [results, Tryd.results56, go_sem]) rfl ⟨_, 7, rfl, Or.inl ⟨HNB.out, rfl, rfl⟩, Below.refl _ _⟩
end Go.Proofs.YtkpoegdcmnjedaaDoor
