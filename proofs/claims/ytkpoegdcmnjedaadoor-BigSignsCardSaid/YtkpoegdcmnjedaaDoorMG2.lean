import Derived.Test.YtkpoegdcmnjedaaDoorMG1
namespace Go.Proofs.YtkpoegdcmnjedaaDoor
open Go.RowKit
set_option linter.unusedVariables false
set_option linter.unusedSimpArgs false

def byteN (s : ByteArray) (i : Nat) : Nat := if h : i < s.size then s[i].toNat else 0
theorem byte_at (s : ByteArray) {i : Nat} (h : i < s.size) : ((s[i]).toNat : Int) = (byteN s i : Int) := by unfold byteN; rw [dif_pos h]
theorem byteN_le (s : ByteArray) (i : Nat) : byteN s i ≤ 255 := by
  unfold byteN; split
  · rename_i h; have := s[i].toNat_lt; omega
  · omega
/-- the digit at a place. -/
def dvS (s : ByteArray) (i : Nat) : Nat := dvN (byteN s i)
theorem dvS_le (s : ByteArray) (i : Nat) : dvS s i ≤ 99 := by
  have := byteN_le s i
  unfold dvS dvN; split
  · omega
  · split
    · omega
    · split <;> omega
/-- the number of the first digits. -/
def rd (base : Nat) (s : ByteArray) : Nat → Nat
  | 0 => 0
  | i + 1 => rd base s i * base + dvS s i
/-- all are digits. -/
def AllD (base : Nat) (s : ByteArray) : Prop := 0 < s.size ∧ ∀ i, i < s.size → dvS s i < base
theorem pow_pos2 (m : Nat) : 0 < 2 ^ m := Nat.pow_pos (by decide)
/-- the bound above which the digits are no longer kept. -/
theorem T94_ex : ∃ T : Nat, ∀ n, bitsN n ≤ 1994 ↔ n < T := ⟨_, fun n => bits_le (m := 1994)⟩
theorem len_scaled {b S c P k : Nat} (hb : 2 ≤ b) (h : (digs b S).length ≤ k) (hc : c ≤ b) (hP : P < c) : (digs b (S * c + P)).length ≤ k + 1 := by
  rw [digs_length_le hb] at h ⊢
  have h1 : (S + 1) * c ≤ b ^ k * b := Nat.mul_le_mul h hc
  rw [Nat.pow_succ]
  rw [Nat.succ_mul] at h1
  omega
theorem nd_of_bits {n k : Nat} (h : bitsN n ≤ 32 * k) : nd n ≤ k := by
  rw [bits_le, Nat.pow_mul] at h
  exact (digs_length_le (b := B32) (by decide)).2 h
noncomputable def T94 : Nat := Classical.choose T94_ex
theorem bits_T94 (n : Nat) : bitsN n ≤ 1994 ↔ n < T94 := Classical.choose_spec T94_ex n
theorem lim_T94 : Lim ≤ T94 := by
  rcases Nat.lt_or_ge T94 Lim with h | h
  · have h2 := (bits_le (m := 1994)).2 (Nat.lt_of_lt_of_le h lim_bits)
    exact absurd ((bits_T94 _).1 h2) (Nat.lt_irrefl _)
  · exact h
theorem T94_pos : 0 < T94 := by
  apply (bits_T94 0).1
  have h : nd 0 = 0 := nd_zero.2 rfl
  unfold bitsN; rw [if_pos h]; decide
/-- what digits tells. -/
def DigP (base : Nat) (s : ByteArray) (W : World) (e : Ending) (W' : World) : Prop :=
  (AllD base s → ∃ ao n cap, e = .returned (.tuple #[numV false (.slice ao n cap) (decide (Lim ≤ rd base s s.size)) (decide (rd base s s.size % 2 = 1)), .int .i64 0]) ∧ (rd base s s.size < Lim → M W.heap.size W' (.slice ao n cap) (digs B32 (rd base s s.size))))
  ∧ (¬ AllD base s → e = .returned (.tuple #[numV false (.slice none 0 0) false false, .int .i64 2])) ∧ Below W.heap.size W W'

theorem Box4.set1 {g : Nat} {x0 x1 x2 x3 : Value} {W : World} (h : Box4 g x0 x1 x2 x3 W) (y : Value) : Box4 g x0 y x2 x3 (W.setCell ⟨g, 1, none⟩ y) :=
  ⟨(World.cell?_setCell_other _ _ _ _ (by simp)).trans h.c0, World.cell?_setCell_same _ _ _ h.c1, (World.cell?_setCell_other _ _ _ _ (by simp)).trans h.c2, (World.cell?_setCell_other _ _ _ _ (by simp)).trans h.c3,
    by rw [World.frozen?_setCell]; exact h.f0, by rw [World.frozen?_setCell]; exact h.f1, by rw [World.frozen?_setCell]; exact h.f2, by rw [World.frozen?_setCell]; exact h.f3⟩
theorem Box4.set2 {g : Nat} {x0 x1 x2 x3 : Value} {W : World} (h : Box4 g x0 x1 x2 x3 W) (y : Value) : Box4 g x0 x1 y x3 (W.setCell ⟨g, 2, none⟩ y) :=
  ⟨(World.cell?_setCell_other _ _ _ _ (by simp)).trans h.c0, (World.cell?_setCell_other _ _ _ _ (by simp)).trans h.c1, World.cell?_setCell_same _ _ _ h.c2, (World.cell?_setCell_other _ _ _ _ (by simp)).trans h.c3,
    by rw [World.frozen?_setCell]; exact h.f0, by rw [World.frozen?_setCell]; exact h.f1, by rw [World.frozen?_setCell]; exact h.f2, by rw [World.frozen?_setCell]; exact h.f3⟩
theorem Box4.set3 {g : Nat} {x0 x1 x2 x3 : Value} {W : World} (h : Box4 g x0 x1 x2 x3 W) (y : Value) : Box4 g x0 x1 x2 y (W.setCell ⟨g, 3, none⟩ y) :=
  ⟨(World.cell?_setCell_other _ _ _ _ (by simp)).trans h.c0, (World.cell?_setCell_other _ _ _ _ (by simp)).trans h.c1, (World.cell?_setCell_other _ _ _ _ (by simp)).trans h.c2, World.cell?_setCell_same _ _ _ h.c3,
    by rw [World.frozen?_setCell]; exact h.f0, by rw [World.frozen?_setCell]; exact h.f1, by rw [World.frozen?_setCell]; exact h.f2, by rw [World.frozen?_setCell]; exact h.f3⟩
theorem Box4.far {g c j : Nat} {x0 x1 x2 x3 y : Value} {W : World} (h : Box4 g x0 x1 x2 x3 W) (hc : g ≠ c) : Box4 g x0 x1 x2 x3 (W.setCell ⟨c, j, none⟩ y) :=
  ⟨(far_set hc).trans h.c0, (far_set hc).trans h.c1, (far_set hc).trans h.c2, (far_set hc).trans h.c3,
    by rw [World.frozen?_setCell]; exact h.f0, by rw [World.frozen?_setCell]; exact h.f1, by rw [World.frozen?_setCell]; exact h.f2, by rw [World.frozen?_setCell]; exact h.f3⟩

structure DgI (s : ByteArray) (base : Nat) (W wr : World) (i part scale S : Nat) (sv : Value) (lg od : Bool) : Prop where
  okd : ∀ k, k < i → dvS s k < base
  pl : part < scale
  sl : scale * base < 4294967296
  eq : rd base s i = S * scale + part
  ode : od = decide (rd base s i % 2 = 1)
  lo : lg = true → T94 ≤ S
  sh : lg = false → M (W.heap.size + 2) wr sv (digs B32 S) ∧ S < T94
  s3 : ∃ ao n cap, sv = .slice ao n cap
  box : Box4 (W.heap.size + 1) (.bool false) sv (.bool lg) (.bool od) wr
  res : Box4 W.heap.size (.bool false) (.slice none 0 0) (.bool false) (.bool false) wr
  b : Below W.heap.size W wr
  vz : W.heap.size + 2 ≤ wr.heap.size
  fl : i = s.size → scale = 1

theorem odd_step {r base d : Nat} : decide ((r * base + d) % 2 = 1) = (((decide (r % 2 = 1)) && decide (base % 2 = 1)) != decide (d % 2 = 1)) := by
  have h : (r * base + d) % 2 = ((r % 2) * (base % 2) + d % 2) % 2 := by rw [Nat.add_mod, Nat.mul_mod]; generalize r % 2 * (base % 2) = z; omega
  rcases Nat.mod_two_eq_zero_or_one r with h1 | h1 <;> rcases Nat.mod_two_eq_zero_or_one base with h2 | h2 <;> rcases Nat.mod_two_eq_zero_or_one d with h3 | h3 <;> rw [h1, h2, h3] at h <;> rw [h, h1, h2, h3] <;> decide

set_option maxRecDepth 100000 in
set_option maxHeartbeats 4000000 in
theorem digits_any (s : ByteArray) (base : Nat) (W : World) (hb2 : 2 ≤ base) (hb36 : base ≤ 36) (hs : s.size ≤ 1000000) :
    Calls Tryd.prog 106 #[.string s, .int .i64 base] W (DigP base s W) := by
  by_cases h0 : s.size = 0
  · have he : s.toList = [] := by
      have hl : s.toList.length = s.size := by rw [ByteArray.toList_eq, Array.length_toList]; rfl
      exact List.length_eq_zero_iff.1 (hl.trans h0)
    have he2 : s.toList.isEmpty = true := by rw [he]; rfl
    have HN : Hid (¬ AllD base s) := Lib.hid (fun h => by have := h.1; omega)
    clear h0 he
    go_enter Tryd.func106, Tryd.ntmps106
    go_wp2
    refine bodyPost_ret (v := .tuple #[numV false (.slice none 0 0) false false, .int .i64 2]) (by simp [results, Tryd.results106, go_sem]) rfl ⟨fun h => (HN.out h).elim, fun _ => rfl, (by (repeat (first | exact Below.refl _ _ | (refine Below.setCell ?_ (by first | omega | (simp; done) | (simp; omega)) _) | (refine Below.alloc ?_ (by first | omega | (simp; done) | (simp; omega)) _) | refine Below.drew ?_)))⟩
  · have hne : s.toList.isEmpty = false := by
      have hl : s.toList.length = s.size := by rw [ByteArray.toList_eq, Array.length_toList]; rfl
      cases hq : s.toList with
      | nil => rw [hq] at hl; simp at hl; omega
      | cons a l => rfl
    have hne2 : ¬ s.toList = [] := by intro e; rw [e] at hne; cases hne
    obtain ⟨V1, hV1, b1, vb1, vs1⟩ := box_new W (.bool false) (.slice none 0 0) (.bool false) (.bool false)
    obtain ⟨V, hV, b2, vb2, vs2⟩ := box_new V1 (.bool false) (.slice none 0 0) (.bool false) (.bool false)
    rw [vs1] at b2
    have HI0 : Hid (DgI s base W V 0 0 1 0 (.slice none 0 0) false false) := Lib.hid ⟨fun k h => by omega, by omega, by omega, rfl, by simp [rd], (fun h => by cases h), fun _ => ⟨by rw [digs_zero]; exact M.nil _ _, T94_pos⟩, ⟨_, _, _, rfl⟩, b2, b1.after vb2, vb1.trans (vb2.mono (by omega)), by omega, fun _ => rfl⟩
    have hVV : V = (W.alloc (Obj.cells #[.bool false, .slice none 0 0, .bool false, .bool false] 46)).alloc (Obj.cells #[.bool false, .slice none 0 0, .bool false, .bool false] 46) := by rw [hV, hV1]
    have HZ : Hid (¬ s.size = 0) := Lib.hid h0
    clear hV hV1 b1 b2 vb1 vb2 vs1 vs2 h0
    go_enter Tryd.func106, Tryd.ntmps106
    go_wp2
    rw [← hVV]
    clear hVV
    go_loopw [7, 8, 16] (fun pv cv iv wr => ∃ (i part scale S : Nat) (sv : Value) (lg od : Bool), iv = .int .i64 i ∧ pv = .int .u64 part ∧ cv = .int .u64 scale ∧ i ≤ s.size ∧ Hid (DgI s base W wr i part scale S sv lg od)) (fun _ _ iv _ => s.size - (intOf iv).toNat)
    case atStart => exact ⟨0, 0, 1, 0, _, _, _, rfl, rfl, rfl, Nat.zero_le _, HI0⟩
    case round =>
      obtain ⟨i, part, scale, S, sv, lg, od, rfl, rfl, rfl, hi, hd⟩ := hrel
      obtain ⟨ao, n, cap, rfl⟩ := hd.out.s3
      obtain ⟨c0, c1, c2, c3, f0, f1, f2, f3⟩ := hd.out.box
      by_cases hlt : i < s.size
      · have hbt := byte_at s hlt
        have hble := byteN_le s i
        obtain ⟨d, HD⟩ : ∃ d, Hid (dvS s i = d) := ⟨_, Lib.hid rfl⟩
        have HDC : Hid (∀ w, Calls Tryd.prog 129 #[.int .u8 (byteN s i : Nat)] w fun e w' => e = .returned (.int .i64 (d : Nat)) ∧ w = w') := Lib.hid fun w => by rw [← HD.out]; exact digitOf_any _ w hble
        have hd99 : d ≤ 99 := by rw [← HD.out]; exact dvS_le s i
        by_cases hdb : base ≤ d
        · have HN : Hid (¬ AllD base s) := Lib.hid (fun h => by have := h.2 i hlt; rw [HD.out] at this; omega)
          obtain ⟨r0, r1, r2, r3, q0, q1, q2, q3⟩ := hd.out.res
          go_wp2_with (go_at_call 129; refine (HDC.out _).mono ?_; rintro e w' ⟨rfl, rfl⟩)
          refine bodyPost_ret (v := .tuple #[numV false (.slice none 0 0) false false, .int .i64 2]) (by simp [results, Tryd.results106, go_sem, r0, r1, r2, r3]) rfl ⟨fun h => (HN.out h).elim, fun _ => rfl, ?_⟩
          exact below_four hd.out.b (Nat.le_refl _) _ _ _ _
        · obtain ⟨m1, HM1⟩ : ∃ t, Hid (part * base = t) := ⟨_, Lib.hid rfl⟩
          obtain ⟨c', HC'⟩ : ∃ t, Hid (scale * base = t) := ⟨_, Lib.hid rfl⟩
          obtain ⟨g', HG'⟩ : ∃ t : Int, Hid ((c' : Int) * (base : Int) = t) := ⟨_, Lib.hid rfl⟩
          have em : (part : Int) * (base : Int) = (m1 : Int) := by rw [← HM1.out]; exact (Int.natCast_mul _ _).symm
          have ec : (scale : Int) * (base : Int) = (c' : Int) := by rw [← HC'.out]; exact (Int.natCast_mul _ _).symm
          have eg : (c' : Int) * (base : Int) = g' := HG'.out
          have hc' : c' < 4294967296 := by rw [← HC'.out]; exact hd.out.sl
          obtain ⟨P', HP'⟩ : ∃ t, Hid (m1 + d = t) := ⟨_, Lib.hid rfl⟩
          have em2 : (m1 : Int) + (d : Int) = (P' : Int) := by rw [← HP'.out]; omega
          have hP : P' < c' := by
            have h1 := hd.out.pl
            have h2 : (part + 1) * base ≤ scale * base := Nat.mul_le_mul_right _ h1
            rw [Nat.succ_mul, HM1.out, HC'.out] at h2
            rw [← HP'.out]
            omega
          have hm1 : m1 < 4294967296 := by have := HP'.out; omega
          have HRD : Hid (rd base s (i + 1) = S * c' + P') := Lib.hid (by
            show rd base s i * base + dvS s i = _
            rw [hd.out.eq, HD.out, Nat.add_mul, Nat.mul_assoc, HC'.out, HM1.out, ← HP'.out, Nat.add_assoc])
          have HOK : Hid (∀ k, k < i + 1 → dvS s k < base) := Lib.hid (by
            intro k hk
            by_cases e : k = i
            · subst e; rw [HD.out]; omega
            · exact hd.out.okd k (by omega))
          have hg' : g' ≤ 154618822656 := by
            have h1 : c' * base ≤ 4294967296 * 36 := Nat.mul_le_mul (Nat.le_of_lt hc') hb36
            have h2 : ((c' * base : Nat) : Int) = g' := by rw [← eg]; exact Int.natCast_mul _ _
            generalize c' * base = z at h1 h2
            omega
          have hg0 : 0 ≤ g' := by rw [← eg]; exact Int.mul_nonneg (by omega) (by omega)
          have hsc : scale < 4294967296 := by
            have := Nat.mul_le_mul_left scale (show 1 ≤ base by omega)
            rw [Nat.mul_one, HC'.out] at this
            omega
          have hpt : part < 4294967296 := Nat.lt_trans hd.out.pl hsc
          obtain ⟨o', HO'⟩ : ∃ o', Hid (decide (rd base s (i + 1) % 2 = 1) = o') := ⟨_, Lib.hid rfl⟩
          have HOF : Hid (od = false → ((d : Int) % 2 == 1) = o') := Lib.hid (by
            intro e
            rw [← HO'.out]
            show _ = decide ((rd base s i * base + dvS s i) % 2 = 1)
            rw [odd_step, ← hd.out.ode, e, HD.out]
            rcases Nat.mod_two_eq_zero_or_one d with h | h
            · have : (d : Int) % 2 = 0 := by omega
              rw [h, this]; simp
            · have : (d : Int) % 2 = 1 := by omega
              rw [h, this]; simp)
          have HOT : Hid (od = true → (!(((base : Int) % 2 == 1) == ((d : Int) % 2 == 1))) = o') := Lib.hid (by
            intro e
            rw [← HO'.out]
            show _ = decide ((rd base s i * base + dvS s i) % 2 = 1)
            rw [odd_step, ← hd.out.ode, e, HD.out]
            rcases Nat.mod_two_eq_zero_or_one d with h | h <;> rcases Nat.mod_two_eq_zero_or_one base with h' | h'
            · have h1 : (d : Int) % 2 = 0 := by omega
              have h2 : (base : Int) % 2 = 0 := by omega
              rw [h, h', h1, h2]; decide
            · have h1 : (d : Int) % 2 = 0 := by omega
              have h2 : (base : Int) % 2 = 1 := by omega
              rw [h, h', h1, h2]; decide
            · have h1 : (d : Int) % 2 = 1 := by omega
              have h2 : (base : Int) % 2 = 0 := by omega
              rw [h, h', h1, h2]; decide
            · have h1 : (d : Int) % 2 = 1 := by omega
              have h2 : (base : Int) % 2 = 1 := by omega
              rw [h, h', h1, h2]; decide)
          by_cases hfl : 4294967296 ≤ g' ∨ ((i : Int) == (s.size : Int) - 1) = true
          · obtain ⟨S', HS'⟩ : ∃ t, Hid (S * c' + P' = t) := ⟨_, Lib.hid rfl⟩
            have hHS := HS'.out
            have HGE : Hid (S ≤ S') := Lib.hid (by
              rw [← HS'.out]
              have := Nat.mul_le_mul_left S (show 1 ≤ c' by omega)
              omega)
            have HRS : Hid (rd base s (i + 1) = S' * 1 + 0) := Lib.hid (by rw [HRD.out, HS'.out]; omega)
            have hb1 := hd.out.vz
            have hfl2 : 4294967296 ≤ g' ∨ (g' < 4294967296 ∧ ((i : Int) == (s.size : Int) - 1) = true) := by
              rcases Int.lt_or_le g' 4294967296 with h | h
              · rcases hfl with h' | h'
                · exact (Int.not_le.2 h h').elim
                · exact Or.inr ⟨h, h'⟩
              · exact Or.inl h
            clear hHS hfl
            cases lg
            · have HM0 : Hid (M (W.heap.size + 2) wr (.slice ao n cap) (digs B32 S) ∧ S < T94) := Lib.hid (hd.out.sh rfl)
              have hS1 : nd S ≤ 63 := nd_of_bits (k := 63) (Nat.le_trans ((bits_T94 S).2 HM0.out.2) (by decide))
              have hS2 : nd S' ≤ 64 := by rw [← HS'.out]; exact len_scaled (b := B32) (by decide) hS1 (Nat.le_of_lt hc') hP
              have HSC : Hid (∀ w, M (W.heap.size + 2) w (.slice ao n cap) (digs B32 S) → Calls Tryd.prog 130 #[.slice ao n cap, .int .u32 c', .int .u32 P'] w fun e W' => (∃ v', e = .returned v' ∧ M w.heap.size W' v' (digs B32 S')) ∧ Below w.heap.size w W') := Lib.hid (by
                intro w hm
                have := scaled_any c' P' hm (digs_dig (by decide) S) (Nat.le_trans hS1 (by decide)) hc' (by omega)
                rw [val_digs (by decide) S, HS'.out] at this
                exact this)
              obtain ⟨bn, HBN⟩ : ∃ t, Hid (bitsN S' = t) := ⟨_, Lib.hid rfl⟩
              have hbN : bn ≤ 32000000 := by rw [← HBN.out]; exact bitsN_small (by omega)
              have HBC : Hid (∀ w v, M (W.heap.size + 2) w v (digs B32 S') → Calls Tryd.prog 81 #[v] w fun e W' => e = .returned (.int .i64 (bn : Nat)) ∧ w = W') := Lib.hid (by
                intro w v hm
                rw [← HBN.out]
                exact bits_num hm (by omega))
              by_cases hbn : (1994 : Int) < bn
              · have HT : Hid (T94 ≤ S') := Lib.hid (by
                  rcases Nat.lt_or_ge S' T94 with h | h
                  · have := (bits_T94 S').2 h
                    rw [HBN.out] at this
                    omega
                  · exact h)
                rcases hfl2 with hA | ⟨hA, hB⟩
                · cases od
                  · have eo := HOF.out rfl
                    go_wp2_with (first | (go_at_call 129; refine (HDC.out _).mono ?_; rintro e w' ⟨rfl, rfl⟩) | (go_at_call 130; refine (HSC.out _ (HM0.out.1.setOther (by omega) _ _)).mono ?_; rintro e w2 ⟨⟨v', rfl, hm2⟩, hb2⟩; obtain ⟨ao2, n2, cap2, rfl⟩ := hm2.slice3; have hB2 := Lib.hid ((hd.out.box.set3 (.bool o')).after hb2); obtain ⟨x0, x1, x2, x3, y0, y1, y2, y3⟩ := hB2.out; have HM2 := Lib.hid hm2; have HB2 := Lib.hid hb2; clear hm2 hb2) | (go_at_call 81; refine (HBC.out _ _ ((HM2.out.mono (by simp; omega)).setOther (by omega) _ _)).mono ?_; rintro e w3 ⟨rfl, rfl⟩))
                    refine ⟨⟨i + 1, 0, 1, S', _, true, o', rfl, rfl, rfl, by omega, Lib.hid ⟨HOK.out, by omega, by omega, HRS.out, HO'.out.symm, (fun _ => HT.out), (fun h => by cases h), ⟨_, _, _, rfl⟩, (hB2.out.set1 _).set2 _, (((hd.out.res.far (by omega)).after HB2.out).far (by omega)).far (by omega), (((hd.out.b.setCell (Nat.le_succ _) _).trans (HB2.out.mono (by simp; omega))).setCell (Nat.le_succ _) _).setCell (Nat.le_succ _) _, (by have := HB2.out.size; simp at this ⊢; omega), fun _ => rfl⟩⟩, by simp [intOf]; omega⟩
                  · have eo := HOT.out rfl
                    go_wp2_with (first | (go_at_call 129; refine (HDC.out _).mono ?_; rintro e w' ⟨rfl, rfl⟩) | (go_at_call 130; refine (HSC.out _ (HM0.out.1.setOther (by omega) _ _)).mono ?_; rintro e w2 ⟨⟨v', rfl, hm2⟩, hb2⟩; obtain ⟨ao2, n2, cap2, rfl⟩ := hm2.slice3; have hB2 := Lib.hid ((hd.out.box.set3 (.bool o')).after hb2); obtain ⟨x0, x1, x2, x3, y0, y1, y2, y3⟩ := hB2.out; have HM2 := Lib.hid hm2; have HB2 := Lib.hid hb2; clear hm2 hb2) | (go_at_call 81; refine (HBC.out _ _ ((HM2.out.mono (by simp; omega)).setOther (by omega) _ _)).mono ?_; rintro e w3 ⟨rfl, rfl⟩))
                    refine ⟨⟨i + 1, 0, 1, S', _, true, o', rfl, rfl, rfl, by omega, Lib.hid ⟨HOK.out, by omega, by omega, HRS.out, HO'.out.symm, (fun _ => HT.out), (fun h => by cases h), ⟨_, _, _, rfl⟩, (hB2.out.set1 _).set2 _, (((hd.out.res.far (by omega)).after HB2.out).far (by omega)).far (by omega), (((hd.out.b.setCell (Nat.le_succ _) _).trans (HB2.out.mono (by simp; omega))).setCell (Nat.le_succ _) _).setCell (Nat.le_succ _) _, (by have := HB2.out.size; simp at this ⊢; omega), fun _ => rfl⟩⟩, by simp [intOf]; omega⟩
                · cases od
                  · have eo := HOF.out rfl
                    go_wp2_with (first | (go_at_call 129; refine (HDC.out _).mono ?_; rintro e w' ⟨rfl, rfl⟩) | (go_at_call 130; refine (HSC.out _ (HM0.out.1.setOther (by omega) _ _)).mono ?_; rintro e w2 ⟨⟨v', rfl, hm2⟩, hb2⟩; obtain ⟨ao2, n2, cap2, rfl⟩ := hm2.slice3; have hB2 := Lib.hid ((hd.out.box.set3 (.bool o')).after hb2); obtain ⟨x0, x1, x2, x3, y0, y1, y2, y3⟩ := hB2.out; have HM2 := Lib.hid hm2; have HB2 := Lib.hid hb2; clear hm2 hb2) | (go_at_call 81; refine (HBC.out _ _ ((HM2.out.mono (by simp; omega)).setOther (by omega) _ _)).mono ?_; rintro e w3 ⟨rfl, rfl⟩))
                    refine ⟨⟨i + 1, 0, 1, S', _, true, o', rfl, rfl, rfl, by omega, Lib.hid ⟨HOK.out, by omega, by omega, HRS.out, HO'.out.symm, (fun _ => HT.out), (fun h => by cases h), ⟨_, _, _, rfl⟩, (hB2.out.set1 _).set2 _, (((hd.out.res.far (by omega)).after HB2.out).far (by omega)).far (by omega), (((hd.out.b.setCell (Nat.le_succ _) _).trans (HB2.out.mono (by simp; omega))).setCell (Nat.le_succ _) _).setCell (Nat.le_succ _) _, (by have := HB2.out.size; simp at this ⊢; omega), fun _ => rfl⟩⟩, by simp [intOf]; omega⟩
                  · have eo := HOT.out rfl
                    go_wp2_with (first | (go_at_call 129; refine (HDC.out _).mono ?_; rintro e w' ⟨rfl, rfl⟩) | (go_at_call 130; refine (HSC.out _ (HM0.out.1.setOther (by omega) _ _)).mono ?_; rintro e w2 ⟨⟨v', rfl, hm2⟩, hb2⟩; obtain ⟨ao2, n2, cap2, rfl⟩ := hm2.slice3; have hB2 := Lib.hid ((hd.out.box.set3 (.bool o')).after hb2); obtain ⟨x0, x1, x2, x3, y0, y1, y2, y3⟩ := hB2.out; have HM2 := Lib.hid hm2; have HB2 := Lib.hid hb2; clear hm2 hb2) | (go_at_call 81; refine (HBC.out _ _ ((HM2.out.mono (by simp; omega)).setOther (by omega) _ _)).mono ?_; rintro e w3 ⟨rfl, rfl⟩))
                    refine ⟨⟨i + 1, 0, 1, S', _, true, o', rfl, rfl, rfl, by omega, Lib.hid ⟨HOK.out, by omega, by omega, HRS.out, HO'.out.symm, (fun _ => HT.out), (fun h => by cases h), ⟨_, _, _, rfl⟩, (hB2.out.set1 _).set2 _, (((hd.out.res.far (by omega)).after HB2.out).far (by omega)).far (by omega), (((hd.out.b.setCell (Nat.le_succ _) _).trans (HB2.out.mono (by simp; omega))).setCell (Nat.le_succ _) _).setCell (Nat.le_succ _) _, (by have := HB2.out.size; simp at this ⊢; omega), fun _ => rfl⟩⟩, by simp [intOf]; omega⟩
              · have HT : Hid (S' < T94) := Lib.hid ((bits_T94 S').1 (by rw [HBN.out]; omega))
                have hbf : decide ((1994 : Int) < (bn : Int)) = false := decide_eq_false hbn
                rcases hfl2 with hA | ⟨hA, hB⟩
                · cases od
                  · have eo := HOF.out rfl
                    go_wp2_with (first | (go_at_call 129; refine (HDC.out _).mono ?_; rintro e w' ⟨rfl, rfl⟩) | (go_at_call 130; refine (HSC.out _ (HM0.out.1.setOther (by omega) _ _)).mono ?_; rintro e w2 ⟨⟨v', rfl, hm2⟩, hb2⟩; obtain ⟨ao2, n2, cap2, rfl⟩ := hm2.slice3; have hB2 := Lib.hid ((hd.out.box.set3 (.bool o')).after hb2); obtain ⟨x0, x1, x2, x3, y0, y1, y2, y3⟩ := hB2.out; have HM2 := Lib.hid hm2; have HB2 := Lib.hid hb2; clear hm2 hb2) | (go_at_call 81; refine (HBC.out _ _ ((HM2.out.mono (by simp; omega)).setOther (by omega) _ _)).mono ?_; rintro e w3 ⟨rfl, rfl⟩))
                    (try rw [hbf])
                    refine ⟨⟨i + 1, 0, 1, S', _, false, o', rfl, rfl, rfl, by omega, Lib.hid ⟨HOK.out, by omega, by omega, HRS.out, HO'.out.symm, (fun h => by cases h), (fun _ => ⟨((HM2.out.mono (by simp; omega)).setOther (by omega) _ _).setOther (by omega) _ _, HT.out⟩), ⟨_, _, _, rfl⟩, (hB2.out.set1 _).set2 _, (((hd.out.res.far (by omega)).after HB2.out).far (by omega)).far (by omega), (((hd.out.b.setCell (Nat.le_succ _) _).trans (HB2.out.mono (by simp; omega))).setCell (Nat.le_succ _) _).setCell (Nat.le_succ _) _, (by have := HB2.out.size; simp at this ⊢; omega), fun _ => rfl⟩⟩, by simp [intOf]; omega⟩
                  · have eo := HOT.out rfl
                    go_wp2_with (first | (go_at_call 129; refine (HDC.out _).mono ?_; rintro e w' ⟨rfl, rfl⟩) | (go_at_call 130; refine (HSC.out _ (HM0.out.1.setOther (by omega) _ _)).mono ?_; rintro e w2 ⟨⟨v', rfl, hm2⟩, hb2⟩; obtain ⟨ao2, n2, cap2, rfl⟩ := hm2.slice3; have hB2 := Lib.hid ((hd.out.box.set3 (.bool o')).after hb2); obtain ⟨x0, x1, x2, x3, y0, y1, y2, y3⟩ := hB2.out; have HM2 := Lib.hid hm2; have HB2 := Lib.hid hb2; clear hm2 hb2) | (go_at_call 81; refine (HBC.out _ _ ((HM2.out.mono (by simp; omega)).setOther (by omega) _ _)).mono ?_; rintro e w3 ⟨rfl, rfl⟩))
                    (try rw [hbf])
                    refine ⟨⟨i + 1, 0, 1, S', _, false, o', rfl, rfl, rfl, by omega, Lib.hid ⟨HOK.out, by omega, by omega, HRS.out, HO'.out.symm, (fun h => by cases h), (fun _ => ⟨((HM2.out.mono (by simp; omega)).setOther (by omega) _ _).setOther (by omega) _ _, HT.out⟩), ⟨_, _, _, rfl⟩, (hB2.out.set1 _).set2 _, (((hd.out.res.far (by omega)).after HB2.out).far (by omega)).far (by omega), (((hd.out.b.setCell (Nat.le_succ _) _).trans (HB2.out.mono (by simp; omega))).setCell (Nat.le_succ _) _).setCell (Nat.le_succ _) _, (by have := HB2.out.size; simp at this ⊢; omega), fun _ => rfl⟩⟩, by simp [intOf]; omega⟩
                · cases od
                  · have eo := HOF.out rfl
                    go_wp2_with (first | (go_at_call 129; refine (HDC.out _).mono ?_; rintro e w' ⟨rfl, rfl⟩) | (go_at_call 130; refine (HSC.out _ (HM0.out.1.setOther (by omega) _ _)).mono ?_; rintro e w2 ⟨⟨v', rfl, hm2⟩, hb2⟩; obtain ⟨ao2, n2, cap2, rfl⟩ := hm2.slice3; have hB2 := Lib.hid ((hd.out.box.set3 (.bool o')).after hb2); obtain ⟨x0, x1, x2, x3, y0, y1, y2, y3⟩ := hB2.out; have HM2 := Lib.hid hm2; have HB2 := Lib.hid hb2; clear hm2 hb2) | (go_at_call 81; refine (HBC.out _ _ ((HM2.out.mono (by simp; omega)).setOther (by omega) _ _)).mono ?_; rintro e w3 ⟨rfl, rfl⟩))
                    (try rw [hbf])
                    refine ⟨⟨i + 1, 0, 1, S', _, false, o', rfl, rfl, rfl, by omega, Lib.hid ⟨HOK.out, by omega, by omega, HRS.out, HO'.out.symm, (fun h => by cases h), (fun _ => ⟨((HM2.out.mono (by simp; omega)).setOther (by omega) _ _).setOther (by omega) _ _, HT.out⟩), ⟨_, _, _, rfl⟩, (hB2.out.set1 _).set2 _, (((hd.out.res.far (by omega)).after HB2.out).far (by omega)).far (by omega), (((hd.out.b.setCell (Nat.le_succ _) _).trans (HB2.out.mono (by simp; omega))).setCell (Nat.le_succ _) _).setCell (Nat.le_succ _) _, (by have := HB2.out.size; simp at this ⊢; omega), fun _ => rfl⟩⟩, by simp [intOf]; omega⟩
                  · have eo := HOT.out rfl
                    go_wp2_with (first | (go_at_call 129; refine (HDC.out _).mono ?_; rintro e w' ⟨rfl, rfl⟩) | (go_at_call 130; refine (HSC.out _ (HM0.out.1.setOther (by omega) _ _)).mono ?_; rintro e w2 ⟨⟨v', rfl, hm2⟩, hb2⟩; obtain ⟨ao2, n2, cap2, rfl⟩ := hm2.slice3; have hB2 := Lib.hid ((hd.out.box.set3 (.bool o')).after hb2); obtain ⟨x0, x1, x2, x3, y0, y1, y2, y3⟩ := hB2.out; have HM2 := Lib.hid hm2; have HB2 := Lib.hid hb2; clear hm2 hb2) | (go_at_call 81; refine (HBC.out _ _ ((HM2.out.mono (by simp; omega)).setOther (by omega) _ _)).mono ?_; rintro e w3 ⟨rfl, rfl⟩))
                    (try rw [hbf])
                    refine ⟨⟨i + 1, 0, 1, S', _, false, o', rfl, rfl, rfl, by omega, Lib.hid ⟨HOK.out, by omega, by omega, HRS.out, HO'.out.symm, (fun h => by cases h), (fun _ => ⟨((HM2.out.mono (by simp; omega)).setOther (by omega) _ _).setOther (by omega) _ _, HT.out⟩), ⟨_, _, _, rfl⟩, (hB2.out.set1 _).set2 _, (((hd.out.res.far (by omega)).after HB2.out).far (by omega)).far (by omega), (((hd.out.b.setCell (Nat.le_succ _) _).trans (HB2.out.mono (by simp; omega))).setCell (Nat.le_succ _) _).setCell (Nat.le_succ _) _, (by have := HB2.out.size; simp at this ⊢; omega), fun _ => rfl⟩⟩, by simp [intOf]; omega⟩
            · have HT : Hid (T94 ≤ S') := Lib.hid (Nat.le_trans (hd.out.lo rfl) HGE.out)
              have HI : Hid (DgI s base W ((wr.setCell ⟨W.heap.size + 1, 3, none⟩ (.bool o')).setCell ⟨W.heap.size + 1, 2, none⟩ (.bool true)) (i + 1) 0 1 S' (.slice ao n cap) true o') := Lib.hid
                ⟨HOK.out, by omega, by omega, HRS.out, HO'.out.symm, fun _ => HT.out, (fun h => by cases h), ⟨_, _, _, rfl⟩, (hd.out.box.set3 _).set2 _, (hd.out.res.far (by omega)).far (by omega),
                  (hd.out.b.setCell (Nat.le_succ _) _).setCell (Nat.le_succ _) _, by simpa using hd.out.vz, fun _ => rfl⟩
              rcases hfl2 with hA | ⟨hA, hB⟩
              · cases od
                · have eo := HOF.out rfl
                  go_wp2_with (go_at_call 129; refine (HDC.out _).mono ?_; rintro e w' ⟨rfl, rfl⟩)
                  exact ⟨⟨i + 1, 0, 1, S', _, true, o', rfl, rfl, rfl, by omega, HI⟩, by simp [intOf]; omega⟩
                · have eo := HOT.out rfl
                  go_wp2_with (go_at_call 129; refine (HDC.out _).mono ?_; rintro e w' ⟨rfl, rfl⟩)
                  exact ⟨⟨i + 1, 0, 1, S', _, true, o', rfl, rfl, rfl, by omega, HI⟩, by simp [intOf]; omega⟩
              · cases od
                · have eo := HOF.out rfl
                  go_wp2_with (go_at_call 129; refine (HDC.out _).mono ?_; rintro e w' ⟨rfl, rfl⟩)
                  exact ⟨⟨i + 1, 0, 1, S', _, true, o', rfl, rfl, rfl, by omega, HI⟩, by simp [intOf]; omega⟩
                · have eo := HOT.out rfl
                  go_wp2_with (go_at_call 129; refine (HDC.out _).mono ?_; rintro e w' ⟨rfl, rfl⟩)
                  exact ⟨⟨i + 1, 0, 1, S', _, true, o', rfl, rfl, rfl, by omega, HI⟩, by simp [intOf]; omega⟩
          · have hg2 : g' < 4294967296 := by
              rcases Int.lt_or_le g' 4294967296 with h | h
              · exact h
              · exact (hfl (Or.inl h)).elim
            have hx2 : ((i : Int) == (s.size : Int) - 1) = false := by
              cases h : ((i : Int) == (s.size : Int) - 1)
              · rfl
              · exact (hfl (Or.inr h)).elim
            have hx3 : ¬ (i : Int) = (s.size : Int) - 1 := fun e => hfl (Or.inr (beq_iff_eq.2 e))
            have HI : Hid (DgI s base W (wr.setCell ⟨W.heap.size + 1, 3, none⟩ (.bool o')) (i + 1) P' c' S (.slice ao n cap) lg o') := Lib.hid
              ⟨HOK.out, hP, (by have h2 : ((c' * base : Nat) : Int) = g' := by rw [← eg]; exact Int.natCast_mul _ _
                                generalize c' * base = z at h2
                                omega), HRD.out, HO'.out.symm, hd.out.lo, fun h => ⟨(hd.out.sh h).1.setOther (by omega) _ _, (hd.out.sh h).2⟩, ⟨_, _, _, rfl⟩,
                hd.out.box.set3 _, hd.out.res.far (by omega), hd.out.b.setCell (Nat.le_succ _) _, by simpa using hd.out.vz, fun h => by omega⟩
            clear hfl hx3
            cases od
            · have eo := HOF.out rfl
              go_wp2_with (go_at_call 129; refine (HDC.out _).mono ?_; rintro e w' ⟨rfl, rfl⟩)
              exact ⟨⟨i + 1, P', c', S, _, lg, o', rfl, rfl, rfl, by omega, HI⟩, by simp [intOf]; omega⟩
            · have eo := HOT.out rfl
              go_wp2_with (go_at_call 129; refine (HDC.out _).mono ?_; rintro e w' ⟨rfl, rfl⟩)
              exact ⟨⟨i + 1, P', c', S, _, lg, o', rfl, rfl, rfl, by omega, HI⟩, by simp [intOf]; omega⟩
      · obtain rfl : i = s.size := by omega
        have h1 := hd.out.fl rfl
        have h0 := hd.out.pl
        obtain rfl : part = 0 := by omega
        subst h1
        have HRD : Hid (rd base s s.size = S) := Lib.hid (by have := hd.out.eq; omega)
        have HA : Hid (AllD base s) := Lib.hid ⟨by have := HZ.out; omega, hd.out.okd⟩
        have HOD : Hid (od = decide (S % 2 = 1)) := Lib.hid (by rw [← HRD.out]; exact hd.out.ode)
        obtain ⟨r0, r1, r2, r3, q0, q1, q2, q3⟩ := hd.out.res
        cases lg
        · have HM0 : Hid (M (W.heap.size + 2) wr (.slice ao n cap) (digs B32 S) ∧ S < T94) := Lib.hid (hd.out.sh rfl)
          obtain ⟨o2, HO2⟩ : ∃ o2, Hid (decide (Lim ≤ S) = o2) := ⟨_, Lib.hid rfl⟩
          have HTL : Hid (Calls Tryd.prog 131 #[.slice ao n cap] wr fun e W' => e = .returned (.bool o2) ∧ Below wr.heap.size wr W') := Lib.hid (by
            have hS1 : nd S ≤ 63 := nd_of_bits (k := 63) (Nat.le_trans ((bits_T94 S).2 HM0.out.2) (by decide))
            have := toolong_any HM0.out.1 (Nat.le_trans hS1 (by decide))
            rw [HO2.out] at this
            exact this)
          go_wp2_with (go_at_call 131; refine HTL.out.mono ?_; rintro e w2 ⟨rfl, hb2⟩; have hB2 := Lib.hid (hd.out.box.after hb2); have hR2 := Lib.hid (hd.out.res.after hb2); obtain ⟨x0, x1, x2, x3, y0, y1, y2, y3⟩ := hB2.out; obtain ⟨z0, z1, z2, z3, t0, t1, t2, t3⟩ := hR2.out; have HB2 := Lib.hid hb2; clear hb2)
          refine bodyPost_ret (v := .tuple #[numV false (.slice ao n cap) o2 od, .int .i64 0]) (by simp [results, Tryd.results106, go_sem, z0, z1, z2, z3, x0, x1, x2, x3]) rfl ⟨fun _ => ⟨ao, n, cap, by rw [HRD.out, HO2.out, ← HOD.out], fun _ => ?_⟩, fun h => (h HA.out).elim, ?_⟩
          · rw [HRD.out]
            exact ((((((HM0.out.1.later HB2.out (Nat.le_refl _)).setOther (by omega) _ _).setOther (by omega) _ _).setOther (by omega) _ _).setOther (by omega) _ _).setOther (by omega) _ _).mono (by omega)
          · exact below_four (((hd.out.b.trans (HB2.out.mono (by have := hd.out.vz; omega))).setCell (Nat.le_succ _) _)) (Nat.le_refl _) _ _ _ _
        · have HM0 : Hid (T94 ≤ S) := Lib.hid (hd.out.lo rfl)
          have HL : Hid (true = decide (Lim ≤ S)) := Lib.hid (by
            have := HM0.out
            have h2 := lim_T94
            symm; rw [decide_eq_true_eq]; omega)
          go_wp2_with fail
          refine bodyPost_ret (v := .tuple #[numV false (.slice ao n cap) true od, .int .i64 0]) (by simp [results, Tryd.results106, go_sem, r0, r1, r2, r3, c0, c1, c2, c3]) rfl ⟨fun _ => ⟨ao, n, cap, by rw [HRD.out, ← HL.out, ← HOD.out], fun h => ?_⟩, fun h => (h HA.out).elim, ?_⟩
          · rw [HRD.out] at h
            have := HM0.out
            have h2 := lim_T94
            omega
          · exact below_four (hd.out.b.setCell (Nat.le_succ _) _) (Nat.le_refl _) _ _ _ _
end Go.Proofs.YtkpoegdcmnjedaaDoor
