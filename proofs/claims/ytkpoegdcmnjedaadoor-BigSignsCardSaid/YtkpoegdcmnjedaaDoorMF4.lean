import Derived.Test.YtkpoegdcmnjedaaDoorMF2
namespace Go.Proofs.YtkpoegdcmnjedaaDoor
open Go.RowKit
set_option linter.unusedVariables false
set_option linter.unusedSimpArgs false

/-! ### how many bits -/
theorem bitLen_lt {x j : Nat} (hj : j ≤ 63) (hx : x < 2 ^ 64) : Lib.bitLen x ≤ j ↔ x < 2 ^ j := by
  constructor
  · intro h
    refine Nat.lt_of_not_le fun hle => ?_
    have h1 := Lib.bitLen_shift j x hle hx
    have h2 : 0 < x / 2 ^ j := Nat.div_pos hle (Nat.pow_pos (by decide))
    have h3 := Lib.bitLen_half (x / 2 ^ j) (by omega) (Nat.lt_of_le_of_lt (Nat.div_le_self _ _) hx)
    omega
  · exact fun h => Lib.bitLen_le x j (by omega) h
def bitsN (n : Nat) : Nat := if nd n = 0 then 0 else (nd n - 1) * 32 + Lib.bitLen (dg (digs B32 n) (nd n - 1))
theorem bits_le {n m : Nat} : bitsN n ≤ m ↔ n < 2 ^ m := by
  unfold bitsN
  by_cases h0 : nd n = 0
  · rw [if_pos h0, nd_zero.1 h0]
    exact ⟨fun _ => Nat.pow_pos (by decide), fun _ => Nat.zero_le _⟩
  · rw [if_neg h0]
    have hd := digs_dig (b := B32) (by decide) n
    obtain ⟨k, hk⟩ : ∃ k, nd n = k + 1 := ⟨nd n - 1, by omega⟩
    have htop : dg (digs B32 n) k ≠ 0 := by
      rcases digs_tight (b := B32) (by decide) n with h | h
      · exact absurd (by unfold nd; rw [h]; rfl) h0
      · have e : (digs B32 n).length = k + 1 := hk
        rw [e] at h; exact h
    have hlt := hd.u32 k
    have hv : n = V B32 (digs B32 n) k + B32 ^ k * dg (digs B32 n) k := by
      have h1 : val B32 (digs B32 n) = n := val_digs (by decide) n
      unfold val at h1
      rw [show (digs B32 n).length = k + 1 from hk, V_succ] at h1
      exact h1.symm
    have hlow := V_lt hd k
    rw [hk, Nat.add_sub_cancel]
    generalize dg (digs B32 n) k = d at *
    generalize V B32 (digs B32 n) k = z at *
    have eB : B32 ^ k = 2 ^ (k * 32) := by rw [Nat.mul_comm, Nat.pow_mul]
    rw [eB] at hv hlow
    by_cases hm : k * 32 ≤ m
    · obtain ⟨j, rfl⟩ : ∃ j, m = k * 32 + j := ⟨m - k * 32, by omega⟩
      have e2 : n < 2 ^ (k * 32 + j) ↔ d < 2 ^ j := by
        rw [Nat.pow_add, hv]
        constructor
        · intro h
          exact Nat.lt_of_mul_lt_mul_left (Nat.lt_of_le_of_lt (Nat.le_add_left _ _) h)
        · intro h
          have := Nat.mul_le_mul_left (2 ^ (k * 32)) (show d + 1 ≤ 2 ^ j from h)
          rw [Nat.mul_add] at this
          omega
      rw [e2]
      by_cases hj : j ≤ 63
      · rw [← bitLen_lt hj (by omega)]
        omega
      · have h1 : d < 2 ^ j := Nat.lt_of_lt_of_le hlt (show 2 ^ 32 ≤ 2 ^ j from Nat.pow_le_pow_right (by decide) (by omega))
        have h2 := Lib.bitLen_le d 32 (by decide) hlt
        exact ⟨fun _ => h1, fun _ => by omega⟩
    · have hL : 1 ≤ Lib.bitLen d := by
        have := Lib.bitLen_half d htop (by omega)
        omega
      refine ⟨fun h => by omega, fun h => ?_⟩
      exfalso
      have h1 : 2 ^ m ≤ 2 ^ (k * 32) := Nat.pow_le_pow_right (by decide) (by omega)
      have h2 : 2 ^ (k * 32) * 1 ≤ 2 ^ (k * 32) * d := Nat.mul_le_mul_left _ (by omega)
      omega
theorem bits_num {B : Nat} {v : Value} {n : Nat} {W : World} (h : M B W v (digs B32 n)) (hl : nd n ≤ 1000000) :
    Calls Tryd.prog 81 #[v] W fun e W' => e = .returned (.int .i64 (bitsN n : Nat)) ∧ W = W' := bits_any h (digs_dig (by decide) n) hl
theorem bitsN_nd (n : Nat) : bitsN n ≤ 32 * nd n := by
  rw [bits_le, Nat.pow_mul]
  exact (digs_length_le (b := B32) (by decide)).1 (Nat.le_refl (nd n))
theorem bitsN_small {n : Nat} (h : nd n ≤ 1000000) : bitsN n ≤ 32000000 := Nat.le_trans (bitsN_nd n) (by omega)

/-! ### written -/
theorem txt_size (l : List Nat) : (txt l).size = l.length := by
  unfold txt
  have := strOfNums_data (l.map fun d : Nat => (d : Int))
  show (strOfNums _).data.size = _
  rw [← Array.length_toList, this]
  simp
theorem textL_length {n : Nat} (k : Nat) (hk : 1 ≤ k) : (textL 10 n).length ≤ k ↔ n < 10 ^ k := by
  unfold textL
  by_cases h : n = 0
  · rw [if_pos h, h]
    exact ⟨fun _ => Nat.pow_pos (by decide), fun _ => hk⟩
  · rw [if_neg h, List.length_reverse, List.length_map]
    exact digs_length_le (by decide)
/-- the least number of too many digits. -/
def Lim : Nat := 10 ^ 600
theorem textL_lim {n : Nat} : (textL 10 n).length ≤ 600 ↔ n < Lim := by
  unfold Lim
  generalize hk : (600 : Nat) = k
  exact textL_length k (by omega)
theorem textL_nd (b n : Nat) (hb : 2 ≤ b) : (textL b n).length ≤ 32 * nd n + 1 := by
  unfold textL
  by_cases h : n = 0
  · rw [if_pos h]; simp
  · rw [if_neg h, List.length_reverse, List.length_map]
    exact Nat.le_succ_of_le (digs_nd hb)
theorem lim_bits : Lim ≤ 2 ^ 1994 := by unfold Lim; decide +kernel
/-- a number's text. -/
def ren (x : Int) : ByteArray := if x < 0 then ⟨#[45]⟩ ++ txt (textL 10 x.natAbs) else txt (textL 10 x.natAbs)
def toldS (x : Int) : ByteArray := if x.natAbs < Lim then ren x else ⟨#[]⟩
def toldE (x : Int) : Int := if x.natAbs < Lim then 0 else 4
end Go.Proofs.YtkpoegdcmnjedaaDoor
namespace Go.Proofs.YtkpoegdcmnjedaaDoor
open Go.RowKit
set_option linter.unusedVariables false
set_option linter.unusedSimpArgs false

theorem box_new (W : World) (x0 x1 x2 x3 : Value) : ∃ V, V = W.alloc (Obj.cells #[x0, x1, x2, x3] 46) ∧ Box4 W.heap.size x0 x1 x2 x3 V ∧ Below W.heap.size W V ∧ V.heap.size = W.heap.size + 1 :=
  ⟨_, rfl, Box4.of (heap_alloc_new W _), (Below.refl _ _).alloc (Nat.le_refl _) _, by simp⟩

set_option maxRecDepth 100000 in
set_option maxHeartbeats 2000000 in
theorem written_any {K : Nat} {W : World} {v : Value} {x : Int} (h : Nm K W v x) (hK : K ≤ 100000) :
    Calls Tryd.prog 77 #[v] W fun e W' => e = .returned (.tuple #[.string (toldS x), .int .i64 (toldE x)]) ∧ Below W.heap.size W W' := by
  obtain ⟨ao, n, cap, od, rfl, hm, hn⟩ := h
  obtain ⟨V, hV, hbox, vb, vs⟩ := box_new W (.bool (decide (x < 0))) (.slice ao n cap) (.bool false) (.bool od)
  have HM := Lib.hid (hm.later vb (Nat.le_refl _))
  have HBX := Lib.hid hbox
  have HVB := Lib.hid vb
  have c0 := hbox.c0
  have c1 := hbox.c1
  have c2 := hbox.c2
  have hbN := bitsN_small (n := x.natAbs) (by omega)
  clear hm hbox vb
  by_cases hb : bitsN x.natAbs ≤ 1994
  · by_cases hl : x.natAbs < Lim
    · have hlen : (txt (textL 10 x.natAbs)).size ≤ 600 := by rw [txt_size]; exact textL_lim.2 hl
      have HS : Hid (toldS x = ren x ∧ toldE x = 0) := Lib.hid (by unfold toldS toldE; rw [if_pos hl, if_pos hl]; exact ⟨rfl, rfl⟩)
      obtain ⟨bn, HBN⟩ : ∃ t, Hid (bitsN x.natAbs = t) := ⟨_, Lib.hid rfl⟩
      have HBC : Hid (Calls Tryd.prog 81 #[.slice ao n cap] V fun e W' => e = .returned (.int .i64 (bn : Nat)) ∧ V = W') := Lib.hid (by rw [← HBN.out]; exact bits_num HM.out (by omega))
      rw [HBN.out] at hb hbN
      clear hl
      by_cases hs : x < 0
      · have hr : ren x = ⟨#[45]⟩ ++ txt (textL 10 x.natAbs) := by unfold ren; rw [if_pos hs]
        have hd : decide (x < 0) = true := by simpa using hs
        rw [hd] at c0 hV ⊢
        have HR := Lib.hid hr
        clear hr hd hs
        go_enter Tryd.func77, Tryd.ntmps77
        go_wp2_with fail
        rw [← hV]
        clear hV
        refine HBC.out.mono ?_
        rintro e V2 ⟨rfl, rfl⟩
        go_wp2_with fail
        refine (text_any 10 (by decide) (by decide) HM.out (by omega)).mono ?_
        rintro e w1 ⟨rfl, hb1⟩
        have k0 := cell_after hb1 c0
        go_wp2
        go_ret2
        refine ⟨by rw [HS.out.1, HS.out.2, HR.out]; rfl, HVB.out.trans (hb1.mono (by omega))⟩
      · have hr : ren x = txt (textL 10 x.natAbs) := by unfold ren; rw [if_neg hs]
        have hd : decide (x < 0) = false := by simpa using hs
        rw [hd] at c0 hV ⊢
        have HR := Lib.hid hr
        clear hr hd hs
        go_enter Tryd.func77, Tryd.ntmps77
        go_wp2_with fail
        rw [← hV]
        clear hV
        refine HBC.out.mono ?_
        rintro e V2 ⟨rfl, rfl⟩
        go_wp2_with fail
        refine (text_any 10 (by decide) (by decide) HM.out (by omega)).mono ?_
        rintro e w1 ⟨rfl, hb1⟩
        have k0 := cell_after hb1 c0
        go_wp2
        go_ret2
        refine ⟨by rw [HS.out.1, HS.out.2, HR.out]; rfl, HVB.out.trans (hb1.mono (by omega))⟩
    · have hlen : 600 < (txt (textL 10 x.natAbs)).size := by rw [txt_size]; exact Nat.lt_of_not_le fun h => hl (textL_lim.1 h)
      have HS : Hid (toldS x = ⟨#[]⟩ ∧ toldE x = 4) := Lib.hid (by unfold toldS toldE; rw [if_neg hl, if_neg hl]; exact ⟨rfl, rfl⟩)
      obtain ⟨bn, HBN⟩ : ∃ t, Hid (bitsN x.natAbs = t) := ⟨_, Lib.hid rfl⟩
      have HBC : Hid (Calls Tryd.prog 81 #[.slice ao n cap] V fun e W' => e = .returned (.int .i64 (bn : Nat)) ∧ V = W') := Lib.hid (by rw [← HBN.out]; exact bits_num HM.out (by omega))
      have hlm : (txt (textL 10 x.natAbs)).size ≤ 1000000000 := by
        rw [txt_size]
        exact Nat.le_trans (textL_nd 10 _ (by decide)) (by omega)
      rw [HBN.out] at hb hbN
      clear hl
      go_enter Tryd.func77, Tryd.ntmps77
      go_wp2_with fail
      rw [← hV]
      clear hV
      refine HBC.out.mono ?_
      rintro e V2 ⟨rfl, rfl⟩
      go_wp2_with fail
      refine (text_any 10 (by decide) (by decide) HM.out (by omega)).mono ?_
      rintro e w1 ⟨rfl, hb1⟩
      go_wp2
      go_ret2
      refine ⟨by rw [HS.out.1, HS.out.2]; rfl, HVB.out.trans (hb1.mono (by omega))⟩
  · have hl : ¬ x.natAbs < Lim := fun h => hb (bits_le.2 (Nat.lt_of_lt_of_le h lim_bits))
    have HS : Hid (toldS x = ⟨#[]⟩ ∧ toldE x = 4) := Lib.hid (by unfold toldS toldE; rw [if_neg hl, if_neg hl]; exact ⟨rfl, rfl⟩)
    obtain ⟨bn, HBN⟩ : ∃ t, Hid (bitsN x.natAbs = t) := ⟨_, Lib.hid rfl⟩
    have HBC : Hid (Calls Tryd.prog 81 #[.slice ao n cap] V fun e W' => e = .returned (.int .i64 (bn : Nat)) ∧ V = W') := Lib.hid (by rw [← HBN.out]; exact bits_num HM.out (by omega))
    rw [HBN.out] at hb hbN
    clear hl
    go_enter Tryd.func77, Tryd.ntmps77
    go_wp2_with fail
    rw [← hV]
    clear hV
    refine HBC.out.mono ?_
    rintro e V2 ⟨rfl, rfl⟩
    go_wp2
    go_ret2
    refine ⟨by rw [HS.out.1, HS.out.2]; rfl, HVB.out⟩
end Go.Proofs.YtkpoegdcmnjedaaDoor
