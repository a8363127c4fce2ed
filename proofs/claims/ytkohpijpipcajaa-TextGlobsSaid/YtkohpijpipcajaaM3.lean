import Derived.Test.YtkohpijpipcajaaM2
import Derived.BigRegion
namespace Go.Proofs.Ytkohpijpipcajaa
open Go.RowKit
set_option linter.unusedVariables false
set_option linter.unusedSimpArgs false

/-- k bytes at each end have changed their places. -/
def RevRow (b : Nat) (ns : List Int) (k : Nat) (w : World) : Prop :=
  ∃ ys, BytesRow b ys w ∧ ys.length = ns.length ∧ ∀ j, j < ns.length → ys.getD j 0 = if j < k ∨ ns.length - k ≤ j then ns.getD (ns.length - 1 - j) 0 else ns.getD j 0

theorem getD_set (l : List Int) (i j : Nat) (a : Int) (hi : i < l.length) : (l.set i a).getD j 0 = if i = j then a else l.getD j 0 := by
  rw [List.getD_eq_getElem?_getD, List.getD_eq_getElem?_getD]
  split
  · rename_i h; subst h; rw [List.getElem?_set_self hi]; rfl
  · rename_i h; rw [List.getElem?_set_ne h]

theorem rev_step {b k : Nat} {ns ys : List Int} {w : World} {x z : Int} (h : BytesRow b ys w) (hl : ys.length = ns.length)
    (hv : ∀ j, j < ns.length → ys.getD j 0 = if j < k ∨ ns.length - k ≤ j then ns.getD (ns.length - 1 - j) 0 else ns.getD j 0) (hk : k < ns.length / 2)
    (hx : ys.getD k 0 = x) (hz : ys.getD (ns.length - 1 - k) 0 = z) :
    RevRow b ns (k + 1) ((w.setCell ⟨b, k, none⟩ (.int .u8 z)).setCell ⟨b, ns.length - 1 - k, none⟩ (.int .u8 x)) := by
  have h1 := h.set (j := k) (by omega) z
  have h2 := h1.set (j := ns.length - 1 - k) (by rw [List.length_set]; omega) x
  refine ⟨_, h2, by simp [hl], fun j hj => ?_⟩
  have vk := hv k (by omega)
  have vz := hv (ns.length - 1 - k) (by omega)
  rw [if_neg (by omega)] at vk
  rw [if_neg (by omega)] at vz
  rw [getD_set _ _ _ _ (by rw [List.length_set]; omega), getD_set _ _ _ _ (by omega)]
  by_cases e1 : ns.length - 1 - k = j
  · subst e1
    rw [if_pos rfl, if_pos (by omega), ← hx, vk, show ns.length - 1 - (ns.length - 1 - k) = k by omega]
  · rw [if_neg e1]
    by_cases e2 : k = j
    · subst e2
      rw [if_pos rfl, if_pos (by omega), ← hz, vz]
    · rw [if_neg e2, hv j hj]
      by_cases e3 : j < k ∨ ns.length - k ≤ j
      · rw [if_pos e3, if_pos (by omega)]
      · rw [if_neg e3, if_neg (by omega)]

theorem rev_end {ns ys : List Int} {k : Nat} (hl : ys.length = ns.length) (hk : k = ns.length / 2)
    (hv : ∀ j, j < ns.length → ys.getD j 0 = if j < k ∨ ns.length - k ≤ j then ns.getD (ns.length - 1 - j) 0 else ns.getD j 0) : ys = ns.reverse := by
  apply List.ext_getElem (by simpa using hl)
  intro j h1 h2
  have hj : j < ns.length := by omega
  have h := hv j hj
  rw [List.getElem_reverse]
  have a1 : ys.getD j 0 = ys[j] := by simp [List.getD, List.getElem?_eq_getElem h1]
  have a2 : ns.getD (ns.length - 1 - j) 0 = ns[ns.length - 1 - j] := by simp [List.getD, List.getElem?_eq_getElem (show ns.length - 1 - j < ns.length by omega)]
  rw [← a1, ← a2, h]
  by_cases e : j < k ∨ ns.length - k ≤ j
  · rw [if_pos e]
  · rw [if_neg e]
    have : ns.length - 1 - j = j := by omega
    rw [this]

set_option maxRecDepth 100000 in
set_option maxHeartbeats 1000000 in
theorem reverse_any (s : ByteArray) (w : World) (hs : s.size ≤ 100000) :
    Calls Try.prog 23 #[.string s] w fun e w' => e = .returned (.string (strOfNums (numsB s).reverse)) ∧ Below w.heap.size w w' := by
  obtain ⟨cap, W, hcv, hrow, hbl⟩ := to_bytes w s
  have hn := numsB_length s
  have hrow0 : RevRow w.heap.size (numsB s) 0 W := ⟨_, hrow, rfl, fun j hj => by rw [if_neg (by omega)]⟩
  have HN := Lib.hid hn
  have BL := Lib.hid hbl
  clear hrow hbl hn
  go_enter Try.func23, Try.ntmps23
  go_wp2
  go_loopw [11] (fun i wr => ∃ k : Nat, i = .int .i64 k ∧ k ≤ s.size / 2 ∧ RevRow w.heap.size (numsB s) k wr ∧ Below w.heap.size w wr) (fun i _ => s.size - (intOf i).toNat)
  case atStart => exact ⟨0, rfl, by omega, hrow0, BL.out⟩
  case round =>
    obtain ⟨k, rfl, hk, hr, hb⟩ := hrel
    have HB := Lib.hid hb
    clear hcv hrow0
    obtain ⟨ys, hy, hyl, hyv⟩ := hr
    have HL := Lib.hid (hyl.trans HN.out)
    have HV := Lib.hid hyv
    have HYL := Lib.hid hyl
    by_cases hlt : k < s.size / 2
    · have hc1 := hy.cell (j := k) (by rw [HL.out]; omega)
      have hf1 := hy.free (j := k) (by rw [HL.out]; omega)
      have hc2 := hy.cell (j := s.size - 1 - k) (by rw [HL.out]; omega)
      have hf2 := hy.free (j := s.size - 1 - k) (by rw [HL.out]; omega)
      have HY := Lib.hid hy
      generalize hx : ys.getD k 0 = x at hc1
      generalize hz : ys.getD (s.size - 1 - k) 0 = z at hc2
      have HX := Lib.hid hx
      have HZ := Lib.hid hz
      clear hy hyl hyv hx hz hb
      go_wp2
      go_region
      all_goals go_wp2
      all_goals go_roundw
      case rel =>
        have hz' : ys.getD ((numsB s).length - 1 - k) 0 = z := by rw [HN.out]; exact HZ.out
        have hstep := rev_step HY.out HYL.out HV.out (by rw [HN.out]; exact hlt) HX.out hz'
        rw [HN.out] at hstep
        exact ⟨k + 1, by go_num, by omega, hstep, ((HB.out.setCell (Nat.le_refl _) _).setCell (Nat.le_refl _) _).drew⟩
      case measure => simp [intOf]; omega
    · obtain rfl : k = s.size / 2 := by omega
      have ht := hy.text cap
      have he := rev_end hyl (by rw [HN.out]) hyv
      rw [HL.out] at ht
      have HE := Lib.hid he
      clear hy hyl hyv hb he
      go_wp2
      go_ret
      exact ⟨by rw [← HE.out]; rfl, HB.out⟩
end Go.Proofs.Ytkohpijpipcajaa
