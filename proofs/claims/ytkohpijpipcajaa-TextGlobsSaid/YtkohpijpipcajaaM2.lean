import Derived.Test.YtkohpijpipcajaaM1
import Derived.LoopTactic
namespace Go.Proofs.Ytkohpijpipcajaa
open Go.RowKit
set_option linter.unusedVariables false
set_option linter.unusedSimpArgs false

/-- the first k bytes are mapped. -/
def mapK (f : Int → Int) (xs : List Int) (k : Nat) : List Int := (xs.take k).map f ++ xs.drop k
theorem mapK_zero (f : Int → Int) (xs : List Int) : mapK f xs 0 = xs := by simp [mapK]
theorem mapK_length (f : Int → Int) (xs : List Int) (k : Nat) : (mapK f xs k).length = xs.length := by
  simp [mapK]; omega
theorem mapK_all (f : Int → Int) (xs : List Int) (k : Nat) (h : xs.length ≤ k) : mapK f xs k = xs.map f := by
  simp [mapK, List.take_of_length_le h, List.drop_eq_nil_of_le h]
theorem mapK_at (f : Int → Int) (xs : List Int) (k : Nat) : (mapK f xs k).getD k 0 = xs.getD k 0 := by
  unfold mapK
  rw [List.getD_eq_getElem?_getD, List.getD_eq_getElem?_getD]
  by_cases h : k < xs.length
  · rw [List.getElem?_append_right (by simp; omega), List.length_map, List.length_take, Nat.min_eq_left (by omega), Nat.sub_self, List.getElem?_drop, Nat.add_zero]
  · rw [List.getElem?_eq_none (by simp; omega), List.getElem?_eq_none (by omega)]
theorem mapK_set (f : Int → Int) (xs : List Int) (k : Nat) (h : k < xs.length) : (mapK f xs k).set k (f (xs.getD k 0)) = mapK f xs (k + 1) := by
  unfold mapK
  have hl : ((xs.take k).map f).length = k := by simp; omega
  rw [List.set_append_right _ _ (by omega), hl, Nat.sub_self, List.drop_eq_getElem_cons h, List.set_cons_zero, List.take_succ_eq_append_getElem h, List.map_append, List.append_assoc]
  simp [List.getD, List.getElem?_eq_getElem h]
theorem numsB_at (s : ByteArray) (k : Nat) : 0 ≤ (numsB s).getD k 0 ∧ (numsB s).getD k 0 ≤ 255 := by
  rw [List.getD_eq_getElem?_getD]
  cases h : (numsB s)[k]? with
  | none => simp
  | some x => exact numsB_le s x (List.mem_of_getElem? h)

set_option maxRecDepth 100000 in
theorem mapped_sml (s : ByteArray) (w : World) (hs : s.size ≤ 100000) :
    Calls Try.prog 57 #[.string s, .func (.func 58) #[] #[]] w fun e w' => e = .returned (.string (strOfNums ((numsB s).map sml))) ∧ Below w.heap.size w w' := by
  obtain ⟨cap, W, hcv, hrow, hbl⟩ := to_bytes w s
  have hrow0 : BytesRow w.heap.size (mapK sml (numsB s) 0) W := by rw [mapK_zero]; exact hrow
  have hn := numsB_length s
  have HN := Lib.hid hn
  have BL := Lib.hid hbl
  clear hrow hbl hn
  go_enter Try.func57, Try.ntmps57
  go_wp2
  go_loopw [11] (fun i wr => ∃ k : Nat, i = .int .i64 k ∧ k ≤ s.size ∧ BytesRow w.heap.size (mapK sml (numsB s) k) wr ∧ Below w.heap.size w wr) (fun i _ => s.size - (intOf i).toNat)
  case atStart => exact ⟨0, rfl, by omega, hrow0, BL.out⟩
  case round =>
    obtain ⟨k, rfl, hk, hr, hb⟩ := hrel
    have HR := Lib.hid hr
    have HB := Lib.hid hb
    clear hcv hrow0
    by_cases hlt : k < s.size
    · have hkl : k < (mapK sml (numsB s) k).length := by rw [mapK_length, HN.out]; exact hlt
      have hc := hr.cell hkl
      have hf := hr.free hkl
      rw [mapK_at] at hc
      have hx := numsB_at s k
      generalize hxe : (numsB s).getD k 0 = x at hc hx
      have HX := Lib.hid hxe
      have hnew := Lib.hid (hr.set hkl (sml x))
      clear hr hb hkl hxe
      go_wp2_with (go_at_call 58; refine (small_any _ _ (by omega) (by omega)).mono ?_; rintro e w' ⟨rfl, rfl⟩)
      have hfin : BytesRow w.heap.size (mapK sml (numsB s) (k + 1)) (wr.setCell ⟨w.heap.size, k, none⟩ (.int .u8 (sml x))) := by
        rw [← mapK_set _ _ _ (by rw [HN.out]; exact hlt), HX.out]; exact hnew.out
      go_roundw
      case rel => exact ⟨k + 1, by go_num, by omega, hfin, HB.out.setCell (Nat.le_refl _) _⟩
      case measure => simp [intOf]; omega
    · obtain rfl : k = s.size := by omega
      have ht := hr.text cap
      rw [mapK_length, HN.out] at ht
      have HE := Lib.hid (mapK_all sml (numsB s) s.size (by rw [HN.out]; exact Nat.le_refl _))
      clear hr hb
      go_wp2
      go_ret
      exact ⟨by rw [← HE.out]; rfl, HB.out⟩

set_option maxRecDepth 100000 in
theorem mapped_grt (s : ByteArray) (w : World) (hs : s.size ≤ 100000) :
    Calls Try.prog 57 #[.string s, .func (.func 60) #[] #[]] w fun e w' => e = .returned (.string (strOfNums ((numsB s).map grt))) ∧ Below w.heap.size w w' := by
  obtain ⟨cap, W, hcv, hrow, hbl⟩ := to_bytes w s
  have hrow0 : BytesRow w.heap.size (mapK grt (numsB s) 0) W := by rw [mapK_zero]; exact hrow
  have hn := numsB_length s
  have HN := Lib.hid hn
  have BL := Lib.hid hbl
  clear hrow hbl hn
  go_enter Try.func57, Try.ntmps57
  go_wp2
  go_loopw [11] (fun i wr => ∃ k : Nat, i = .int .i64 k ∧ k ≤ s.size ∧ BytesRow w.heap.size (mapK grt (numsB s) k) wr ∧ Below w.heap.size w wr) (fun i _ => s.size - (intOf i).toNat)
  case atStart => exact ⟨0, rfl, by omega, hrow0, BL.out⟩
  case round =>
    obtain ⟨k, rfl, hk, hr, hb⟩ := hrel
    have HR := Lib.hid hr
    have HB := Lib.hid hb
    clear hcv hrow0
    by_cases hlt : k < s.size
    · have hkl : k < (mapK grt (numsB s) k).length := by rw [mapK_length, HN.out]; exact hlt
      have hc := hr.cell hkl
      have hf := hr.free hkl
      rw [mapK_at] at hc
      have hx := numsB_at s k
      generalize hxe : (numsB s).getD k 0 = x at hc hx
      have HX := Lib.hid hxe
      have hnew := Lib.hid (hr.set hkl (grt x))
      clear hr hb hkl hxe
      go_wp2_with (go_at_call 60; refine (great_any _ _ (by omega) (by omega)).mono ?_; rintro e w' ⟨rfl, rfl⟩)
      have hfin : BytesRow w.heap.size (mapK grt (numsB s) (k + 1)) (wr.setCell ⟨w.heap.size, k, none⟩ (.int .u8 (grt x))) := by
        rw [← mapK_set _ _ _ (by rw [HN.out]; exact hlt), HX.out]; exact hnew.out
      go_roundw
      case rel => exact ⟨k + 1, by go_num, by omega, hfin, HB.out.setCell (Nat.le_refl _) _⟩
      case measure => simp [intOf]; omega
    · obtain rfl : k = s.size := by omega
      have ht := hr.text cap
      rw [mapK_length, HN.out] at ht
      have HE := Lib.hid (mapK_all grt (numsB s) s.size (by rw [HN.out]; exact Nat.le_refl _))
      clear hr hb
      go_wp2
      go_ret
      exact ⟨by rw [← HE.out]; rfl, HB.out⟩

theorem lower_any (s : ByteArray) (w : World) (hs : s.size ≤ 100000) : Calls Try.prog 25 #[.string s] w fun e w' => e = .returned (.string (strOfNums ((numsB s).map sml))) ∧ Below w.heap.size w w' := by
  go_enter Try.func25, Try.ntmps25
  go_wp2_with fail
  refine (mapped_sml s w hs).mono ?_
  rintro e w' ⟨rfl, hb⟩
  go_wp2
  go_ret
  exact ⟨rfl, hb⟩
theorem upper_any (s : ByteArray) (w : World) (hs : s.size ≤ 100000) : Calls Try.prog 27 #[.string s] w fun e w' => e = .returned (.string (strOfNums ((numsB s).map grt))) ∧ Below w.heap.size w w' := by
  go_enter Try.func27, Try.ntmps27
  go_wp2_with fail
  refine (mapped_grt s w hs).mono ?_
  rintro e w' ⟨rfl, hb⟩
  go_wp2
  go_ret
  exact ⟨rfl, hb⟩
end Go.Proofs.Ytkohpijpipcajaa
