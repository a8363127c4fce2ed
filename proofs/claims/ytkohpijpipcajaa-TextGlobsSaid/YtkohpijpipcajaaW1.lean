import Derived.Test.YtkohpijpipcajaaU2
import Derived.Test.YtkohpijpipcajaaR3
import Derived.Test.YtkohpijpipcajaaP1
import Derived.Deep.RegionHeld3
namespace Go.Proofs.Ytkohpijpipcajaa
open Go.RowKit
set_option linter.unusedVariables false
set_option linter.unusedSimpArgs false

theorem below_dn {B : Nat} {a w : World} (h : Below B a w) (n : Nat) : Below B a (w.drewN n) := ⟨h.os, h.tape, h.output, h.size, h.block⟩
/-- two texts are alike when letters' case is folded. -/
def alk (f : Bool) (a b : ByteArray) : Bool := if f then (numsB a).map sml == (numsB b).map sml else a.toList == b.toList

set_option maxRecDepth 100000 in
theorem alike_fold (a b : ByteArray) (w : World) (ha : a.size ≤ 100000) (hab : a.size = b.size) :
    Calls Try.prog 69 #[.string a, .string b, .bool true] w fun e w' => e = .returned (.bool (alk true a b)) ∧ Below w.heap.size w w' := by
  have HNa := Lib.hid (numsB_length a)
  have HNb := Lib.hid (numsB_length b)
  go_enter Try.func69, Try.ntmps69
  go_wp2
  go_loopw [15] (fun i wr => ∃ k : Nat, i = .int .i64 k ∧ k ≤ a.size ∧ Hid (∀ j : Nat, j < k → sml ((numsB a).getD j 0) = sml ((numsB b).getD j 0)) ∧ Hid (Below w.heap.size w wr)) (fun i _ => a.size - (intOf i).toNat)
  case atStart => exact ⟨0, rfl, Nat.zero_le _, Lib.hid fun j hj => by omega, Lib.hid (Below.refl _ _)⟩
  case round =>
    obtain ⟨k, rfl, hk, hno, HBr⟩ := hrel
    by_cases hlt : k < a.size
    · have hlb : k < b.size := by omega
      have k1 : (k : Int) < (a.size : Int) := by omega
      have k2 : (k : Int) < (b.size : Int) := by omega
      have k0 : (0 : Int) ≤ (k : Int) := by omega
      have hx := byte_num a hlt
      have hy := byte_num b hlb
      have hbx := numsB_at a k
      have hby := numsB_at b k
      generalize hxe : (numsB a).getD k 0 = x at hx hbx
      generalize hye : (numsB b).getD k 0 = y at hy hby
      have HX := Lib.hid hxe
      have HY := Lib.hid hye
      clear hxe hye
      by_cases he : sml x = sml y
      · have HQ := Lib.hid he
        have hd : (sml x == sml y) = true := by simpa using he
        clear he
        go_wp2_with fail
        go_quiet ((go_at_call 58; exact Calls.quiet_of_same (turned (small_any _ _ (by omega) (by omega)))))
        go_wp2
        go_roundw
        case rel => exact ⟨k + 1, by go_num, by omega, Lib.hid fun j hj => by
          by_cases e : j = k
          · rw [e, HX.out, HY.out]; exact HQ.out
          · exact hno.out j (by omega), Lib.hid (below_dn HBr.out _)⟩
        case measure => simp [intOf]; omega
      · have HQ := Lib.hid he
        have hd : (sml x == sml y) = false := by simpa using he
        have HE := Lib.hid (show alk true a b = false by
          unfold alk
          rw [if_pos rfl, beq_eq_false_iff_ne]
          intro e
          apply he
          rw [← HX.out, ← HY.out]
          have e2 := congrArg (fun l => l[k]?) e
          simp only [List.getElem?_map] at e2
          rw [List.getElem?_eq_getElem (by rw [HNa.out]; exact hlt), List.getElem?_eq_getElem (by rw [HNb.out]; exact hlb)] at e2
          simpa [List.getD, List.getElem?_eq_getElem (show k < (numsB a).length by rw [HNa.out]; exact hlt), List.getElem?_eq_getElem (show k < (numsB b).length by rw [HNb.out]; exact hlb)] using e2)
        clear he
        go_wp2_with fail
        go_quiet ((go_at_call 58; exact Calls.quiet_of_same (turned (small_any _ _ (by omega) (by omega)))))
        go_wp2
        go_ret
        exact ⟨by rw [HE.out]; rfl, below_dn HBr.out _⟩
    · have HE := Lib.hid (show alk true a b = true by
        unfold alk
        rw [if_pos rfl, beq_iff_eq]
        apply List.ext_getElem?
        intro j
        simp only [List.getElem?_map]
        by_cases hj : j < a.size
        · have := hno.out j (by omega)
          rw [List.getD_eq_getElem?_getD, List.getD_eq_getElem?_getD] at this
          rw [List.getElem?_eq_getElem (show j < (numsB a).length by rw [HNa.out]; exact hj), List.getElem?_eq_getElem (show j < (numsB b).length by rw [HNb.out]; omega)] at this ⊢
          simpa using this
        · rw [List.getElem?_eq_none (by rw [HNa.out]; omega), List.getElem?_eq_none (by rw [HNb.out]; omega)])
      go_wp2
      go_ret
      exact ⟨by rw [HE.out]; rfl, HBr.out⟩
end Go.Proofs.Ytkohpijpipcajaa
