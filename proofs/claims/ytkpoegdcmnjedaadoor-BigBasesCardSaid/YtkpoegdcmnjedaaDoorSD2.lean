import Derived.Test.YtkpoegdcmnjedaaDoorSB3
import Derived.Test.YtkpoegdcmnjedaaDoorRG3
namespace Go.Proofs.YtkpoegdcmnjedaaDoor
open Go.RowKit
set_option linter.unusedVariables false
set_option linter.unusedSimpArgs false

/-- the digits of a text of a base, the highest first. -/
def bdig (b n : Nat) : List Nat := if n = 0 then [0] else (digs b n).reverse
theorem textL_bdig (b n : Nat) : textL b n = (bdig b n).map fun d => digCh d := by
  unfold textL bdig
  by_cases h : n = 0
  · subst h; rfl
  · rw [if_neg h, if_neg h, List.map_reverse]
theorem bdig_lt {b : Nat} (hb : 2 ≤ b) (n : Nat) : ∀ d ∈ bdig b n, d < b := by
  unfold bdig
  by_cases h : n = 0
  · subst h; simp; omega
  · rw [if_neg h]
    intro d hd
    exact (digs_dig hb n).of d (List.mem_reverse.1 hd)
theorem bdig_dg {b : Nat} (hb : 2 ≤ b) (n i : Nat) : dg (bdig b n) i < b := by
  by_cases hi : i < (bdig b n).length
  · have e : dg (bdig b n) i = (bdig b n)[i] := by simp [dg, hi]
    rw [e]; exact bdig_lt hb n _ (List.getElem_mem hi)
  · rw [dg_ge (by omega)]; omega
theorem bdig_pos {b : Nat} (hb : 2 ≤ b) (n : Nat) : 0 < (bdig b n).length := by
  unfold bdig
  by_cases h : n = 0
  · rw [if_pos h]; decide
  · rw [if_neg h, List.length_reverse]
    exact List.length_pos_iff.2 fun e => h ((digs_eq_nil hb).1 e)
theorem bdig_val {b : Nat} (hb : 2 ≤ b) (n : Nat) : rdF b (bdig b n) (bdig b n).length = n := by
  unfold bdig
  by_cases h : n = 0
  · subst h; rw [if_pos rfl]; show 0 * b + 0 = 0; omega
  · rw [if_neg h, List.length_reverse, rdF_rev, val_digs hb]
theorem bx_size (b n : Nat) : (txt (textL b n)).size = (bdig b n).length := by rw [txt_size, textL_bdig, List.length_map]
theorem bx_byte {b n i : Nat} (hb : 2 ≤ b) (hb2 : b ≤ 36) (hi : i < (bdig b n).length) : byteN (txt (textL b n)) i = digCh (dg (bdig b n) i) := by
  rw [txt_byte (by rw [textL_bdig, List.length_map]; exact hi) (by
    intro d hd
    rw [textL_bdig] at hd
    obtain ⟨x, hx, rfl⟩ := List.mem_map.1 hd
    have := bdig_lt hb n x hx
    unfold digCh; split <;> omega), textL_bdig]
  simp [dg, hi]
theorem dvN_digCh {d : Nat} (h : d < 36) : dvN (digCh d) = d := by
  unfold digCh dvN
  by_cases h1 : d < 10
  · rw [if_pos h1, if_pos (by omega)]; omega
  · rw [if_neg h1, if_neg (by omega), if_pos (by omega)]; omega
theorem bx_dv {b n i : Nat} (hb : 2 ≤ b) (hb2 : b ≤ 36) (hi : i < (bdig b n).length) : dvS (txt (textL b n)) i = dg (bdig b n) i := by
  have hd := bdig_dg hb n i
  unfold dvS
  rw [bx_byte hb hb2 hi, dvN_digCh (by omega)]
theorem bx_read {b : Nat} (hb : 2 ≤ b) (hb2 : b ≤ 36) (n : Nat) : AllD b (txt (textL b n)) ∧ rd b (txt (textL b n)) (txt (textL b n)).size = n := by
  have hp := bdig_pos hb n
  have hs := bx_size b n
  refine ⟨⟨by omega, fun i hi => ?_⟩, ?_⟩
  · rw [bx_dv hb hb2 (by omega)]; exact bdig_dg hb n i
  · rw [hs, rd_of (m := bdig b n) _ (fun j hj => bx_dv hb hb2 hj), bdig_val hb]
/-- a number with digits of a base is read as the number. -/
theorem read_renB {b : Nat} (hb : 2 ≤ b) (hb2 : b ≤ 36) (x : Int) : AllD b (rbody (renB b x)) ∧ rdZ b (renB b x) = x := by
  obtain ⟨h3, h4⟩ := bx_read hb hb2 x.natAbs
  by_cases hx : x < 0
  · have e : renB b x = ⟨#[45]⟩ ++ txt (textL b x.natAbs) := by unfold renB; rw [if_pos hx]
    have hs : ((⟨#[45]⟩ : ByteArray) ++ txt (textL b x.natAbs)).size = 1 + (txt (textL b x.natAbs)).size := ByteArray.size_append
    have hp : pneg (renB b x) = true := by
      rw [e]; unfold pneg
      rw [neg_first, hs, decide_eq_true (by omega)]; rfl
    have hr : rbody (renB b x) = txt (textL b x.natAbs) := by
      unfold rbody
      rw [if_pos hp, e, neg_rest]
    refine ⟨by rw [hr]; exact h3, ?_⟩
    unfold rdZ
    rw [if_pos hp, hr, h4]; omega
  · have e : renB b x = txt (textL b x.natAbs) := by unfold renB; rw [if_neg hx]
    have hp : pneg (renB b x) = false := by
      rw [e]; unfold pneg
      rw [bx_byte hb hb2 (bdig_pos hb _)]
      have hd := bdig_dg hb x.natAbs 0
      have : ¬ digCh (dg (bdig b x.natAbs) 0) = 45 := by unfold digCh; split <;> omega
      rw [decide_eq_false this, Bool.and_false]
    have hr : rbody (renB b x) = txt (textL b x.natAbs) := by
      unfold rbody
      rw [if_neg (by rw [hp]; decide), e]
    refine ⟨by rw [hr]; exact h3, ?_⟩
    unfold rdZ
    rw [if_neg (by rw [hp]; decide), hr, h4]; omega
theorem renB_size {b : Nat} (hb : 2 ≤ b) {x : Int} (h : x.natAbs < Lim) : (renB b x).size ≤ 100000 := by
  have h1 := textL_nd b x.natAbs hb
  have h2 := nd_lim h
  have h3 := txt_size (textL b x.natAbs)
  unfold renB
  split
  · rw [ByteArray.size_append]
    have : (⟨#[45]⟩ : ByteArray).size = 1 := rfl
    omega
  · omega
end Go.Proofs.YtkpoegdcmnjedaaDoor
