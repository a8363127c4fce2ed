import Derived.Test.YtkpoegdcmnjedaaDoorMG5
namespace Go.Proofs.YtkpoegdcmnjedaaDoor
open Go.RowKit
set_option linter.unusedVariables false
set_option linter.unusedSimpArgs false

/-! ### a number's text is read as the number -/
theorem txt_byte {l : List Nat} {i : Nat} (hi : i < l.length) (hl : ∀ d ∈ l, d < 256) : byteN (txt l) i = dg l i := by
  have hs := txt_size l
  unfold byteN
  rw [dif_pos (by omega)]
  have e : (txt l)[i]'(by omega) = (txt l).data.toList[i]'(by rw [Array.length_toList]; show i < (txt l).size; omega) := rfl
  rw [e]
  have e2 : (txt l).data.toList = (l.map fun d : Nat => (d : Int)).map fun n => UInt8.ofNat n.toNat := rfl
  simp only [e2, List.getElem_map, Int.toNat_natCast]
  have hd := hl _ (List.getElem_mem hi)
  have e3 : dg l i = l[i] := by simp [dg, hi]
  rw [e3, UInt8.toNat_ofNat']
  omega
/-- reading on, digit by digit. -/
def rdF (b : Nat) (m : List Nat) : Nat → Nat
  | 0 => 0
  | i + 1 => rdF b m i * b + dg m i
theorem rdF_congr {b : Nat} {m m' : List Nat} : ∀ i, (∀ j, j < i → dg m j = dg m' j) → rdF b m i = rdF b m' i
  | 0, _ => rfl
  | i + 1, h => by
    show rdF b m i * b + _ = rdF b m' i * b + _
    rw [rdF_congr i (fun j hj => h j (by omega)), h i (by omega)]
theorem rdF_rev {b : Nat} : ∀ l : List Nat, rdF b l.reverse l.length = val b l
  | [] => rfl
  | d :: l => by
    have hl := l.length_reverse
    rw [List.reverse_cons, List.length_cons]
    show rdF b (l.reverse ++ [d]) l.length * b + dg (l.reverse ++ [d]) l.length = _
    rw [rdF_congr (m' := l.reverse) l.length (fun j hj => dg_snoc_lt (by omega)), rdF_rev l, val_cons]
    have : dg (l.reverse ++ [d]) l.length = d := by
      have h := dg_snoc_eq (l := l.reverse) (d := d)
      rwa [hl] at h
    rw [this, Nat.mul_comm, Nat.add_comm]
theorem rd_of {b : Nat} {s : ByteArray} {m : List Nat} : ∀ i, (∀ j, j < i → dvS s j = dg m j) → rd b s i = rdF b m i
  | 0, _ => rfl
  | i + 1, h => by
    show rd b s i * b + dvS s i = rdF b m i * b + dg m i
    rw [rd_of i (fun j hj => h j (by omega)), h i (by omega)]
/-- the digits of a text, the highest first. -/
def tdig (n : Nat) : List Nat := if n = 0 then [0] else (digs 10 n).reverse
theorem textL_tdig (n : Nat) : textL 10 n = (tdig n).map fun d => digCh d := by
  unfold textL tdig
  by_cases h : n = 0
  · subst h; rfl
  · rw [if_neg h, if_neg h, List.map_reverse]
theorem tdig_lt (n : Nat) : ∀ d ∈ tdig n, d < 10 := by
  unfold tdig
  by_cases h : n = 0
  · subst h; simp
  · rw [if_neg h]
    intro d hd
    exact (digs_dig (by decide) n).of d (List.mem_reverse.1 hd)
theorem tdig_dg (n i : Nat) : dg (tdig n) i < 10 := by
  by_cases hi : i < (tdig n).length
  · have e : dg (tdig n) i = (tdig n)[i] := by simp [dg, hi]
    rw [e]; exact tdig_lt n _ (List.getElem_mem hi)
  · rw [dg_ge (by omega)]; decide
theorem tdig_pos (n : Nat) : 0 < (tdig n).length := by
  unfold tdig
  by_cases h : n = 0
  · subst h; decide
  · rw [if_neg h, List.length_reverse]
    exact List.length_pos_iff.2 fun e => h ((digs_eq_nil (b := 10) (by decide)).1 e)
theorem tdig_val (n : Nat) : rdF 10 (tdig n) (tdig n).length = n := by
  unfold tdig
  by_cases h : n = 0
  · subst h; rfl
  · rw [if_neg h, List.length_reverse, rdF_rev, val_digs (by decide)]
theorem tdig_first {n : Nat} (h : 2 ≤ (tdig n).length) : dg (tdig n) 0 ≠ 0 := by
  unfold tdig at h ⊢
  by_cases h0 : n = 0
  · subst h0; simp at h
  · rw [if_neg h0] at h ⊢
    have ht := digs_tight (b := 10) (by decide) n
    have hne : digs 10 n ≠ [] := fun e => h0 ((digs_eq_nil (b := 10) (by decide)).1 e)
    have hl : 0 < (digs 10 n).length := List.length_pos_iff.2 hne
    rcases ht with h1 | h1
    · exact absurd h1 hne
    · have e : dg (digs 10 n).reverse 0 = dg (digs 10 n) ((digs 10 n).length - 1) := by
        have h2 : (digs 10 n).length - 1 < (digs 10 n).length := by omega
        simp [dg, hl, h2]
      rw [e]; exact h1
theorem tx_byte {n i : Nat} (hi : i < (tdig n).length) : byteN (txt (textL 10 n)) i = 48 + dg (tdig n) i := by
  have hd := tdig_dg n i
  have hlen : (textL 10 n).length = (tdig n).length := by rw [textL_tdig, List.length_map]
  rw [txt_byte (by omega) (by
    rw [textL_tdig]
    intro d hd
    obtain ⟨x, hx, rfl⟩ := List.mem_map.1 hd
    have := tdig_lt n x hx
    unfold digCh; split <;> omega), textL_tdig]
  have e : dg ((tdig n).map fun d => digCh d) i = digCh (dg (tdig n) i) := by simp [dg, hi]
  rw [e]
  unfold digCh
  rw [if_pos hd]
theorem tx_size (n : Nat) : (txt (textL 10 n)).size = (tdig n).length := by rw [txt_size, textL_tdig, List.length_map]
theorem tx_dv {n i : Nat} (hi : i < (tdig n).length) : dvS (txt (textL 10 n)) i = dg (tdig n) i := by
  have hd := tdig_dg n i
  unfold dvS dvN
  rw [tx_byte hi, if_pos (by omega)]
  omega
theorem whB_digit {c : Nat} (h : 33 ≤ c) : whB c = false := by
  unfold whB
  rw [decide_eq_false (show ¬ c ≤ 13 by omega), decide_eq_false (show ¬ c = 32 by omega)]
  simp
/-- what is read of a number's text. -/
theorem tx_read (n : Nat) : cutR (cutL (txt (textL 10 n))) = txt (textL 10 n) ∧ pbase (txt (textL 10 n)) = 10 ∧ AllD 10 (txt (textL 10 n)) ∧ rd 10 (txt (textL 10 n)) (txt (textL 10 n)).size = n := by
  have hp := tdig_pos n
  have hs := tx_size n
  refine ⟨?_, ?_, ⟨by omega, fun i hi => ?_⟩, ?_⟩
  · rw [cutL_no (Or.inr (whB_digit (by rw [tx_byte hp]; omega)))]
    exact cutR_no (Or.inr (whB_digit (by rw [hs, tx_byte (by omega)]; omega)))
  · unfold pbase
    rw [if_neg]
    rintro ⟨h1, h2⟩
    rw [hs] at h1
    rw [tx_byte (by omega)] at h2
    exact tdig_first h1 (by omega)
  · rw [tx_dv (by omega)]; exact tdig_dg n i
  · rw [hs, rd_of (m := tdig n) _ (fun j hj => tx_dv hj), tdig_val]
theorem neg_byte {t : ByteArray} : ∀ i, i < t.size → byteN ((⟨#[45]⟩ : ByteArray) ++ t) (i + 1) = byteN t i := by
  intro i hi
  have hs : ((⟨#[45]⟩ : ByteArray) ++ t).size = 1 + t.size := ByteArray.size_append
  unfold byteN
  rw [dif_pos (by omega), dif_pos hi]
  congr 1
theorem neg_first {t : ByteArray} : byteN ((⟨#[45]⟩ : ByteArray) ++ t) 0 = 45 := by
  have hs : ((⟨#[45]⟩ : ByteArray) ++ t).size = 1 + t.size := ByteArray.size_append
  unfold byteN
  rw [dif_pos (by omega), ByteArray.getElem_append_left (by decide)]
  rfl
theorem neg_rest {t : ByteArray} : ((⟨#[45]⟩ : ByteArray) ++ t).extract 1 ((⟨#[45]⟩ : ByteArray) ++ t).size = t := by
  have hs : ((⟨#[45]⟩ : ByteArray) ++ t).size = 1 + t.size := ByteArray.size_append
  rw [hs]
  exact ByteArray.extract_append_eq_right rfl rfl
/-- a number's text is the number. -/
theorem num_ren (x : Int) : IsNum (ren x) ∧ valT (ren x) = x := by
  obtain ⟨h1, h2, h3, h4⟩ := tx_read x.natAbs
  have hp := tdig_pos x.natAbs
  have hs := tx_size x.natAbs
  have hb0 := tx_byte hp
  have hd := tdig_dg x.natAbs 0
  by_cases hx : x < 0
  · have e : ren x = ⟨#[45]⟩ ++ txt (textL 10 x.natAbs) := by unfold ren; rw [if_pos hx]
    have hsz : ((⟨#[45]⟩ : ByteArray) ++ txt (textL 10 x.natAbs)).size = 1 + (txt (textL 10 x.natAbs)).size := ByteArray.size_append
    have ht : ptext (ren x) = ren x := by
      unfold ptext
      rw [e, cutL_no (Or.inr (by rw [neg_first]; rfl))]
      refine cutR_no (Or.inr (whB_digit ?_))
      rw [show ((⟨#[45]⟩ : ByteArray) ++ txt (textL 10 x.natAbs)).size - 1 = ((tdig x.natAbs).length - 1) + 1 by omega, neg_byte _ (by omega), tx_byte (by omega)]
      omega
    have hn : pneg (ren x) = true := by
      unfold pneg
      rw [e, neg_first, decide_eq_true (show 0 < _ by omega)]; rfl
    have hbd : pbody (ptext (ren x)) = txt (textL 10 x.natAbs) := by
      rw [ht]; unfold pbody
      rw [e, if_pos ⟨by omega, Or.inl neg_first⟩, neg_rest]
    have hdg : pdig (txt (textL 10 x.natAbs)) = txt (textL 10 x.natAbs) := by unfold pdig; rw [if_pos h2]
    have hnat : natT (ren x) = x.natAbs := by unfold natT pbs pds; rw [hbd, hdg, h2]; exact h4
    refine ⟨by unfold IsNum pbs pds; rw [hbd, hdg, h2]; exact h3, ?_⟩
    unfold valT
    rw [ht, if_pos hn, hnat]; omega
  · have e : ren x = txt (textL 10 x.natAbs) := by unfold ren; rw [if_neg hx]
    have ht : ptext (ren x) = ren x := by unfold ptext; rw [e]; exact h1
    have hn : pneg (ren x) = false := by
      unfold pneg
      rw [e, hb0, decide_eq_false (show ¬ 48 + dg (tdig x.natAbs) 0 = 45 by omega), Bool.and_false]
    have hbd : pbody (ptext (ren x)) = txt (textL 10 x.natAbs) := by
      rw [ht, e]; unfold pbody
      rw [if_neg]
      rintro ⟨_, h5 | h5⟩ <;> rw [hb0] at h5 <;> omega
    have hdg : pdig (txt (textL 10 x.natAbs)) = txt (textL 10 x.natAbs) := by unfold pdig; rw [if_pos h2]
    have hnat : natT (ren x) = x.natAbs := by unfold natT pbs pds; rw [hbd, hdg, h2]; exact h4
    refine ⟨by unfold IsNum pbs pds; rw [hbd, hdg, h2]; exact h3, ?_⟩
    unfold valT
    rw [ht, hn, if_neg (by decide), hnat]; omega
theorem natT_ren (x : Int) : natT (ren x) = x.natAbs := by rw [← valT_abs, (num_ren x).2]
theorem ren_size {x : Int} (h : x.natAbs < Lim) : (ren x).size ≤ 601 := by
  have h1 : (textL 10 x.natAbs).length ≤ 600 := textL_lim.2 h
  unfold ren
  split
  · rw [ByteArray.size_append, txt_size]; show 1 + _ ≤ _; omega
  · rw [txt_size]; omega
end Go.Proofs.YtkpoegdcmnjedaaDoor
