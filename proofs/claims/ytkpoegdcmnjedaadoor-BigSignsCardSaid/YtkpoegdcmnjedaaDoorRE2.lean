import Derived.Test.YtkpoegdcmnjedaaDoorRD5
namespace Go.Proofs.YtkpoegdcmnjedaaDoor
open Go.RowKit
set_option linter.unusedVariables false
set_option linter.unusedSimpArgs false

/-- a Num in memory. -/
def Qn (B : Nat) (W : World) (v : Value) (x : Int) : Prop := ∃ ao n cap, v = numR (decide (x < 0)) (.slice ao n cap) ∧ N B W (.slice ao n cap) (digs 10 x.natAbs)
theorem Qn.later {B k : Nat} {W W' : World} {v : Value} {x : Int} (h : Qn B W v x) (hb : Below k W W') (hk : W.heap.size ≤ k) : Qn B W' v x := by
  obtain ⟨ao, n, cap, h1, h2⟩ := h
  exact ⟨ao, n, cap, h1, h2.later hb hk⟩
theorem Qn.mono {B B' : Nat} {W : World} {v : Value} {x : Int} (h : Qn B W v x) (hb : B' ≤ B) : Qn B' W v x := by
  obtain ⟨ao, n, cap, h1, h2⟩ := h
  exact ⟨ao, n, cap, h1, h2.mono hb⟩
theorem Qn.set {B : Nat} {W : World} {v : Value} {x : Int} (h : Qn B W v x) {b : Nat} (hb : b < B) (j : Nat) (y : Value) : Qn B (W.setCell ⟨b, j, none⟩ y) v x := by
  obtain ⟨ao, n, cap, h1, h2⟩ := h
  exact ⟨ao, n, cap, h1, h2.setOther hb j y⟩
theorem Qn.mk {B : Nat} {W : World} {ao : Option Addr} {n cap : Nat} {k : Bool} {a : Nat} {x : Int} (h : N B W (.slice ao n cap) (digs 10 a)) (ha : x.natAbs = a) (hk : a ≠ 0 → k = decide (x < 0)) :
    Qn B W (numR (k && decide (0 < n)) (.slice ao n cap)) x := by
  refine ⟨ao, n, cap, ?_, by rw [ha]; exact h⟩
  have e : (k && decide (0 < n)) = decide (x < 0) := by
    have hlen : n = nt a := h.len
    by_cases h0 : a = 0
    · have h1 : n = 0 := by rw [hlen, h0]; exact nt_zero
      have h2 : x = 0 := by omega
      simp [h1, h2]
    · have h1 : 0 < n := by
        rw [hlen]; exact Nat.pos_of_ne_zero fun e => h0 ((digs_eq_nil (b := 10) (by decide)).1 (List.length_eq_zero_iff.1 e))
      rw [hk h0]; simp [h1]
  rw [e]
theorem nt_iff {n k : Nat} : nt n ≤ k ↔ n < 10 ^ k := digs_length_le (by decide)
theorem nt_lim' {n : Nat} : nt n ≤ 600 ↔ n < Lim := by
  unfold Lim
  exact nt_iff (n := n) (k := 600)
theorem lim_pos : 0 < Lim := by unfold Lim; decide +kernel
theorem nt_lim {n : Nat} : 600 < nt n ↔ Lim ≤ n := by
  have h := nt_lim' (n := n)
  omega
theorem Qn.parts {B : Nat} {W : World} {v : Value} {x : Int} (h : Qn B W v x) : ∃ m a n p, v = numR m (.slice a n p) ∧ Qn B W (numR m (.slice a n p)) x ∧ N B W (.slice a n p) (digs 10 x.natAbs) ∧ m = decide (x < 0) ∧ n = nt x.natAbs := by
  have h' := h
  obtain ⟨ao, n, cap, rfl, hn⟩ := h'
  exact ⟨_, _, _, _, rfl, h, hn, rfl, hn.len⟩
/-- a text's number as the reference reads it: of one that is too long another one that is too long, with its sign. -/
def Rn (B : Nat) (s : ByteArray) (W : World) (v : Value) : Prop := ∃ x, Qn B W v x ∧ ((natT s < Lim ∧ x = valT s) ∨ (Lim ≤ natT s ∧ Lim ≤ x.natAbs ∧ decide (x < 0) = decide (valT s < 0) ∧ x.natAbs ≤ natT s))
theorem Rn.later {B k : Nat} {s : ByteArray} {W W' : World} {v : Value} (h : Rn B s W v) (hb : Below k W W') (hk : W.heap.size ≤ k) : Rn B s W' v := by
  obtain ⟨x, h1, h2⟩ := h
  exact ⟨x, h1.later hb hk, h2⟩
theorem lim_big {u : Nat} (h : 1200 < nt u) : Lim ≤ u := nt_lim.1 (by omega)
theorem NbQ.read {s : ByteArray} {W W' : World} {e : Ending} (h : NbQ s W e W') :
    ∃ m ao n cap ok, e = .returned (.tuple #[numR m (.slice ao n cap), .bool ok]) ∧ (ok = true ↔ IsNum s) ∧ (IsNum s → Rn (W.heap.size + 1) s W' (numR m (.slice ao n cap))) ∧ Below W.heap.size W W' := by
  obtain ⟨m, ao, n, cap, ok, he, hok, hd, hb⟩ := h
  refine ⟨m, ao, n, cap, ok, he, hok, fun hi => ?_, hb⟩
  obtain ⟨u, hu, hm, hx⟩ := hd hi
  refine ⟨if pneg (ptext s) = true then -(u : Int) else (u : Int), ?_, ?_⟩
  · rw [hm]
    refine Qn.mk (a := u) hu (by split <;> omega) ?_
    intro h0
    cases pneg (ptext s)
    · rw [if_neg (by decide)]; symm; rw [decide_eq_false_iff_not]; omega
    · rw [if_pos rfl]; symm; rw [decide_eq_true_eq]; omega
  · have hv : valT s = if pneg (ptext s) = true then -(natT s : Int) else (natT s : Int) := rfl
    have hL := lim_pos
    by_cases hl : natT s < Lim
    · left
      refine ⟨hl, ?_⟩
      have he : u = natT s := by
        rcases hx with h | ⟨h1, h2⟩
        · exact h
        · have := lim_big h1; omega
      rw [hv, he]
    · right
      have hl2 : Lim ≤ u := by
        rcases hx with h | ⟨h1, h2⟩
        · omega
        · exact lim_big h1
      have hz : ∀ b : Bool, decide ((if b = true then -(u : Int) else (u : Int)) < 0) = decide ((if b = true then -(natT s : Int) else (natT s : Int)) < 0) := fun b => by
        cases b
        · rw [if_neg (by decide), if_neg (by decide), decide_eq_false (by omega), decide_eq_false (by omega)]
        · rw [if_pos rfl, if_pos rfl, decide_eq_true (by omega), decide_eq_true (by omega)]
      have hu : u ≤ natT s := by rcases hx with h | ⟨_, h⟩ <;> omega
      exact ⟨by omega, by split <;> omega, by rw [hv]; exact hz _, by split <;> omega⟩

set_option maxHeartbeats 400000 in
theorem ref_Long_any {B : Nat} {W : World} {v : Value} {x : Int} (h : Qn B W v x) : Calls Tryd.prog 86 #[v] W fun e W' => e = .returned (.bool (decide (Lim ≤ x.natAbs))) ∧ Below W.heap.size W W' := by
  obtain ⟨m, a, n, p, rfl, _, _, _, hn⟩ := h.parts
  obtain ⟨r, HR⟩ : ∃ r, Hid (decide (Lim ≤ x.natAbs) = r) := ⟨_, Lib.hid rfl⟩
  rw [HR.out]
  have hr : Hid (decide ((600 : Int) < (n : Int)) = r) := Lib.hid (by
    rw [← HR.out, Bool.eq_iff_iff, decide_eq_true_eq, decide_eq_true_eq, ← nt_lim]; omega)
  clear hn h
  go_enter Tryd.func86, Tryd.ntmps86
  go_wp2
  go_ret
  exact ⟨by rw [← hr.out] <;> rfl, (Below.refl _ _).alloc (Nat.le_refl _) _⟩
theorem dec_small {d : Nat} (h : d < 10) : Lib.decDigits d = [UInt8.ofNat (48 + d)] := by
  have : ∀ d : Fin 10, Lib.decDigits d.val = [UInt8.ofNat (48 + d.val)] := by decide +kernel
  exact this ⟨d, h⟩
theorem txt_cons {d : Nat} (h : d < 10) (l : List Nat) : (⟨(Lib.decDigits d).toArray⟩ : ByteArray) ++ txt l = txt ((48 + d) :: l) := by
  rw [dec_small h]
  refine ByteArray.ext ?_
  apply Array.ext'
  rw [ByteArray.data_append, Array.toList_append]
  show _ ++ (strOfNums _).data.toList = (strOfNums _).data.toList
  rw [strOfNums_data, strOfNums_data, List.map_cons, List.map_cons]
  have e : ∀ d : Nat, UInt8.ofNat ((d : Int)).toNat = UInt8.ofNat d := fun d => by rw [Int.toNat_natCast]
  rw [e (48 + d)]
  rfl
/-- the digits' signs of the first k digits, the last one first. -/
def txR (l : List Nat) (k : Nat) : List Nat := ((l.take k).map digCh).reverse
theorem txR_succ {l : List Nat} {k : Nat} (hd : Dig 10 l) (hk : k < l.length) : txR l (k + 1) = (48 + dg l k) :: txR l k := by
  unfold txR
  rw [List.take_succ_eq_append_getElem hk, List.map_append, List.reverse_append]
  have e : dg l k = l[k] := by simp [dg, hk]
  have h := hd k
  rw [e] at h
  rw [e]
  simp [digCh, h]
theorem txR_full {n : Nat} (hn : n ≠ 0) : txR (digs 10 n) (nt n) = textL 10 n := by
  unfold txR textL
  rw [if_neg hn]
  show (((digs 10 n).take (digs 10 n).length).map digCh).reverse = _
  rw [List.take_length]
theorem txR_length {l : List Nat} {k : Nat} (hk : k ≤ l.length) : (txR l k).length = k := by simp [txR, hk]

set_option maxHeartbeats 1000000 in
theorem ref_Text_any {B : Nat} {W : World} {v : Value} {x : Int} (h : Qn B W v x) (hx : nt x.natAbs ≤ 1000000) : Calls Tryd.prog 79 #[v] W fun e W' => e = .returned (.string (ren x)) ∧ Below W.heap.size W W' := by
  obtain ⟨m, a, n, p, rfl, _, hm, hs, hn⟩ := h.parts
  obtain ⟨l, HL⟩ : ∃ l, Hid (digs 10 x.natAbs = l) := ⟨_, Lib.hid rfl⟩
  rw [HL.out] at hm
  obtain rfl := hm.len
  have hll : l.length ≤ 1000000 := by rw [← HL.out]; exact hx
  have DL : Hid (Dig 10 l) := Lib.hid (by rw [← HL.out]; exact digs_dig (by decide) _)
  have HM := Lib.hid hm
  have HS := Lib.hid hs
  obtain ⟨r, HR⟩ : ∃ r, Hid (ren x = r) := ⟨_, Lib.hid rfl⟩
  rw [HR.out]
  obtain ⟨V, hV, hbox, vb, vs⟩ := box2_new W (.bool m) (.slice a l.length p)
  have HBX := Lib.hid hbox
  have HVB := Lib.hid vb
  have HMV := Lib.hid (hm.later vb (Nat.le_refl _))
  have c0 := hbox.c0
  have c1 := hbox.c1
  clear hbox vb hm hs hn h hx
  go_enter Tryd.func79, Tryd.ntmps79
  go_upto_region 1 with (fail)
  rw [← hV]
  clear hV
  go_wp2
  go_loop [3, 9] (fun ov iv => ∃ k : Nat, k ≤ l.length ∧ iv = .int .i64 k ∧ ov = .string (txt (txR l k))) (fun _ iv => l.length - (intOf iv).toNat)
  case atStart => exact ⟨0, Nat.zero_le _, rfl, rfl⟩
  case round =>
    obtain ⟨k, hk, rfl, rfl⟩ := hrel
    by_cases hlt : k < l.length
    · obtain ⟨g, rfl, _, hg⟩ := HMV.out.block (show 0 < l.length by omega)
      have hcell := HMV.out.cell hlt
      have hd := DL.out k
      have HT := Lib.hid (txR_succ DL.out hlt)
      obtain ⟨d, HD⟩ : ∃ d, Hid (dg l k = d) := ⟨_, Lib.hid rfl⟩
      rw [HD.out] at hcell hd HT
      obtain ⟨y, HY⟩ : ∃ y : ByteArray, Hid (y = ⟨(Lib.decDigits d).toArray⟩) := ⟨_, Lib.hid rfl⟩
      have HC : Hid (∀ w, Calls Tryd.prog 97 #[.int .i64 d] w fun e w' => e = .returned (.string y) ∧ w' = w) := Lib.hid fun w => by rw [HY.out]; exact Tryd.strconv_Itoa_small d (by omega) w
      have HX : Hid (y ++ txt (txR l k) = txt (txR l (k + 1))) := Lib.hid (by rw [HY.out, txt_cons hd, HT.out])
      have hy : y.size = 1 := by rw [HY.out, dec_small hd]; rfl
      have hk2 : 1 + k ≤ 9223372036854775807 := by omega
      have hsz := txt_size (txR l k)
      rw [txR_length hk] at hsz
      go_wp2_with (go_at_call 97; refine (HC.out _).mono ?_; rintro e w1 ⟨rfl, hw⟩; subst hw)
      exact ⟨⟨k + 1, by omega, by go_num, by rw [HX.out]⟩, by simp [intOf]; omega⟩
    · obtain rfl : k = l.length := by omega
      have hrn : ren x = if m = true then ⟨#[45]⟩ ++ txt (textL 10 x.natAbs) else txt (textL 10 x.natAbs) := by
        unfold ren
        rw [HS.out]
        by_cases hx0 : x < 0
        · rw [if_pos hx0, if_pos (decide_eq_true hx0)]
        · rw [if_neg hx0, if_neg (by rw [decide_eq_false hx0]; decide)]
      have hsz := txt_size (txR l l.length)
      rw [txR_length (Nat.le_refl _)] at hsz
      by_cases h0 : l.length = 0
      · have hl : l = [] := List.length_eq_zero_iff.1 h0
        have hx0 : x.natAbs = 0 := (digs_eq_nil (b := 10) (by decide)).1 (HL.out.trans hl)
        have hm0 : m = false := by rw [HS.out, decide_eq_false_iff_not]; omega
        have HE : Hid ((⟨#[48]⟩ : ByteArray) = r) := Lib.hid (by rw [← HR.out, hrn, hm0, if_neg (by decide), hx0]; rfl)
        have he3 : (txt (txR l l.length)).toList = [] := list_empty (by rw [hsz]; exact h0)
        have he2 : (txt (txR l l.length)).toList.isEmpty = true := by rw [he3]; rfl
        clear hrn hsz h0 hl hx0
        go_wp2
        go_ret
        exact ⟨by rw [← HE.out] <;> rfl, HVB.out⟩
      · have hx0 : x.natAbs ≠ 0 := fun e => h0 (by rw [← HL.out, e, digs_zero]; rfl)
        have hT : txR l l.length = textL 10 x.natAbs := by
          rw [← txR_full hx0, HL.out]; unfold nt; rw [HL.out]
        obtain ⟨o, HO⟩ : ∃ o, Hid (txt (txR l l.length) = o) := ⟨_, Lib.hid rfl⟩
        rw [HO.out] at hsz ⊢
        rw [← hT, HO.out] at hrn
        have hne : o.toList.isEmpty = false := list_full (by omega)
        have hne2 : ¬ o.toList = [] := list_full2 (by omega)
        have hso : o.size ≤ 1000000 := by omega
        have hso2 : 1 + o.size ≤ 9223372036854775807 := by omega
        clear hT hx0 hsz h0
        cases m
        · have HE : Hid (o = r) := Lib.hid (by rw [← HR.out, hrn, if_neg (by decide)])
          clear hrn
          go_wp2
          go_ret
          exact ⟨by rw [← HE.out] <;> rfl, HVB.out⟩
        · have HE : Hid ((⟨#[45]⟩ : ByteArray) ++ o = r) := Lib.hid (by rw [← HR.out, hrn, if_pos rfl])
          clear hrn
          go_wp2
          go_ret
          exact ⟨by rw [← HE.out] <;> rfl, HVB.out⟩
end Go.Proofs.YtkpoegdcmnjedaaDoor
namespace Go.Proofs.YtkpoegdcmnjedaaDoor
open Go.RowKit
set_option linter.unusedVariables false
set_option linter.unusedSimpArgs false

set_option maxHeartbeats 1000000 in
/-- told of a number alone. -/
theorem ref_told_nil {B : Nat} {W : World} {v : Value} {x : Int} (h : Qn B W v x) : Calls Tryd.prog 61 #[v, .slice none 0 0] W fun e W' => e = .returned (.tuple #[.string (toldS x), .int .i64 (toldE x)]) ∧ Below W.heap.size W W' := by
  obtain ⟨m, a, n, p, rfl, hq, -, -, -⟩ := h.parts
  obtain ⟨V, hV, hbox, vb, vs⟩ := box2_new W (.bool m) (.slice a n p)
  have HBX := Lib.hid hbox
  have HVB := Lib.hid vb
  have HQ := Lib.hid (hq.later vb (Nat.le_refl _))
  have c0 := hbox.c0
  have c1 := hbox.c1
  clear hbox vb hq h
  by_cases hl : x.natAbs < Lim
  · have HS : Hid (toldS x = ren x ∧ toldE x = 0) := Lib.hid (by unfold toldS toldE; rw [if_pos hl, if_pos hl]; exact ⟨rfl, rfl⟩)
    rw [HS.out.1, HS.out.2]
    have HL : Hid (∀ w v, Qn B w v x → Calls Tryd.prog 86 #[v] w fun e W' => e = .returned (.bool false) ∧ Below w.heap.size w W') := Lib.hid fun w v h => by
      have := ref_Long_any h
      rwa [decide_eq_false (by omega)] at this
    have HNT : Hid (nt x.natAbs ≤ 1000000) := Lib.hid (by have := nt_lim' (n := x.natAbs); omega)
    clear hl
    go_enter Tryd.func61, Tryd.ntmps61
    go_upto_region 1 with (fail)
    rw [← hV]
    clear hV
    go_wp2
    refine wp_loop_rounds 1 ?_
    rw [rounds_succ]
    go_wp2_with (first | (go_at_call 86; refine (HL.out _ _ HQ.out).mono ?_; rintro e w2 ⟨rfl, hb2⟩; have HB2 := Lib.hid hb2; have d0 := cell_after hb2 c0; have d1 := cell_after hb2 c1; have HQ2 := Lib.hid (HQ.out.later hb2 (Nat.le_refl _)); clear hb2) | (go_at_call 79; refine (ref_Text_any HQ2.out HNT.out).mono ?_; rintro e w3 ⟨rfl, hb3⟩; have HB3 := Lib.hid hb3; clear hb3))
    go_ret2
    exact ⟨rfl, (HVB.out.trans (HB2.out.mono (by omega))).trans (HB3.out.mono (by have := HB2.out.size; omega))⟩
  · have HS : Hid (toldS x = ⟨#[]⟩ ∧ toldE x = 4) := Lib.hid (by unfold toldS toldE; rw [if_neg hl, if_neg hl]; exact ⟨rfl, rfl⟩)
    rw [HS.out.1, HS.out.2]
    have HL : Hid (∀ w v, Qn B w v x → Calls Tryd.prog 86 #[v] w fun e W' => e = .returned (.bool true) ∧ Below w.heap.size w W') := Lib.hid fun w v h => by
      have := ref_Long_any h
      rwa [decide_eq_true (by omega)] at this
    clear hl
    go_enter Tryd.func61, Tryd.ntmps61
    go_upto_region 1 with (fail)
    rw [← hV]
    clear hV
    go_wp2
    refine wp_loop_rounds 1 ?_
    rw [rounds_succ]
    go_wp2_with (go_at_call 86; refine (HL.out _ _ HQ.out).mono ?_; rintro e w2 ⟨rfl, hb2⟩; have HB2 := Lib.hid hb2; clear hb2)
    go_ret2
    exact ⟨rfl, HVB.out.trans (HB2.out.mono (by omega))⟩

set_option maxHeartbeats 1000000 in
theorem ref_canonical_any (s : ByteArray) (W : World) (hs : s.size ≤ 2000000) : Calls Tryd.prog 14 #[.string s] W (OneQ (fun x => x) s W) := by
  go_enter Tryd.func14, Tryd.ntmps14
  go_wp2_with fail
  refine (ref_Number_any s _ hs).mono ?_
  rintro e w2 hq
  obtain ⟨m, ao, n, cap, ok, rfl, hok, hr, hb⟩ := hq.read
  have HOK := Lib.hid hok
  have HR := Lib.hid hr
  have HB := Lib.hid hb
  clear hok hr hb hq
  cases ok
  · have HN : Hid (¬ IsNum s) := Lib.hid fun h => by have := HOK.out.2 h; cases this
    go_wp2
    exact bodyPost_ret (v := .tuple #[.string ⟨#[]⟩, .int .i64 2]) (by simp [results, Tryd.results14, go_sem]) rfl ⟨_, 2, rfl, Or.inl ⟨HN.out, rfl, rfl⟩, HB.out.alloc (HB.out.size) _⟩
  · have HI : Hid (IsNum s) := Lib.hid (HOK.out.1 rfl)
    obtain ⟨x, hx1, hx2⟩ := HR.out HI.out
    have HX1 := Lib.hid hx1
    have HX2 := Lib.hid hx2
    clear hx1 hx2
    go_wp2_with (go_at_call 61; refine (ref_told_nil (HX1.out.later ((Below.refl _ _).alloc (Nat.le_refl _) _) (Nat.le_refl _))).mono ?_; rintro e w3 ⟨rfl, hb3⟩; have HB3 := Lib.hid hb3; clear hb3)
    refine bodyPost_ret (v := .tuple #[.string (toldS x), .int .i64 (toldE x)]) (by simp [results, Tryd.results14, go_sem]) rfl ⟨_, _, rfl, ?_, (HB.out.alloc HB.out.size _).trans (HB3.out.mono (by have := HB.out.size; simp; omega))⟩
    rcases HX2.out with ⟨h1, h2⟩ | ⟨h1, h2, h3⟩
    · subst h2
      exact Or.inr (Or.inr ⟨HI.out, h1, rfl, rfl⟩)
    · have h4 : ¬ x.natAbs < Lim := by omega
      refine Or.inr (Or.inl ⟨HI.out, h1, ?_, ?_⟩)
      · unfold toldS; rw [if_neg h4]
      · unfold toldE; rw [if_neg h4]
set_option maxHeartbeats 1000000 in
theorem ref_valid_any (s : ByteArray) (W : World) (hs : s.size ≤ 2000000) [Decidable (IsNum s)] : Calls Tryd.prog 16 #[.string s] W fun e W' => e = .returned (.bool (decide (IsNum s ∧ natT s < Lim))) ∧ Below W.heap.size W W' := by
  obtain ⟨o, HO⟩ : ∃ b, Hid (decide (IsNum s ∧ natT s < Lim) = b) := ⟨_, Lib.hid rfl⟩
  rw [HO.out]
  go_enter Tryd.func16, Tryd.ntmps16
  go_wp2_with (go_at_call 14; refine (ref_canonical_any s _ hs).mono ?_; rintro e w2 ⟨r, er, rfl, hd, hb⟩; have HD := Lib.hid hd; have HB := Lib.hid hb; clear hd hb)
  go_ret
  refine ⟨?_, HB.out⟩
  have h4 : ((4 : Int) == 0) = false := rfl
  have h2 : ((2 : Int) == 0) = false := rfl
  rcases HD.out with ⟨h1, _, rfl⟩ | ⟨h1, h2, _, rfl⟩ | ⟨h1, h2, _, he⟩
  · have hh : decide (IsNum s ∧ natT s < Lim) = false := by rw [decide_eq_false_iff_not]; exact fun h => h1 h.1
    rw [← HO.out, hh]; rfl
  · have hh : decide (IsNum s ∧ natT s < Lim) = false := by rw [decide_eq_false_iff_not]; exact fun h => by have := h.2; omega
    rw [← HO.out, hh]; rfl
  · have hh : decide (IsNum s ∧ natT s < Lim) = true := by rw [decide_eq_true_eq]; exact ⟨h1, h2⟩
    have hE : toldE (valT s) = 0 := by unfold toldE; rw [if_pos (by rw [valT_abs]; exact h2)]
    rw [hE] at he
    subst he
    rw [← HO.out, hh]; rfl
end Go.Proofs.YtkpoegdcmnjedaaDoor
