import Derived.Test.YtkpoegdcmnjedaaDoorRG4
import Derived.Test.YtkpoegdcmnjedaaDoorRG3
import Derived.Test.YtkpoegdcmnjedaaDoorRG2
import Derived.Test.YtkpoegdcmnjedaaDoorSB3
namespace Go.Proofs.YtkpoegdcmnjedaaDoor
open Go.RowKit
set_option linter.unusedVariables false
set_option linter.unusedSimpArgs false

/-- the signs of digits up to base 36. -/
def lit36 : ByteArray := { data := #[48, 49, 50, 51, 52, 53, 54, 55, 56, 57, 97, 98, 99, 100, 101, 102, 103, 104, 105, 106, 107, 108, 109, 110, 111, 112, 113, 114, 115, 116, 117, 118, 119, 120, 121, 122] }
theorem lit36_at {d : Nat} (h : d < 36) : (lit36.extract d (d + 1)).data.toList = [UInt8.ofNat (digCh d)] := by
  have : ∀ d : Fin 36, (lit36.extract d.val (d.val + 1)).data.toList = [UInt8.ofNat (digCh d.val)] := by decide +kernel
  exact this ⟨d, h⟩
theorem lit36_cons {d : Nat} (h : d < 36) (l : List Nat) : lit36.extract d (d + 1) ++ txt l = txt (digCh d :: l) := by
  refine ByteArray.ext ?_
  apply Array.ext'
  rw [ByteArray.data_append, Array.toList_append, lit36_at h]
  show _ ++ (strOfNums _).data.toList = (strOfNums _).data.toList
  rw [strOfNums_data, strOfNums_data, List.map_cons, List.map_cons]
  have e : ∀ d : Nat, UInt8.ofNat ((d : Int)).toNat = UInt8.ofNat d := fun d => by rw [Int.toNat_natCast]
  rw [e (digCh d)]
  rfl
theorem lit36_size {d : Nat} (h : d < 36) : (lit36.extract d (d + 1)).size = 1 := by
  have h1 := lit36_at h
  have h2 : (lit36.extract d (d + 1)).data.toList.length = 1 := by rw [h1]; rfl
  rw [Array.length_toList] at h2
  exact h2
theorem lit36_slice {d : Nat} (h : d < 36) (wx : World) :
    (Instr.slice 9 (.string lit36) (some (.int .i64 (d : Int))) (some (.int .i64 ((d : Int) + 1))) none).run Tryd.prog wx = .ok (.string (lit36.extract d (d + 1))) wx := by
  have hz : lit36.size = 36 := rfl
  have := run_slice_string (P := Tryd.prog) wx 9 lit36 .i64 .i64 (d : Int) ((d : Int) + 1) Tryd.underlying9 (by omega) (by omega) (by rw [hz]; omega)
  have e : ((d : Int) + 1).toNat = d + 1 := by omega
  rw [Int.toNat_natCast, e] at this
  exact this
theorem dec_two {r : Nat} (h : r < 100) : dg (digs 10 r) 0 + 10 * dg (digs 10 r) 1 = r := by
  have h1 : (digs 10 r).length ≤ 2 := (digs_length_le (by decide)).2 h
  have h2 : V 10 (digs 10 r) 2 = val 10 (digs 10 r) := V_stop 2 h1
  rw [val_digs (by decide)] at h2
  simp only [V] at h2
  omega
theorem txR_step {l : List Nat} {b u k : Nat} (hb : 2 ≤ b) (hu : 0 < u) (h : l.drop k = digs b u) : k < l.length ∧ l.drop (k + 1) = digs b (u / b) ∧ txR l (k + 1) = digCh (u % b) :: txR l k := by
  have h1 : l.drop k = u % b :: digs b (u / b) := by rw [h, digs_pos hb hu]
  have hk : k < l.length := by
    have := congrArg List.length h1
    rw [List.length_drop, List.length_cons] at this
    omega
  have h2 := List.drop_eq_getElem_cons hk
  rw [h1] at h2
  injection h2 with e1 e2
  refine ⟨hk, e2.symm, ?_⟩
  unfold txR
  rw [List.take_succ_eq_append_getElem hk, List.map_append, List.reverse_append, ← e1]
  rfl
structure BaI (l : List Nat) (b B0 : Nat) (V wr : World) (t : ByteArray) (nv : Value) (k u : Nat) : Prop where
  kt : t = txt (txR l k)
  kl : k ≤ l.length
  dr : l.drop k = digs b u
  nu : nt u ≤ 600
  n : N B0 wr nv (digs 10 u)
  b : Below V.heap.size V wr
set_option maxRecDepth 100000 in
set_option maxHeartbeats 2000000 in
theorem ref_base_any (s : ByteArray) (base : Int) (W : World) (hs : s.size ≤ 2000000) : Calls Tryd.prog 54 #[.string s, .int .i64 base] W (BaQ s base W) := by
  go_enter Tryd.func54, Tryd.ntmps54
  go_wp2_with fail
  refine (ref_one_any s _ hs).mono ?_
  rintro e w2 ⟨m, ao, n, cap, er, rfl, hd, hb⟩
  have HD := Lib.hid hd
  have HB := Lib.hid hb
  clear hd hb
  rcases HD.out with ⟨h1, rfl⟩ | ⟨h1, rfl, hr⟩
  · go_wp2
    exact bodyPost_ret (v := .tuple #[.string ⟨#[]⟩, .int .i64 2]) (by simp [results, Tryd.results54, go_sem]) rfl ⟨_, 2, rfl, Or.inl ⟨h1, rfl, rfl⟩, HB.out.alloc HB.out.size _⟩
  · obtain ⟨x, hq, hx⟩ := hr
    have HQ := Lib.hid hq
    have HX := Lib.hid hx
    clear hq hx
    by_cases hb : 2 ≤ base ∧ base ≤ 36
    · obtain ⟨hb1, hb2⟩ := hb
      obtain ⟨b, rfl⟩ : ∃ b : Nat, base = (b : Int) := ⟨base.toNat, by omega⟩
      have hb3 : 2 ≤ b := by omega
      have hb4 : b ≤ 36 := by omega
      obtain ⟨V, hV, hbx, vb, vs⟩ := box2_new w2 (.bool m) (.slice ao n cap)
      have HQV := Lib.hid (HQ.out.later vb (Nat.le_refl _))
      have HVB := Lib.hid vb
      have c0 := hbx.c0
      have c1 := hbx.c1
      have HSB := Lib.hid (HB.out.size)
      have HWV : Hid (Below W.heap.size W V) := Lib.hid (HB.out.trans (vb.mono HB.out.size))
      clear hbx vb
      by_cases hL : Lim ≤ natT s
      · have HLX : Hid (Lim ≤ x.natAbs) := Lib.hid (by rcases HX.out with ⟨h, _⟩ | ⟨_, h, _⟩ <;> omega)
        have HLG : Hid (Calls Tryd.prog 86 #[numR m (.slice ao n cap)] V fun e W' => e = .returned (.bool true) ∧ Below V.heap.size V W') := Lib.hid (by
          have := ref_Long_any HQV.out
          rwa [decide_eq_true HLX.out] at this)
        go_upto_region 6 with (fail)
        rw [← hV]
        clear hV
        go_wp2_with (go_at_call 86; refine HLG.out.mono ?_; rintro e w3 ⟨rfl, hb3⟩; have HB3 := Lib.hid hb3; clear hb3)
        exact bodyPost_ret (v := .tuple #[.string ⟨#[]⟩, .int .i64 4]) (by simp [results, Tryd.results54, go_sem]) rfl ⟨_, 4, rfl, Or.inr (Or.inr (Or.inl ⟨h1, ⟨hb1, hb2⟩, hL, rfl, rfl⟩)), HWV.out.trans (HB3.out.mono (by have := HWV.out.size; omega))⟩
      · have hL2 : natT s < Lim := by omega
        have HXV : Hid (x = valT s) := Lib.hid (by rcases HX.out with ⟨_, h⟩ | ⟨h, _⟩; (exact h); (exact absurd hL2 (by omega)))
        have HXL : Hid (x.natAbs < Lim) := Lib.hid (by rw [HXV.out, valT_abs]; exact hL2)
        have HLG : Hid (Calls Tryd.prog 86 #[numR m (.slice ao n cap)] V fun e W' => e = .returned (.bool false) ∧ Below V.heap.size V W') := Lib.hid (by
          have := ref_Long_any HQV.out
          rwa [decide_eq_false (by have := HXL.out; omega)] at this)
        obtain ⟨l, HLL⟩ : ∃ l, Hid (digs b x.natAbs = l) := ⟨_, Lib.hid rfl⟩
        have HLN : Hid (l.length ≤ 100000) := Lib.hid (by
          rw [← HLL.out]
          have := nd_lim HXL.out
          have := digs_nd (N := x.natAbs) hb3
          omega)
        go_upto_region 6 with (fail)
        rw [← hV]
        clear hV
        go_wp2_with fail
        refine HLG.out.mono ?_
        rintro e w3 ⟨rfl, hb3'⟩
        have HB3 := Lib.hid hb3'
        have d0 := cell_after hb3' c0
        have d1 := cell_after hb3' c1
        have HC0 := Lib.hid c0
        clear hb3' c0 c1
        obtain ⟨ao', n', cap', e, hnn⟩ := HQV.out
        simp only [numR, Value.agg.injEq, Array.mk.injEq, List.cons.injEq, Value.bool.injEq, Value.slice.injEq] at e
        obtain ⟨hsg, ⟨rfl, rfl, rfl⟩, -⟩ := e
        have HSG := Lib.hid hsg
        have HI0 : Hid (BaI l b W.heap.size V w3 ⟨#[]⟩ (.slice ao n cap) 0 x.natAbs) := Lib.hid ⟨rfl, Nat.zero_le _, by rw [← HLL.out]; rfl, nt_lim'.2 HXL.out, hnn.later HB3.out (Nat.le_refl _), HB3.out⟩
        clear hsg hnn HX
        go_wp2
        go_loopw [8, 9] (fun tv nv wr => ∃ (t : ByteArray) (k u : Nat), tv = .string t ∧ t.size ≤ l.length ∧ Hid (BaI l b W.heap.size V wr t nv k u)) (fun tv _ _ => match tv with | .string t => l.length - t.size | _ => 0)
        case atStart => exact ⟨_, 0, _, rfl, Nat.zero_le _, HI0⟩
        case round =>
          obtain ⟨t, k, u, rfl, htl, hi⟩ := hrel
          obtain ⟨a9, n9, c9, rfl⟩ := hi.out.n.slice3
          have hn9 : n9 = nt u := hi.out.n.len
          have hln := HLN.out
          have hbw := hi.out.b.size
          have hwv := HWV.out.size
          by_cases hu : u = 0
          · have hk : k = l.length := by
              have h2 := congrArg List.length hi.out.dr
              rw [hu, digs_zero, List.length_drop] at h2
              have := hi.out.kl
              simp at h2
              omega
            have hn0 : n9 = 0 := by rw [hn9, hu]; exact nt_zero
            have ht : t = txt (txR l l.length) := by rw [← hk]; exact hi.out.kt
            have e0 := cell_after hi.out.b HC0.out
            clear hn9
            subst hn0
            by_cases hx0 : x = 0
            · have hl0 : l = [] := by rw [← HLL.out, hx0]; exact digs_zero b
              have ht0 : t = ⟨#[]⟩ := by rw [ht, hl0]; rfl
              have HR : Hid (⟨#[48]⟩ = renB (b : Int).toNat (valT s)) := Lib.hid (by
                rw [Int.toNat_natCast, ← HXV.out, hx0]
                unfold renB
                rw [if_neg (by omega)]
                show _ = txt (textL b 0)
                unfold textL
                rw [if_pos rfl]
                decide +kernel)
              clear ht
              subst ht0
              go_wp2
              exact bodyPost_ret (v := .tuple #[.string ⟨#[48]⟩, .int .i64 0]) (by simp [results, Tryd.results54, go_sem]) rfl ⟨_, 0, rfl, Or.inr (Or.inr (Or.inr ⟨h1, ⟨by omega, by omega⟩, hL2, HR.out, rfl⟩)), HWV.out.trans (hi.out.b.mono hwv)⟩
            · have htx : t = txt (textL b x.natAbs) := by
                rw [ht]
                unfold txR textL
                rw [if_neg (by omega), HLL.out, List.take_length]
              have hts : ¬ t.size = 0 := by
                rw [ht, txt_size]
                have h3 : (txR l l.length).length = l.length := by simp [txR]
                rw [h3]
                intro h4
                have h5 : l = [] := List.length_eq_zero_iff.1 h4
                rw [← HLL.out] at h5
                have := (digs_eq_nil hb3).1 h5
                omega
              have hne : t.toList.isEmpty = false := list_full hts
              have hne2 : ¬ t.toList = [] := list_full2 hts
              have hts2 : 1 + t.size ≤ 9223372036854775807 := by omega
              have HR : Hid (renB (b : Int).toNat (valT s) = if m = true then ⟨#[45]⟩ ++ t else t) := Lib.hid (by
                unfold renB
                rw [Int.toNat_natCast, ← HXV.out, ← htx, HSG.out]
                by_cases h : x < 0
                · rw [if_pos h, if_pos (decide_eq_true h)]
                · rw [if_neg h, if_neg (by rw [decide_eq_false h]; decide)])
              clear ht htx hk
              cases m
              · have HR2 : Hid (renB (b : Int).toNat (valT s) = t) := Lib.hid (HR.out.trans (if_neg (by decide)))
                go_wp2
                exact bodyPost_ret (v := .tuple #[.string t, .int .i64 0]) (by simp [results, Tryd.results54, go_sem]) rfl ⟨_, 0, rfl, Or.inr (Or.inr (Or.inr ⟨h1, ⟨by omega, by omega⟩, hL2, HR2.out.symm, rfl⟩)), HWV.out.trans (hi.out.b.mono hwv)⟩
              · have HR2 : Hid (renB (b : Int).toNat (valT s) = ⟨#[45]⟩ ++ t) := Lib.hid (HR.out.trans (if_pos rfl))
                go_wp2
                exact bodyPost_ret (v := .tuple #[.string (⟨#[45]⟩ ++ t), .int .i64 0]) (by simp [results, Tryd.results54, go_sem]) rfl ⟨_, 0, rfl, Or.inr (Or.inr (Or.inr ⟨h1, ⟨by omega, by omega⟩, hL2, HR2.out.symm, rfl⟩)), HWV.out.trans (hi.out.b.mono hwv)⟩
          · have hnp : 0 < n9 := by
              rw [hn9]
              exact Nat.pos_of_ne_zero fun e => hu ((digs_eq_nil (b := 10) (by decide)).1 (List.length_eq_zero_iff.1 e))
            have HST := Lib.hid (txR_step hb3 (Nat.pos_of_ne_zero hu) hi.out.dr)
            obtain ⟨d, HDD⟩ : ∃ d, Hid (u % b = d) := ⟨_, Lib.hid rfl⟩
            have hd36 : d < 36 := by have := Nat.mod_lt u (show 0 < b by omega); have := HDD.out; omega
            have HTZ : Hid (t.size = k ∧ k < l.length) := Lib.hid ⟨by rw [hi.out.kt, txt_size]; exact txR_length hi.out.kl, HST.out.1⟩
            clear hn9
            go_wp2_with fail
            refine (ref_natOf_any b _ (by omega)).mono ?_
            rintro e w4 ⟨⟨v4, rfl, hn4⟩, hb4⟩
            have HB4 := Lib.hid hb4
            have HN4 := Lib.hid hn4
            clear hb4 hn4
            go_wp2_with fail
            refine (ref_divided_any (hi.out.n.later HB4.out (Nat.le_refl _)) HN4.out (by have := hi.out.nu; omega) (by have : nt b ≤ 2 := (digs_length_le (by decide)).2 (by omega); omega) (by omega)).mono ?_
            rintro e w5 ⟨⟨v1, v2, rfl, hq5, hr5⟩, hb5⟩
            rw [HDD.out] at hr5
            have HQ5 := Lib.hid hq5
            have HR5 := Lib.hid hr5
            have HB5 := Lib.hid hb5
            clear hq5 hr5 hb5
            have HDG0 : Hid (Calls Tryd.prog 105 #[v2, .int .i64 0] w5 fun e w' => e = .returned (.int .i64 (dg (digs 10 d) 0 : Int)) ∧ w5 = w') := Lib.hid (ref_digit_any HR5.out 0 (by omega))
            have HDG1 : Hid (Calls Tryd.prog 105 #[v2, .int .i64 1] w5 fun e w' => e = .returned (.int .i64 (dg (digs 10 d) 1 : Int)) ∧ w5 = w') := Lib.hid (ref_digit_any HR5.out 1 (by omega))
            have hz0 := digs_dig (b := 10) (by decide) d 0
            have hz1 := digs_dig (b := 10) (by decide) d 1
            have hdz := dec_two (r := d) (by omega)
            generalize dg (digs 10 d) 0 = z0 at HDG0 hz0 hdz
            generalize dg (digs 10 d) 1 = z1 at HDG1 hz1 hdz
            go_upto_region 13 with (go_at_call 105; (first | (with_reducible refine HDG0.out.mono ?_) | (with_reducible refine HDG1.out.mono ?_)); rintro e w6 ⟨rfl, rfl⟩)
            have e12 : (z0 : Int) + 10 * (z1 : Int) = (d : Int) := by omega
            try rw [e12]
            have hsz : (({ data := #[48, 49, 50, 51, 52, 53, 54, 55, 56, 57, 97, 98, 99, 100, 101, 102, 103, 104, 105, 106, 107, 108, 109, 110, 111, 112, 113, 114, 115, 116, 117, 118, 119, 120, 121, 122] } : ByteArray).extract d (d + 1)).size + t.size ≤ 9223372036854775807 := by
              have := lit36_size hd36
              show (lit36.extract d (d + 1)).size + t.size ≤ _
              omega
            have hsl := lit36_slice hd36
            unfold lit36 at hsl
            go_wp2
            go_roundw
            case rel =>
              refine ⟨_, k + 1, u / b, rfl, ?_, Lib.hid ⟨?_, ?_, HST.out.2.1, ?_, HQ5.out.mono (by have := HB4.out.size; omega), ?_⟩⟩
              · show (lit36.extract d (d + 1) ++ t).size ≤ l.length
                rw [ByteArray.size_append, lit36_size hd36]
                have := HTZ.out
                omega
              · show lit36.extract d (d + 1) ++ t = _
                rw [HST.out.2.2, HDD.out, hi.out.kt]
                exact lit36_cons hd36 _
              · have := HTZ.out.2; omega
              · exact Nat.le_trans ((digs_length_le (by decide)).2 (Nat.lt_of_le_of_lt (Nat.div_le_self _ _) ((digs_length_le (by decide)).1 (Nat.le_refl _)))) hi.out.nu
              · exact (hi.out.b.trans (HB4.out.mono hbw)).trans (HB5.out.mono (by have := HB4.out.size; omega))
            case measure =>
              show l.length - (lit36.extract d (d + 1) ++ t).size < l.length - t.size
              rw [ByteArray.size_append, lit36_size hd36]
              have := HTZ.out
              omega
    · have HNB := Lib.hid hb
      have hc : base < 2 ∨ (decide (base < 2) = false ∧ 36 < base) := by
        by_cases h : base < 2
        · exact Or.inl h
        · exact Or.inr ⟨by simpa using h, by omega⟩
      clear hb
      rcases hc with hc | ⟨hc, hc2⟩
      all_goals
        go_wp2
        exact bodyPost_ret (v := .tuple #[.string ⟨#[]⟩, .int .i64 7]) (by simp [results, Tryd.results54, go_sem]) rfl ⟨_, 7, rfl, Or.inr (Or.inl ⟨h1, HNB.out, rfl, rfl⟩), HB.out.alloc HB.out.size _⟩
end Go.Proofs.YtkpoegdcmnjedaaDoor
