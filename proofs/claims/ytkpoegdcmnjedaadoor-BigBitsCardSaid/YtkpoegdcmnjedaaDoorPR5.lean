import Derived.Test.YtkpoegdcmnjedaaDoorPR3
import Derived.Test.YtkpoegdcmnjedaaDoorPM2
namespace Go.Proofs.YtkpoegdcmnjedaaDoor
open Go.RowKit
set_option linter.unusedVariables false
set_option linter.unusedSimpArgs false

/-! ### rows of bools; of -/
def Bools (l : List Bool) : List Value := l.map Value.bool
def Bo (B : Nat) (W : World) (v : Value) (l : List Bool) : Prop := W.ownsRow B 4 1 v l.length (Bools l)
theorem Bo.later {B k : Nat} {W W' : World} {v : Value} {l : List Bool} (h : Bo B W v l) (hb : Below k W W') (hk : W.heap.size ≤ k) : Bo B W' v l := owns_below h (hb.mono hk)
theorem Bo.mono {B B' : Nat} {W : World} {v : Value} {l : List Bool} (h : Bo B W v l) (hb : B' ≤ B) : Bo B' W v l := owns_mono h hb
theorem Bo.slice3 {B : Nat} {W : World} {v : Value} {l : List Bool} (h : Bo B W v l) : ∃ ao n cap, v = .slice ao n cap := by
  rcases h.2 with ⟨rfl, _⟩ | ⟨g, cap, cur, rfl, _⟩
  · exact ⟨_, _, _, rfl⟩
  · exact ⟨_, _, _, rfl⟩
theorem Bo.len {B : Nat} {W : World} {ao : Option Addr} {n cap : Nat} {l : List Bool} (h : Bo B W (.slice ao n cap) l) : n = l.length := by
  rcases h.2 with ⟨e, h0⟩ | ⟨g, cap, cur, e, h0, h1, h2, h3, h4, h5⟩ <;> cases e
  · exact h0.symm
  · rfl
theorem Bo.block {B : Nat} {W : World} {ao : Option Addr} {n cap : Nat} {l : List Bool} (h : Bo B W (.slice ao n cap) l) (hl : 0 < n) : ∃ g, ao = some ⟨g, 0, none⟩ ∧ B ≤ g ∧ g < W.heap.size := by
  rcases h.2 with ⟨e, h⟩ | ⟨g, cap, cur, e, h0, h3, h1, h2, _⟩
  · cases e; omega
  · cases e
    exact ⟨g, rfl, h0, (Array.getElem?_eq_some_iff.1 h3).1⟩
theorem Bools_get {l : List Bool} {i : Nat} (h : i < l.length) : (Bools l)[i]? = some (.bool l[i]) := by simp [Bools, h]
theorem Bo.cell {B : Nat} {W : World} {g n cap : Nat} {l : List Bool} (h : Bo B W (.slice (some ⟨g, 0, none⟩) n cap) l) {i : Nat} (hi : i < l.length) : W.cell? ⟨g, i, none⟩ = some (.bool l[i]) := by
  rcases h.2 with ⟨e, _⟩ | ⟨g, cap, cur, e, _⟩
  · cases e
  · cases e
    rw [World.ownsRow.cellAt h i (by omega), Bools_get hi]
theorem ofI_bd : ∀ (l : List Bool) (s : Int), -1 ≤ s → s ≤ 0 → -((2 ^ l.length : Nat) : Int) ≤ ofI l s ∧ ofI l s < ((2 ^ l.length : Nat) : Int)
  | [], s, h0, h1 => by
    show -((1 : Nat) : Int) ≤ s ∧ s < ((1 : Nat) : Int); omega
  | b :: l, s, h0, h1 => by
    have ih := ofI_bd l s h0 h1
    show _ ≤ 2 * ofI l s + (b.toNat : Int) ∧ 2 * ofI l s + (b.toNat : Int) < _
    rw [List.length_cons, Nat.pow_succ]
    have hb : b.toNat ≤ 1 := by cases b <;> decide
    generalize 2 ^ l.length = p at *
    omega
theorem nt_ofI {l : List Bool} {s : Int} (h0 : -1 ≤ s) (h1 : s ≤ 0) : nt (ofI l s).natAbs ≤ l.length + 1 := by
  have h := ofI_bd l s h0 h1
  refine Nat.le_trans (nt_mono (show (ofI l s).natAbs ≤ 2 ^ l.length by generalize 2 ^ l.length = p at *; omega)) (nt_two _)
theorem ofI_drop {l : List Bool} {k : Nat} (s : Int) (h : k < l.length) : ofI (l.drop k) s = 2 * ofI (l.drop (k + 1)) s + ((l[k]).toNat : Int) := by
  rw [List.drop_eq_getElem_cons h]; rfl
structure OfI (l : List Bool) (s : Int) (W wr : World) (G k : Nat) (m : Bool) (a : Option Addr) (nn p : Nat) : Prop where
  box : Box2 G (.bool m) (.slice a nn p) wr
  num : Qn (W.heap.size + 1) wr (numR m (.slice a nn p)) (ofI (l.drop k) s)
  res : Box2 W.heap.size (.bool false) (.slice none 0 0) wr
  bel : Below W.heap.size W wr
  lt : W.heap.size < G ∧ G < wr.heap.size
set_option maxRecDepth 100000 in
set_option maxHeartbeats 8000000 in
theorem ref_of_any {B : Nat} {v : Value} {l : List Bool} {W : World} (h : Bo B W v l) (hl0 : 0 < l.length) (hl : l.length ≤ 100000) : Calls Tryd.prog 127 #[v] W fun e W' => (∃ v', e = .returned v' ∧ Qn 0 W' v' (ofL l)) ∧ Below W.heap.size W W' := by
  obtain ⟨ao, n, cap, rfl⟩ := h.slice3
  have hn := h.len
  obtain ⟨gr, rfl, _, hgr⟩ := h.block (show 0 < n by omega)
  obtain ⟨V, hV, hbox, vb, vs⟩ := box2_new W (.bool false) (.slice none 0 0)
  have HV := Lib.hid hV
  have F0 := Lib.hid hbox
  have HVB := Lib.hid vb
  have HVS := Lib.hid vs
  have HR := Lib.hid h
  have et : ((n : Int) - 1).toNat = n - 1 := by omega
  obtain ⟨top, HTOP⟩ : ∃ b, Hid (∀ hh : n - 1 < l.length, l[n - 1]'hh = b) := ⟨l[n - 1]'(by omega), Lib.hid fun _ => rfl⟩
  have HTL : Hid (l.getLastD false = top) := Lib.hid (by
    rw [← HTOP.out (by omega), List.getLastD_eq_getLast?, List.getLast?_eq_getElem?]
    simp [hn, show l.length - 1 < l.length by omega])
  have hn0 : 0 < n := by omega
  have HN := Lib.hid hn
  have hnl : n ≤ 100000 := by omega
  clear h hV hbox vb vs hn hl0 hl
  go_enter Tryd.func127, Tryd.ntmps127
  go_upto_region 1 with (fail)
  rw [← HV.out]
  go_upto_region 2 with ((go_at_call 85; (with_reducible refine (ref_whole_any 0 _ (by decide) (by decide)).mono ?_); rintro e w5 ⟨⟨v5, rfl, hm5⟩, hb5⟩; obtain ⟨m5, a5, n5, p5, rfl, _, _⟩ := hm5.view; have HM5 := Lib.hid hm5; have HB5 := Lib.hid hb5; clear hm5 hb5))
  obtain ⟨w6, hw6, hbx6, hb6, hs6⟩ := box2_new w5 (.bool m5) (.slice a5 n5 p5)
  rw [← hw6]
  have HB6 : Hid (Below W.heap.size W w6) := Lib.hid (HVB.out.trans ((HB5.out.trans (hb6.mono HB5.out.size)).mono HVB.out.size))
  have HX6 := Lib.hid hbx6
  have HR6 := Lib.hid ((F0.out.after HB5.out).after hb6)
  have HM6 := Lib.hid ((HM5.out.later hb6 (Nat.le_refl _)).mono (B' := W.heap.size + 1) (by have := HVS.out; omega))
  have HG6 : Hid (W.heap.size < w5.heap.size ∧ w5.heap.size < w6.heap.size) := Lib.hid ⟨by have := HVS.out; have := HB5.out.size; omega, by omega⟩
  have hct := (HR.out.later HB6.out (Nat.le_refl _)).cell (show n - 1 < l.length by rw [← HN.out]; omega)
  rw [HTOP.out (by rw [← HN.out]; omega)] at hct
  obtain ⟨G, hG⟩ : ∃ G, w5.heap.size = G := ⟨_, rfl⟩
  rw [hG] at HX6 HG6 ⊢
  clear hw6 hbx6 hb6 hs6 HM5 HB5 hG
  cases top
  · skip
    have HI0 : Hid (OfI l 0 W w6 G n m5 a5 n5 p5) := Lib.hid ⟨HX6.out, by rw [show l.drop n = [] by rw [HN.out]; exact List.drop_length]; exact HM6.out, HR6.out, HB6.out, HG6.out.1, HG6.out.2⟩
    have HSB : Hid (-1 ≤ (0 : Int) ∧ (0 : Int) ≤ 0) := Lib.hid (by decide)
    have HFIN : Hid (ofL l = ofI l 0) := Lib.hid (by unfold ofL; rw [HTL.out]; rfl)
    go_wp2
    go_loopw [4] (fun iv wr => ∃ (k : Nat) (m : Bool) (a : Option Addr) (nn p : Nat), iv = .int .i64 ((k : Int) - 1) ∧ k ≤ n ∧ Hid (OfI l 0 W wr G k m a nn p)) (fun iv _ => (intOf iv + 1).toNat)
    case atStart => exact ⟨n, _, _, _, _, rfl, Nat.le_refl _, HI0⟩
    case round =>
      obtain ⟨k, m, a, nn, p, rfl, hk, hi⟩ := hrel
      obtain ⟨x0, x1, x2, x3⟩ := hi.out.box
      by_cases hlt : 0 < k
      · obtain ⟨k, rfl⟩ : ∃ k', k = k' + 1 := ⟨k - 1, by omega⟩
        have ek : ((k + 1 : Nat) : Int) - 1 = (k : Int) := by omega
        rw [ek]
        have HKL : Hid (k < l.length) := Lib.hid (by rw [← HN.out]; omega)
        have HNT : Hid (nt (ofI (l.drop (k + 1)) 0).natAbs ≤ 1000000) := Lib.hid (Nat.le_trans (nt_ofI HSB.out.1 HSB.out.2) (by rw [List.length_drop, ← HN.out]; omega))
        obtain ⟨b, HBK⟩ : ∃ b, Hid (∀ hh : k < l.length, l[k]'hh = b) := ⟨l[k]'HKL.out, Lib.hid fun _ => rfl⟩
        have HST : Hid (ofI (l.drop k) 0 = ofI (l.drop (k + 1)) 0 + ofI (l.drop (k + 1)) 0 + (b.toNat : Int)) := Lib.hid (by rw [ofI_drop _ HKL.out, HBK.out HKL.out]; omega)
        go_upto_region 8 with ((go_at_call 66; (with_reducible refine (ref_Plus_any hi.out.num hi.out.num HNT.out HNT.out).mono ?_); rintro e w8 ⟨⟨v8, rfl, hm8⟩, hb8⟩; obtain ⟨m8, a8, n8, p8, rfl, _, _⟩ := hm8.view; have HM8 := Lib.hid hm8; have HB8 := Lib.hid hb8; clear hm8 hb8; have r8 := hi.out.box.after HB8.out; obtain ⟨u0, u1, u2, u3⟩ := r8))
        obtain ⟨w9, HW9⟩ : ∃ w, Hid (w = (w8.setCell ⟨G, 0, none⟩ (.bool m8)).setCell ⟨G, 1, none⟩ (.slice a8 n8 p8)) := ⟨_, Lib.hid rfl⟩
        rw [← HW9.out]
        have HX9 : Hid (Box2 G (.bool m8) (.slice a8 n8 p8) w9) := Lib.hid (by rw [HW9.out]; exact (hi.out.box.after HB8.out).two _ _)
        have HQ9 : Hid (Qn wr.heap.size w9 (numR m8 (.slice a8 n8 p8)) (ofI (l.drop (k + 1)) 0 + ofI (l.drop (k + 1)) 0)) := Lib.hid (by rw [HW9.out]; exact (HM8.out.set (b := G) hi.out.lt.2 0 _).set (b := G) hi.out.lt.2 1 _)
        have HR9 : Hid (Box2 W.heap.size (.bool false) (.slice none 0 0) w9) := Lib.hid (by rw [HW9.out]; exact ((hi.out.res.after HB8.out).far (by have := hi.out.lt; omega)).far (by have := hi.out.lt; omega))
        have HB9 : Hid (Below W.heap.size W w9) := Lib.hid (by rw [HW9.out]; exact ((hi.out.bel.trans (HB8.out.mono hi.out.bel.size)).setCell (by show _ ≤ G; have := hi.out.lt; omega) _).setCell (by show _ ≤ G; have := hi.out.lt; omega) _)
        have HZ9 : Hid (wr.heap.size ≤ w9.heap.size) := Lib.hid (by rw [HW9.out]; simpa using HB8.out.size)
        have hck := (HR.out.later HB9.out (Nat.le_refl _)).cell (show k < l.length from HKL.out)
        rw [HBK.out HKL.out] at hck
        clear x0 x1 x2 x3 u0 u1 u2 u3
        cases b
        · go_wp2
          go_roundw
          case rel => exact ⟨k, m8, a8, n8, p8, by go_num, by omega, Lib.hid ⟨HX9.out, by rw [HST.out]; have := HQ9.out.mono (B' := W.heap.size + 1) (by have := hi.out.lt; omega); simpa using this, HR9.out, HB9.out, hi.out.lt.1, by have := hi.out.lt; have := HZ9.out; omega⟩⟩
          case measure => simp [intOf]
        · have HNT2 : Hid (nt (ofI (l.drop (k + 1)) 0 + ofI (l.drop (k + 1)) 0).natAbs ≤ 1000000) := Lib.hid (by
            have h1 := nt_ofI (l := false :: l.drop (k + 1)) (s := 0) HSB.out.1 HSB.out.2
            have e1 : ofI (false :: l.drop (k + 1)) 0 = ofI (l.drop (k + 1)) 0 + ofI (l.drop (k + 1)) 0 := by show 2 * _ + ((0 : Nat) : Int) = _; omega
            rw [e1] at h1
            refine Nat.le_trans h1 ?_
            rw [List.length_cons, List.length_drop, ← HN.out]; omega)
          have hx9 := HX9.out
          obtain ⟨z0, z1, z2, z3⟩ := hx9
          go_upto_region 9 with (fail)
          go_region_with (first | (go_at_call 85; (with_reducible refine (ref_whole_any 1 _ (by decide) (by decide)).mono ?_); rintro e w10 ⟨⟨v10, rfl, hm10⟩, hb10⟩; have HM10 := Lib.hid hm10; have HW10 := Lib.hid (undrew hb10); clear hm10 hb10; have r7 := HX9.out.after HW10.out; obtain ⟨u0, u1, u2, u3⟩ := r7) | (go_at_call 66; (with_reducible refine (ref_Plus_any (HQ9.out.later HW10.out (Nat.le_refl _)) HM10.out HNT2.out (by decide +kernel)).mono ?_); rintro e w11 ⟨⟨v11, rfl, hm11⟩, hb11⟩; have HW11 := Lib.hid (HW10.out.trans (hb11.mono HW10.out.size)); obtain ⟨mz, az, nz, pz, rfl, _, _⟩ := hm11.view; have HM11 := Lib.hid hm11; clear hm11 hb11; have r8 := HX9.out.after HW11.out; obtain ⟨y0, y1, y2, y3⟩ := r8))
          all_goals
            go_wp2
            go_roundw
            case rel =>
              refine ⟨k, mz, az, nz, pz, by go_num, by omega, Lib.hid ⟨(HX9.out.after HW11.out).two _ _, ?_, ((HR9.out.after HW11.out).far (by have := hi.out.lt; omega)).far (by have := hi.out.lt; omega), ((HB9.out.trans (HW11.out.mono HB9.out.size)).setCell (by show _ ≤ G; have := hi.out.lt; omega) _).setCell (by show _ ≤ G; have := hi.out.lt; omega) _, hi.out.lt.1, by have := hi.out.lt; have := HZ9.out; have := HW11.out.size; simp; omega⟩⟩
              rw [HST.out]
              exact (HM11.out.set (b := G) (by have := hi.out.lt; have := HZ9.out; have := HW10.out.size; omega) 0 _).set (b := G) (by have := hi.out.lt; have := HZ9.out; have := HW10.out.size; omega) 1 _ |>.mono (by have := hi.out.lt; have := HZ9.out; have := HW10.out.size; omega)
            case measure => simp [intOf]
      · obtain rfl : k = 0 := by omega
        have ek : ((0 : Nat) : Int) - 1 = -1 := rfl
        rw [ek]
        obtain ⟨u0, u1, u2, u3⟩ := hi.out.res
        go_wp2
        refine bodyPost_ret (v := numR m (.slice a nn p)) (by simp [results, Tryd.results127, go_sem, u0, u1]) rfl ⟨⟨_, rfl, ?_⟩, ?_⟩
        · rw [HFIN.out]
          exact ((hi.out.num.set (b := W.heap.size) (Nat.lt_succ_self _) 0 _).set (b := W.heap.size) (Nat.lt_succ_self _) 1 _).mono (Nat.zero_le _)
        · exact (hi.out.bel.setCell (Nat.le_refl _) _).setCell (Nat.le_refl _) _
  · skip
    have hx6 := HX6.out
    obtain ⟨z0, z1, z2, z3⟩ := hx6
    go_upto_region 4 with ((go_at_call 85; (with_reducible refine (ref_whole_any (-1) _ (by decide) (by decide)).mono ?_); rintro e wm ⟨⟨v7, rfl, hm7⟩, hb7⟩; obtain ⟨m7, a7, n7, p7, rfl, _, _⟩ := hm7.view; have HMm := Lib.hid hm7; have HBm := Lib.hid hb7; clear hm7 hb7; have r7 := HX6.out.after HBm.out; obtain ⟨u0, u1, u2, u3⟩ := r7))
    obtain ⟨w7, HW7⟩ : ∃ w, Hid (w = (wm.setCell ⟨G, 0, none⟩ (.bool m7)).setCell ⟨G, 1, none⟩ (.slice a7 n7 p7)) := ⟨_, Lib.hid rfl⟩
    rw [← HW7.out]
    have HX7 : Hid (Box2 G (.bool m7) (.slice a7 n7 p7) w7) := Lib.hid (by rw [HW7.out]; exact (HX6.out.after HBm.out).two _ _)
    have HM7 : Hid (Qn (W.heap.size + 1) w7 (numR m7 (.slice a7 n7 p7)) (-1)) := Lib.hid (by rw [HW7.out]; exact ((HMm.out.set (b := G) HG6.out.2 0 _).set (b := G) HG6.out.2 1 _).mono (by have := HG6.out; omega))
    have HR7 : Hid (Box2 W.heap.size (.bool false) (.slice none 0 0) w7) := Lib.hid (by rw [HW7.out]; exact ((HR6.out.after HBm.out).far (by have := HG6.out; omega)).far (by have := HG6.out; omega))
    have HB7 : Hid (Below W.heap.size W w7) := Lib.hid (by rw [HW7.out]; exact ((HB6.out.trans (HBm.out.mono HB6.out.size)).setCell (by show _ ≤ G; have := HG6.out; omega) _).setCell (by show _ ≤ G; have := HG6.out; omega) _)
    have HG7 : Hid (G < w7.heap.size) := Lib.hid (by rw [HW7.out]; have := HG6.out; have := HBm.out.size; simp; omega)
    clear z0 z1 z2 z3 u0 u1 u2 u3
    have HI0 : Hid (OfI l (-1) W w7 G n m7 a7 n7 p7) := Lib.hid ⟨HX7.out, by rw [show l.drop n = [] by rw [HN.out]; exact List.drop_length]; exact HM7.out, HR7.out, HB7.out, HG6.out.1, HG7.out⟩
    have HSB : Hid (-1 ≤ (-1 : Int) ∧ (-1 : Int) ≤ 0) := Lib.hid (by decide)
    have HFIN : Hid (ofL l = ofI l (-1)) := Lib.hid (by unfold ofL; rw [HTL.out]; rfl)
    go_wp2
    go_loopw [4] (fun iv wr => ∃ (k : Nat) (m : Bool) (a : Option Addr) (nn p : Nat), iv = .int .i64 ((k : Int) - 1) ∧ k ≤ n ∧ Hid (OfI l (-1) W wr G k m a nn p)) (fun iv _ => (intOf iv + 1).toNat)
    case atStart => exact ⟨n, _, _, _, _, rfl, Nat.le_refl _, HI0⟩
    case round =>
      obtain ⟨k, m, a, nn, p, rfl, hk, hi⟩ := hrel
      obtain ⟨x0, x1, x2, x3⟩ := hi.out.box
      by_cases hlt : 0 < k
      · obtain ⟨k, rfl⟩ : ∃ k', k = k' + 1 := ⟨k - 1, by omega⟩
        have ek : ((k + 1 : Nat) : Int) - 1 = (k : Int) := by omega
        rw [ek]
        have HKL : Hid (k < l.length) := Lib.hid (by rw [← HN.out]; omega)
        have HNT : Hid (nt (ofI (l.drop (k + 1)) (-1)).natAbs ≤ 1000000) := Lib.hid (Nat.le_trans (nt_ofI HSB.out.1 HSB.out.2) (by rw [List.length_drop, ← HN.out]; omega))
        obtain ⟨b, HBK⟩ : ∃ b, Hid (∀ hh : k < l.length, l[k]'hh = b) := ⟨l[k]'HKL.out, Lib.hid fun _ => rfl⟩
        have HST : Hid (ofI (l.drop k) (-1) = ofI (l.drop (k + 1)) (-1) + ofI (l.drop (k + 1)) (-1) + (b.toNat : Int)) := Lib.hid (by rw [ofI_drop _ HKL.out, HBK.out HKL.out]; omega)
        go_upto_region 8 with ((go_at_call 66; (with_reducible refine (ref_Plus_any hi.out.num hi.out.num HNT.out HNT.out).mono ?_); rintro e w8 ⟨⟨v8, rfl, hm8⟩, hb8⟩; obtain ⟨m8, a8, n8, p8, rfl, _, _⟩ := hm8.view; have HM8 := Lib.hid hm8; have HB8 := Lib.hid hb8; clear hm8 hb8; have r8 := hi.out.box.after HB8.out; obtain ⟨u0, u1, u2, u3⟩ := r8))
        obtain ⟨w9, HW9⟩ : ∃ w, Hid (w = (w8.setCell ⟨G, 0, none⟩ (.bool m8)).setCell ⟨G, 1, none⟩ (.slice a8 n8 p8)) := ⟨_, Lib.hid rfl⟩
        rw [← HW9.out]
        have HX9 : Hid (Box2 G (.bool m8) (.slice a8 n8 p8) w9) := Lib.hid (by rw [HW9.out]; exact (hi.out.box.after HB8.out).two _ _)
        have HQ9 : Hid (Qn wr.heap.size w9 (numR m8 (.slice a8 n8 p8)) (ofI (l.drop (k + 1)) (-1) + ofI (l.drop (k + 1)) (-1))) := Lib.hid (by rw [HW9.out]; exact (HM8.out.set (b := G) hi.out.lt.2 0 _).set (b := G) hi.out.lt.2 1 _)
        have HR9 : Hid (Box2 W.heap.size (.bool false) (.slice none 0 0) w9) := Lib.hid (by rw [HW9.out]; exact ((hi.out.res.after HB8.out).far (by have := hi.out.lt; omega)).far (by have := hi.out.lt; omega))
        have HB9 : Hid (Below W.heap.size W w9) := Lib.hid (by rw [HW9.out]; exact ((hi.out.bel.trans (HB8.out.mono hi.out.bel.size)).setCell (by show _ ≤ G; have := hi.out.lt; omega) _).setCell (by show _ ≤ G; have := hi.out.lt; omega) _)
        have HZ9 : Hid (wr.heap.size ≤ w9.heap.size) := Lib.hid (by rw [HW9.out]; simpa using HB8.out.size)
        have hck := (HR.out.later HB9.out (Nat.le_refl _)).cell (show k < l.length from HKL.out)
        rw [HBK.out HKL.out] at hck
        clear x0 x1 x2 x3 u0 u1 u2 u3
        cases b
        · go_wp2
          go_roundw
          case rel => exact ⟨k, m8, a8, n8, p8, by go_num, by omega, Lib.hid ⟨HX9.out, by rw [HST.out]; have := HQ9.out.mono (B' := W.heap.size + 1) (by have := hi.out.lt; omega); simpa using this, HR9.out, HB9.out, hi.out.lt.1, by have := hi.out.lt; have := HZ9.out; omega⟩⟩
          case measure => simp [intOf]
        · have HNT2 : Hid (nt (ofI (l.drop (k + 1)) (-1) + ofI (l.drop (k + 1)) (-1)).natAbs ≤ 1000000) := Lib.hid (by
            have h1 := nt_ofI (l := false :: l.drop (k + 1)) (s := -1) HSB.out.1 HSB.out.2
            have e1 : ofI (false :: l.drop (k + 1)) (-1) = ofI (l.drop (k + 1)) (-1) + ofI (l.drop (k + 1)) (-1) := by show 2 * _ + ((0 : Nat) : Int) = _; omega
            rw [e1] at h1
            refine Nat.le_trans h1 ?_
            rw [List.length_cons, List.length_drop, ← HN.out]; omega)
          have hx9 := HX9.out
          obtain ⟨z0, z1, z2, z3⟩ := hx9
          go_upto_region 9 with (fail)
          go_region_with (first | (go_at_call 85; (with_reducible refine (ref_whole_any 1 _ (by decide) (by decide)).mono ?_); rintro e w10 ⟨⟨v10, rfl, hm10⟩, hb10⟩; have HM10 := Lib.hid hm10; have HW10 := Lib.hid (undrew hb10); clear hm10 hb10; have r7 := HX9.out.after HW10.out; obtain ⟨u0, u1, u2, u3⟩ := r7) | (go_at_call 66; (with_reducible refine (ref_Plus_any (HQ9.out.later HW10.out (Nat.le_refl _)) HM10.out HNT2.out (by decide +kernel)).mono ?_); rintro e w11 ⟨⟨v11, rfl, hm11⟩, hb11⟩; have HW11 := Lib.hid (HW10.out.trans (hb11.mono HW10.out.size)); obtain ⟨mz, az, nz, pz, rfl, _, _⟩ := hm11.view; have HM11 := Lib.hid hm11; clear hm11 hb11; have r8 := HX9.out.after HW11.out; obtain ⟨y0, y1, y2, y3⟩ := r8))
          all_goals
            go_wp2
            go_roundw
            case rel =>
              refine ⟨k, mz, az, nz, pz, by go_num, by omega, Lib.hid ⟨(HX9.out.after HW11.out).two _ _, ?_, ((HR9.out.after HW11.out).far (by have := hi.out.lt; omega)).far (by have := hi.out.lt; omega), ((HB9.out.trans (HW11.out.mono HB9.out.size)).setCell (by show _ ≤ G; have := hi.out.lt; omega) _).setCell (by show _ ≤ G; have := hi.out.lt; omega) _, hi.out.lt.1, by have := hi.out.lt; have := HZ9.out; have := HW11.out.size; simp; omega⟩⟩
              rw [HST.out]
              exact (HM11.out.set (b := G) (by have := hi.out.lt; have := HZ9.out; have := HW10.out.size; omega) 0 _).set (b := G) (by have := hi.out.lt; have := HZ9.out; have := HW10.out.size; omega) 1 _ |>.mono (by have := hi.out.lt; have := HZ9.out; have := HW10.out.size; omega)
            case measure => simp [intOf]
      · obtain rfl : k = 0 := by omega
        have ek : ((0 : Nat) : Int) - 1 = -1 := rfl
        rw [ek]
        obtain ⟨u0, u1, u2, u3⟩ := hi.out.res
        go_wp2
        refine bodyPost_ret (v := numR m (.slice a nn p)) (by simp [results, Tryd.results127, go_sem, u0, u1]) rfl ⟨⟨_, rfl, ?_⟩, ?_⟩
        · rw [HFIN.out]
          exact ((hi.out.num.set (b := W.heap.size) (Nat.lt_succ_self _) 0 _).set (b := W.heap.size) (Nat.lt_succ_self _) 1 _).mono (Nat.zero_le _)
        · exact (hi.out.bel.setCell (Nat.le_refl _) _).setCell (Nat.le_refl _) _
end Go.Proofs.YtkpoegdcmnjedaaDoor
