import Derived.Test.YtkpoegdcmnjedaaDoorRD3
import Derived.Test.YtkpoegdcmnjedaaDoorMG5
namespace Go.Proofs.YtkpoegdcmnjedaaDoor
open Go.RowKit
set_option linter.unusedVariables false
set_option linter.unusedSimpArgs false

structure DcI (s : ByteArray) (W wr : World) (v : Value) (k : Nat) (r : List Nat) : Prop where
  all : ∀ j, k ≤ j → j < s.size → dvS s j < 10
  len : r.length + k = s.size
  dig : Dig 10 r
  eq : rd 10 s s.size = rd 10 s k * 10 ^ r.length + val 10 r
  m : N (W.heap.size + 1) wr v r
  b : Below W.heap.size W wr
  z : W.heap.size + 1 ≤ wr.heap.size
  c0 : wr.cell? ⟨W.heap.size, 0, none⟩ = some (.bool false)
  c1 : wr.cell? ⟨W.heap.size, 1, none⟩ = some (.slice none 0 0)
  f0 : wr.frozen? ⟨W.heap.size, 0, none⟩ = false
  f1 : wr.frozen? ⟨W.heap.size, 1, none⟩ = false
theorem N.setOther {B : Nat} {W : World} {v : Value} {l : List Nat} (h : N B W v l) {b : Nat} (hb : b < B) (j : Nat) (x : Value) : N B (W.setCell ⟨b, j, none⟩ x) v l := by
  refine h.kept (grownBy_setCell W b j x) ?_
  cases e : v.ownBlock with
  | none => exact Or.inl rfl
  | some k => exact Or.inr fun e2 => by have := (h.lt k e).1; cases e2; omega
/-- what decimal tells. -/
def DcQ (neg : Bool) (s : ByteArray) (W : World) (e : Ending) (W' : World) : Prop :=
  ∃ m ao n cap ok, e = .returned (.tuple #[numR m (.slice ao n cap), .bool ok]) ∧ (ok = true ↔ AllD 10 s) ∧
    (AllD 10 s → N (W.heap.size + 1) W' (.slice ao n cap) (digs 10 (rd 10 s s.size)) ∧ m = (neg && decide (0 < n))) ∧ Below W.heap.size W W'
set_option maxRecDepth 100000 in
set_option maxHeartbeats 2000000 in
theorem ref_decimal_any (neg : Bool) (s : ByteArray) (W : World) (hs : s.size ≤ 2000000) :
    Calls Tryd.prog 109 #[.bool neg, .string s] W (DcQ neg s W) := by
  obtain ⟨V, hV⟩ : ∃ V, V = W.alloc (Obj.cells #[.bool false, .slice none 0 0] 51) := ⟨_, rfl⟩
  have hv0 : V.heap[W.heap.size]? = some (.cells #[.bool false, .slice none 0 0] 51 (0, 0)) := by rw [hV]; exact heap_alloc_new W _
  have HI0 : Hid (DcI s W V (.slice none 0 0) s.size []) := Lib.hid ⟨fun j h1 h2 => by omega, by simp, Dig.nil (by decide), by simp [val_nil], N.nil _ _, by rw [hV]; exact (Below.refl _ _).alloc (Nat.le_refl _) _, by rw [hV]; simp,
    (cell_of_row _ _ _ _ _ _ hv0).trans rfl, (cell_of_row _ _ _ _ _ _ hv0).trans rfl, frozen_of_row _ _ _ _ _ hv0, frozen_of_row _ _ _ _ _ hv0⟩
  have HDG : Hid (∀ (c : Nat) (w : World), c ≤ 255 → Calls Tryd.prog 132 #[.int .u8 c, .int .i64 10] w fun e w' => e = .returned (.int .i64 (rdg c 10)) ∧ w = w') := Lib.hid fun c w hc => ref_Digit_any c 10 w hc (by decide) (by decide)
  clear hv0
  go_enter Tryd.func109, Tryd.ntmps109
  go_upto_region 1 with (fail)
  rw [← hV]
  clear hV
  go_wp2
  go_loopw [6, 7] (fun v iv wr => ∃ (k : Nat) (r : List Nat), iv = .int .i64 ((k : Int) - 1) ∧ k ≤ s.size ∧ Hid (DcI s W wr v k r)) (fun _ i _ => (intOf i + 1).toNat)
  case atStart => exact ⟨s.size, [], rfl, Nat.le_refl _, HI0⟩
  case round =>
    obtain ⟨k, r, rfl, hk, hp⟩ := hrel
    obtain ⟨av, nv, cv, rfl⟩ := hp.out.m.slice3
    by_cases h0 : k = 0
    · subst h0
      have HB := Lib.hid hp.out.b
      have hval : Hid (val 10 r = rd 10 s s.size) := Lib.hid (by
        have h := hp.out.eq
        have h2 : rd 10 s 0 = 0 := rfl
        rw [h2, Nat.zero_mul, Nat.zero_add] at h
        exact h.symm)
      have HNT := Lib.hid (hp.out.m.trim hp.out.dig)
      obtain ⟨nn, HNN⟩ : ∃ n, Hid (nt (val 10 r) = n) := ⟨_, Lib.hid rfl⟩
      have HT : Hid (∀ w, N (W.heap.size + 1) w (.slice av nv cv) r → Calls Tryd.prog 95 #[.slice av nv cv] w fun e w' => e = .returned (.slice av nn cv) ∧ w = w') := Lib.hid (by
        rw [← HNN.out]; exact fun w h => ref_trimmed_any h hp.out.dig)
      rw [HNN.out, hval.out] at HNT
      have c0 := hp.out.c0
      have c1 := hp.out.c1
      have f0 := hp.out.f0
      have f1 := hp.out.f1
      have hz := hp.out.z
      by_cases h0 : s.size = 0
      · have he3 : s.toList = [] := list_empty h0
        have he2 : s.toList.isEmpty = true := by rw [he3]; rfl
        have HN : Hid (¬ AllD 10 s) := Lib.hid fun h => by have := h.1; omega
        go_wp2_with (first | (go_at_call 95; refine (HT.out _ hp.out.m).mono ?_; rintro e w1 ⟨rfl, rfl⟩) | (go_at_call 83; refine (ref_num_any _ _ _ _ _).mono ?_; rintro e w2 ⟨rfl, hb2⟩; have HB2 := Lib.hid hb2; have d0 := cell_after hb2 c0; have d1 := cell_after hb2 c1; have g0 := free_after (a := ⟨W.heap.size, 0, none⟩) hb2 (World.block_lt_of_cell? _ ⟨W.heap.size, 0, none⟩ c0) f0; have g1 := free_after (a := ⟨W.heap.size, 1, none⟩) hb2 (World.block_lt_of_cell? _ ⟨W.heap.size, 0, none⟩ c0) f1; clear hb2))
        exact bodyPost_ret (v := .tuple #[numR (neg && decide (0 < nn)) (.slice av nn cv), .bool false]) (by simp [results, Tryd.results109, go_sem, d0, d1, g0, g1]) rfl ⟨_, _, _, _, false, rfl, ⟨(fun h => by cases h), fun h => absurd h HN.out⟩, fun h => absurd h HN.out, ((HB.out.trans (HB2.out.mono (by omega))).setCell (Nat.le_refl _) _).setCell (Nat.le_refl _) _⟩
      · have hne : s.toList.isEmpty = false := list_full h0
        have hne2 : ¬ s.toList = [] := list_full2 h0
        have HA : Hid (AllD 10 s) := Lib.hid ⟨by omega, fun i hi => hp.out.all i (Nat.zero_le _) hi⟩
        go_wp2_with (first | (go_at_call 95; refine (HT.out _ hp.out.m).mono ?_; rintro e w1 ⟨rfl, rfl⟩) | (go_at_call 83; refine (ref_num_any _ _ _ _ _).mono ?_; rintro e w2 ⟨rfl, hb2⟩; have HB2 := Lib.hid hb2; have d0 := cell_after hb2 c0; have d1 := cell_after hb2 c1; have g0 := free_after (a := ⟨W.heap.size, 0, none⟩) hb2 (World.block_lt_of_cell? _ ⟨W.heap.size, 0, none⟩ c0) f0; have g1 := free_after (a := ⟨W.heap.size, 1, none⟩) hb2 (World.block_lt_of_cell? _ ⟨W.heap.size, 0, none⟩ c0) f1; clear hb2))
        refine bodyPost_ret (v := .tuple #[numR (neg && decide (0 < nn)) (.slice av nn cv), .bool true]) (by simp [results, Tryd.results109, go_sem, d0, d1, g0, g1]) rfl ⟨_, _, _, _, true, rfl, ⟨fun _ => HA.out, fun _ => rfl⟩, fun _ => ⟨?_, rfl⟩, ((HB.out.trans (HB2.out.mono (by omega))).setCell (Nat.le_refl _) _).setCell (Nat.le_refl _) _⟩
        exact ((HNT.out.later HB2.out (Nat.le_refl _)).setOther (Nat.lt_succ_self _) 0 _).setOther (Nat.lt_succ_self _) 1 _
    · obtain ⟨i, rfl⟩ : ∃ i, k = i + 1 := ⟨k - 1, by omega⟩
      have e1 : ((i + 1 : Nat) : Int) - 1 = (i : Int) := by omega
      rw [e1]
      have hlt : i < s.size := by omega
      have hbt := byte_at s hlt
      obtain ⟨c, HC⟩ : ∃ c, Hid (byteN s i = c) := ⟨_, Lib.hid rfl⟩
      have hc : c ≤ 255 := by rw [← HC.out]; exact byteN_le s i
      rw [HC.out] at hbt
      have HDV : Hid (dvS s i = dvN c) := Lib.hid (by show dvN (byteN s i) = _; rw [HC.out])
      have HD := Lib.hid (fun w => HDG.out c w hc)
      by_cases hok : dvN c < 10
      · have hr : rdg c 10 = (dvN c : Int) := if_pos hok
        rw [hr] at HD
        obtain ⟨d, Hd⟩ : ∃ d, Hid (dvN c = d) := ⟨_, Lib.hid rfl⟩
        rw [Hd.out] at HD hok HDV
        have HLL : Hid (r.length ≤ 1000000000) := Lib.hid (by have := hp.out.len; omega)
        have hBw := hp.out.z
        clear hr e1
        go_wp2_with (first | (go_at_call 132; refine (HD.out _).mono ?_; rintro e w1 ⟨rfl, rfl⟩) | (at_builtin; go_loud (refine wpList_app64 rfl _ _ rfl (W.heap.size + 1) wr _ d rfl (.slice av nv cv) r rfl rfl hp.out.m hBw HLL.out ?_; intro v' w' hb' hm' _; have HNN := Lib.hid hm'; have HBB := Lib.hid hb'; clear hm' hb')))
        refine ⟨⟨i, r ++ [d], rfl, by omega, Lib.hid ⟨?_, by rw [List.length_append]; have := hp.out.len; simp; omega, hp.out.dig.snoc hok, ?_, HNN.out, hp.out.b.trans (HBB.out.mono (by omega)), Nat.le_trans hp.out.z HBB.out.size, (HBB.out.cell (Nat.lt_succ_self _)).trans hp.out.c0, (HBB.out.cell (Nat.lt_succ_self _)).trans hp.out.c1, (HBB.out.frozen (Nat.lt_succ_self _)).trans hp.out.f0, (HBB.out.frozen (Nat.lt_succ_self _)).trans hp.out.f1⟩⟩, by simp [intOf]⟩
        · intro j h1 h2
          by_cases e : j = i
          · rw [e, HDV.out]; exact hok
          · exact hp.out.all j (by omega) h2
        · have h1 := hp.out.eq
          have h2 : rd 10 s (i + 1) = rd 10 s i * 10 + dvS s i := rfl
          rw [h2, HDV.out, Nat.add_mul, Nat.mul_assoc] at h1
          rw [val_snoc, List.length_append, h1, Nat.pow_add, Nat.mul_comm d]
          show _ = rd 10 s i * (10 ^ r.length * 10) + _
          rw [Nat.mul_comm 10 (10 ^ r.length)]
          omega
      · have hr : rdg c 10 = -1 := if_neg hok
        rw [hr] at HD
        have HN : Hid (¬ AllD 10 s) := Lib.hid fun h => hok (by rw [← HDV.out]; exact h.2 i hlt)
        have HB := Lib.hid hp.out.b
        have c0 := hp.out.c0
        have c1 := hp.out.c1
        have f0 := hp.out.f0
        have f1 := hp.out.f1
        clear hr hok e1
        go_wp2_with (go_at_call 132; refine (HD.out _).mono ?_; rintro e w1 ⟨rfl, rfl⟩)
        exact bodyPost_ret (v := .tuple #[numR false (.slice none 0 0), .bool false]) (by simp [results, Tryd.results109, go_sem, c0, c1, f0, f1]) rfl ⟨_, _, _, _, false, rfl, ⟨(fun h => by cases h), fun h => absurd h HN.out⟩, fun h => absurd h HN.out, (HB.out.setCell (Nat.le_refl _) _).setCell (Nat.le_refl _) _⟩
end Go.Proofs.YtkpoegdcmnjedaaDoor
namespace Go.Proofs.YtkpoegdcmnjedaaDoor
open Go.RowKit
set_option linter.unusedVariables false
set_option linter.unusedSimpArgs false

theorem cutL_size (s : ByteArray) : (cutL s).size ≤ s.size := by
  rw [cutL]
  split
  · have := cutL_size (s.extract 1 s.size)
    rw [ByteArray.size_extract] at this; omega
  · exact Nat.le_refl _
termination_by s.size
decreasing_by rw [ByteArray.size_extract]; omega
theorem cutR_size (s : ByteArray) : (cutR s).size ≤ s.size := by
  rw [cutR]
  split
  · have := cutR_size (s.extract 0 (s.size - 1))
    rw [ByteArray.size_extract] at this; omega
  · exact Nat.le_refl _
termination_by s.size
decreasing_by rw [ByteArray.size_extract]; omega
theorem ptext_size (s : ByteArray) : (ptext s).size ≤ s.size := Nat.le_trans (cutR_size _) (cutL_size _)
theorem pbase_cases (u : ByteArray) : pbase u = 16 ∨ pbase u = 8 ∨ pbase u = 2 ∨ pbase u = 10 := by
  unfold pbase; (repeat' split) <;> simp
/-- what the reference's Number tells. -/
def NbQ (s : ByteArray) (W : World) (e : Ending) (W' : World) : Prop :=
  ∃ m ao n cap ok, e = .returned (.tuple #[numR m (.slice ao n cap), .bool ok]) ∧ (ok = true ↔ IsNum s) ∧
    (IsNum s → ∃ u, N (W.heap.size + 1) W' (.slice ao n cap) (digs 10 u) ∧ m = (pneg (ptext s) && decide (0 < n)) ∧ (u = natT s ∨ (1200 < nt u ∧ u ≤ natT s))) ∧ Below W.heap.size W W'
/-- a Num's variable. -/
structure Box2 (g : Nat) (x0 x1 : Value) (W : World) : Prop where
  c0 : W.cell? ⟨g, 0, none⟩ = some x0
  c1 : W.cell? ⟨g, 1, none⟩ = some x1
  f0 : W.frozen? ⟨g, 0, none⟩ = false
  f1 : W.frozen? ⟨g, 1, none⟩ = false
theorem Box2.of {g : Nat} {x0 x1 : Value} {W : World} (h : W.heap[g]? = some (.cells #[x0, x1] 51 (0, 0))) : Box2 g x0 x1 W :=
  ⟨(cell_of_row _ _ _ _ _ _ h).trans rfl, (cell_of_row _ _ _ _ _ _ h).trans rfl, frozen_of_row _ _ _ _ _ h, frozen_of_row _ _ _ _ _ h⟩
theorem Box2.after {g : Nat} {x0 x1 : Value} {W W' : World} (h : Box2 g x0 x1 W) (hb : Below W.heap.size W W') : Box2 g x0 x1 W' := by
  have hlt : g < W.heap.size := World.block_lt_of_cell? W ⟨g, 0, none⟩ h.c0
  exact ⟨cell_after hb h.c0, cell_after hb h.c1, free_after hb hlt h.f0, free_after hb hlt h.f1⟩
theorem box2_new (W : World) (x0 x1 : Value) : ∃ V, V = W.alloc (Obj.cells #[x0, x1] 51) ∧ Box2 W.heap.size x0 x1 V ∧ Below W.heap.size W V ∧ V.heap.size = W.heap.size + 1 :=
  ⟨_, rfl, Box2.of (heap_alloc_new W _), (Below.refl _ _).alloc (Nat.le_refl _) _, by simp⟩

set_option maxRecDepth 100000 in
set_option maxHeartbeats 4000000 in
theorem ref_Number_any (s : ByteArray) (W : World) (hs : s.size ≤ 2000000) :
    Calls Tryd.prog 60 #[.string s] W (NbQ s W) := by
  obtain ⟨V, hV, hbox, vb, vs⟩ := box2_new W (.bool false) (.slice none 0 0)
  have HBX := Lib.hid hbox
  have HVB := Lib.hid vb
  have hts := ptext_size s
  obtain ⟨t, HT⟩ : ∃ t, Hid (ptext s = t) := ⟨_, Lib.hid rfl⟩
  have HTS : Hid (t.size ≤ s.size) := Lib.hid (by rw [← HT.out]; exact hts)
  have ht : t.size ≤ s.size := HTS.out
  have HST : Hid (∀ w, Calls Tryd.prog 108 #[.string s] w fun e W' => e = .returned (.string t) ∧ w = W') := Lib.hid (by rw [← HT.out]; exact fun w => strip_any s w hs)
  obtain ⟨c, HCB⟩ : ∃ c, Hid (byteN t 0 = c) := ⟨_, Lib.hid rfl⟩
  have hc255 : c ≤ 255 := by rw [← HCB.out]; exact byteN_le t 0
  obtain ⟨sg, HSG⟩ : ∃ b, Hid (decide (0 < t.size ∧ (c = 45 ∨ c = 43)) = b) := ⟨_, Lib.hid rfl⟩
  obtain ⟨mn, HMN⟩ : ∃ b, Hid (pneg t = b) := ⟨_, Lib.hid rfl⟩
  obtain ⟨u, HU⟩ : ∃ b, Hid (pbody t = b) := ⟨_, Lib.hid rfl⟩
  clear hbox vb hts
  go_enter Tryd.func60, Tryd.ntmps60
  go_upto_region 1 with (fail)
  rw [← hV]
  clear hV
  go_upto_region 3 with (go_at_call 108; refine (HST.out _).mono ?_; rintro e w1 ⟨rfl, rfl⟩)
  go_cut [21] from 10 to 21 (fun bv wx => bv = .bool sg ∧ wx = V)
  case first =>
    by_cases h0 : t.size = 0
    · have he3 : t.toList = [] := list_empty h0
      have he2 : t.toList.isEmpty = true := by rw [he3]; rfl
      have hsg : Hid (false = sg) := Lib.hid (by rw [← HSG.out]; symm; rw [decide_eq_false_iff_not]; omega)
      go_wp2
      go_meet
      exact ⟨congrArg Value.bool hsg.out, rfl⟩
    · have hne : t.toList.isEmpty = false := list_full h0
      have hne2 : ¬ t.toList = [] := list_full2 h0
      have hbt := byte_at t (i := 0) (by omega)
      rw [HCB.out] at hbt
      by_cases h45 : c = 45
      · have hsg : Hid (true = sg) := Lib.hid (by rw [← HSG.out]; symm; rw [decide_eq_true_eq]; omega)
        subst h45
        go_wp2
        go_meet
        exact ⟨congrArg Value.bool hsg.out, rfl⟩
      · by_cases h43 : c = 43
        · have hsg : Hid (true = sg) := Lib.hid (by rw [← HSG.out]; symm; rw [decide_eq_true_eq]; omega)
          subst h43
          go_wp2
          go_meet
          exact ⟨congrArg Value.bool hsg.out, rfl⟩
        · have hsg : Hid ((((c : Int) == 45) || ((c : Int) == 43)) = sg) := Lib.hid (by
            have n1 : ¬ (c : Int) = 45 := by omega
            have n2 : ¬ (c : Int) = 43 := by omega
            have e : decide (0 < t.size ∧ (c = 45 ∨ c = 43)) = false := by rw [decide_eq_false_iff_not]; omega
            rw [← HSG.out, e]; simp [n1, n2])
          go_wp2
          go_meet
          exact ⟨congrArg Value.bool hsg.out, rfl⟩
  case rest =>
    obtain ⟨rfl, rfl⟩ := hcut
    go_upto_if 21 with (fail)
    go_cut [0, 4] from 22 to 26 (fun sv mv wx => sv = .string u ∧ mv = .bool mn ∧ wx = wc)
    case first =>
      cases sg
      · have h1 : Hid (t = u) := Lib.hid <| by
          rw [← HU.out]; unfold pbody; rw [HCB.out, if_neg (of_decide_eq_false HSG.out)]
        have h2 : Hid (false = mn) := Lib.hid <| by
          rw [← HMN.out]; unfold pneg; rw [HCB.out]
          have := of_decide_eq_false HSG.out
          by_cases hz : 0 < t.size
          · have : ¬ c = 45 := by omega
            simp [this]
          · simp [hz]
        go_wp2
        go_meet
        exact ⟨congrArg Value.string h1.out, congrArg Value.bool h2.out, rfl⟩
      · have hs := of_decide_eq_true HSG.out
        have h1 : Hid (t.extract 1 t.size = u) := Lib.hid <| by
          rw [← HU.out]; unfold pbody; rw [HCB.out, if_pos hs]
        have h2 : Hid (((c : Int) == 45) = mn) := Lib.hid <| by
          rw [← HMN.out]; unfold pneg; rw [HCB.out]
          by_cases e : c = 45
          · subst e; simp [hs.1]
          · have : ¬ (c : Int) = 45 := by omega
            simp [e, this]
        have hsz := hs.1
        clear hs
        have hbt := byte_at t (i := 0) hsz
        rw [HCB.out] at hbt
        go_wp2
        go_meet
        exact ⟨congrArg Value.string h1.out, congrArg Value.bool h2.out, rfl⟩
    case rest =>
      obtain ⟨rfl, rfl, rfl⟩ := hcut
      have hu : u.size ≤ s.size := by
        rw [← HU.out]; unfold pbody; split
        · rw [ByteArray.size_extract]; omega
        · exact ht
      obtain ⟨bb, HBB⟩ : ∃ b, Hid (pbase u = b) := ⟨_, Lib.hid rfl⟩
      obtain ⟨x, HX⟩ : ∃ b, Hid (pdig u = b) := ⟨_, Lib.hid rfl⟩
      obtain ⟨d0, HD0⟩ : ∃ c, Hid (byteN u 0 = c) := ⟨_, Lib.hid rfl⟩
      have h0255 : d0 ≤ 255 := by rw [← HD0.out]; exact byteN_le u 0
      obtain ⟨d1, HD1⟩ : ∃ c, Hid (byteN u 1 = c) := ⟨_, Lib.hid rfl⟩
      have h1255 : d1 ≤ 255 := by rw [← HD1.out]; exact byteN_le u 1
      obtain ⟨z, HZ⟩ : ∃ b, Hid (decide (2 ≤ u.size ∧ d0 = 48) = b) := ⟨_, Lib.hid rfl⟩
      have hxs : x.size ≤ s.size := by
        rw [← HX.out]; unfold pdig; split
        · exact hu
        · rw [ByteArray.size_extract]; omega
      have HIS : Hid (IsNum s ↔ AllD bb x) := Lib.hid (by unfold IsNum pbs pds; rw [HT.out, HU.out, HBB.out, HX.out])
      have HNT : Hid (natT s = rd bb x x.size) := Lib.hid (by unfold natT pbs pds; rw [HT.out, HU.out, HBB.out, HX.out])
      go_upto_region 7 with (fail)
      go_cut [34] from 27 to 34 (fun bv wx => bv = .bool z ∧ wx = wc)
      case first =>
        by_cases h2 : 2 ≤ u.size
        · have hbt := byte_at u (i := 0) (by omega)
          rw [HD0.out] at hbt
          have hz : Hid (((d0 : Int) == 48) = z) := Lib.hid (by
            rw [← HZ.out]
            by_cases e : d0 = 48
            · subst e; simp [h2]
            · have n : ¬ (d0 : Int) = 48 := by omega
              simp [e, n])
          have h2' : 1 < u.size := by omega
          go_wp2
          go_meet
          exact ⟨congrArg Value.bool hz.out, rfl⟩
        · have hz : Hid (false = z) := Lib.hid (by rw [← HZ.out]; symm; rw [decide_eq_false_iff_not]; omega)
          have h2' : u.size ≤ 1 := by omega
          go_wp2
          go_meet
          exact ⟨congrArg Value.bool hz.out, rfl⟩
      case rest =>
        obtain ⟨rfl, rfl⟩ := hcut
        go_upto_if 34 with (fail)
        go_cut [0, 5] from 35 to 46 (fun sv bv wx => sv = .string x ∧ bv = .int .i64 bb ∧ wx = wc)
        case first =>
          cases z
          · have hb : Hid (10 = bb) := Lib.hid (by
              rw [← HBB.out]; unfold pbase; rw [HD0.out, if_neg (of_decide_eq_false HZ.out)])
            have hx : Hid (u = x) := Lib.hid (by rw [← HX.out]; unfold pdig; rw [HBB.out, ← hb.out, if_pos rfl])
            go_wp2
            go_meet
            exact ⟨congrArg Value.string hx.out, by rw [← hb.out]; rfl, rfl⟩
          · have hzz := of_decide_eq_true HZ.out
            have hsz := hzz.1
            have HPB : Hid ((if d1 = 120 then 16 else if d1 = 111 then 8 else if d1 = 98 then 2 else 10) = bb) := Lib.hid (by
              rw [← HBB.out]; unfold pbase; rw [HD0.out, if_pos hzz, HD1.out])
            have HPX : Hid (bb ≠ 10 → u.extract 2 u.size = x) := Lib.hid (fun h => by rw [← HX.out]; unfold pdig; rw [HBB.out, if_neg h])
            have HPY : Hid (bb = 10 → u = x) := Lib.hid (fun h => by rw [← HX.out]; unfold pdig; rw [HBB.out, if_pos h])
            clear hzz
            have hbt := byte_at u (i := 1) (by omega)
            rw [HD1.out] at hbt
            by_cases e1 : d1 = 120
            · subst e1
              have hx : Hid (u.extract 2 u.size = x) := Lib.hid (HPX.out (by rw [← HPB.out]; decide))
              go_wp2
              go_meet
              exact ⟨congrArg Value.string hx.out, by rw [← HPB.out]; rfl, rfl⟩
            · by_cases e2 : d1 = 111
              · subst e2
                have hx : Hid (u.extract 2 u.size = x) := Lib.hid (HPX.out (by rw [← HPB.out]; decide))
                go_wp2
                go_meet
                exact ⟨congrArg Value.string hx.out, by rw [← HPB.out]; rfl, rfl⟩
              · by_cases e3 : d1 = 98
                · subst e3
                  have hx : Hid (u.extract 2 u.size = x) := Lib.hid (HPX.out (by rw [← HPB.out]; decide))
                  go_wp2
                  go_meet
                  exact ⟨congrArg Value.string hx.out, by rw [← HPB.out]; rfl, rfl⟩
                · have hb : Hid (10 = bb) := Lib.hid (by rw [← HPB.out, if_neg e1, if_neg e2, if_neg e3])
                  have hx : Hid (u = x) := Lib.hid (HPY.out hb.out.symm)
                  have n1 : ¬ (d1 : Int) = 120 := by omega
                  have n2 : ¬ (d1 : Int) = 111 := by omega
                  have n3 : ¬ (d1 : Int) = 98 := by omega
                  go_wp2
                  go_meet
                  exact ⟨congrArg Value.string hx.out, by rw [← hb.out]; rfl, rfl⟩
        case rest =>
          obtain ⟨rfl, rfl, rfl⟩ := hcut
          have hbc := pbase_cases u
          rw [HBB.out] at hbc
          have c0 := HBX.out.c0
          have c1 := HBX.out.c1
          have f0 := HBX.out.f0
          have f1 := HBX.out.f1
          by_cases h10 : bb = 10
          · subst h10
            clear hbc
            go_wp2_with (go_at_call 109; refine (ref_decimal_any _ _ _ (by omega)).mono ?_; rintro e w2 ⟨m, ao, n, cap, ok, rfl, hok, hd, hb2⟩; have HOK := Lib.hid hok; have HD := Lib.hid hd; have HB2 := Lib.hid hb2; have HX2 := Lib.hid (HBX.out.after hb2); obtain ⟨x0, x1, y0, y1⟩ := HX2.out; clear hok hd hb2)
            refine bodyPost_ret (v := .tuple #[numR m (.slice ao n cap), .bool ok]) (by simp [results, Tryd.results60, go_sem, x0, x1, y0, y1]) rfl ⟨m, ao, n, cap, ok, rfl, HOK.out.trans HIS.out.symm, fun h => ?_, ((HVB.out.trans (HB2.out.mono (by omega))).setCell (Nat.le_refl _) _).setCell (Nat.le_refl _) _⟩
            obtain ⟨k1, k2⟩ := HD.out (HIS.out.1 h)
            refine ⟨rd 10 x x.size, ((k1.setOther (by omega) 0 _).setOther (by omega) 1 _).mono (by omega), ?_, Or.inl HNT.out.symm⟩
            rw [HT.out, HMN.out]; exact k2
          · have hbb : 2 ≤ bb ∧ bb ≤ 36 := by omega
            have h10' : ((bb : Int) == 10) = false := by rw [beq_eq_false_iff_ne]; omega
            clear hbc h10
            go_wp2_with (first | (go_at_call 107; refine (ref_digits_any _ _ _ (by omega) hbb.1 hbb.2).mono ?_; rintro e w2 ⟨v, ok, u2, rfl, hok, hm2, hd, hb2⟩; obtain ⟨ao, n, cap, rfl⟩ := hm2.slice3; have HOK := Lib.hid hok; have HM2 := Lib.hid hm2; have HD := Lib.hid hd; have HB2 := Lib.hid hb2; have HX2 := Lib.hid (HBX.out.after hb2); clear hok hd hb2 hm2) | (go_at_call 83; refine (ref_num_any _ _ _ _ _).mono ?_; rintro e w3 ⟨rfl, hb3⟩; have HB3 := Lib.hid hb3; have HX3 := Lib.hid (HX2.out.after hb3); obtain ⟨x0, x1, y0, y1⟩ := HX3.out; clear hb3))
            have hz2 := HB2.out.size
            refine bodyPost_ret (v := .tuple #[numR (mn && decide (0 < n)) (.slice ao n cap), .bool ok]) (by simp [results, Tryd.results60, go_sem, x0, x1, y0, y1]) rfl ⟨_, ao, n, cap, ok, rfl, HOK.out.trans HIS.out.symm, fun h => ?_, (((HVB.out.trans (HB2.out.mono (by omega))).trans (HB3.out.mono (by omega))).setCell (Nat.le_refl _) _).setCell (Nat.le_refl _) _⟩
            refine ⟨u2, (((HM2.out.later HB3.out (Nat.le_refl _)).setOther (by omega) 0 _).setOther (by omega) 1 _).mono (by omega), ?_, ?_⟩
            · rw [HT.out, HMN.out]
            · rw [HNT.out]; exact HD.out (HIS.out.1 h)
end Go.Proofs.YtkpoegdcmnjedaaDoor
