import Derived.Test.YtkpoegdcmnjedaaDoorRD3
namespace Go.Proofs.YtkpoegdcmnjedaaDoor
open Go.RowKit
set_option linter.unusedVariables false
set_option linter.unusedSimpArgs false

structure DcI (s : ByteArray) (W wr : World) (v : Value) (k : Nat) (r : List Nat) : Prop where
  all : ∀ j, k ≤ j → j < s.size → dvS s j < 10
  len : r.length + k = s.size
  dig : Dig 10 r
  eq : rd 10 s s.size = rd 10 s k * 10 ^ r.length + val 10 r
  m : N (W.heap.size + 1) wr v r
  b : Below W.heap.size W wr
  z : W.heap.size + 1 ≤ wr.heap.size
  c0 : wr.cell? ⟨W.heap.size, 0, none⟩ = some (.bool false)
  c1 : wr.cell? ⟨W.heap.size, 1, none⟩ = some (.slice none 0 0)
  f0 : wr.frozen? ⟨W.heap.size, 0, none⟩ = false
  f1 : wr.frozen? ⟨W.heap.size, 1, none⟩ = false
theorem N.setOther {B : Nat} {W : World} {v : Value} {l : List Nat} (h : N B W v l) {b : Nat} (hb : b < B) (j : Nat) (x : Value) : N B (W.setCell ⟨b, j, none⟩ x) v l := by
  refine h.kept (grownBy_setCell W b j x) ?_
  cases e : v.ownBlock with
  | none => exact Or.inl rfl
  | some k => exact Or.inr fun e2 => by have := (h.lt k e).1; cases e2; omega
/-- what decimal tells. -/
def DcQ (neg : Bool) (s : ByteArray) (W : World) (e : Ending) (W' : World) : Prop :=
  ∃ m ao n cap ok, e = .returned (.tuple #[numR m (.slice ao n cap), .bool ok]) ∧ (ok = true ↔ AllD 10 s) ∧
    (AllD 10 s → N (W.heap.size + 1) W' (.slice ao n cap) (digs 10 (rd 10 s s.size)) ∧ m = (neg && decide (0 < n))) ∧ Below W.heap.size W W'
set_option maxRecDepth 100000 in
set_option maxHeartbeats 2000000 in
theorem ref_decimal_any (neg : Bool) (s : ByteArray) (W : World) (hs : s.size ≤ 2000000) :
    Calls Tryd.prog 109 #[.bool neg, .string s] W (DcQ neg s W) := by
  obtain ⟨V, hV⟩ : ∃ V, V = W.alloc (Obj.cells #[.bool false, .slice none 0 0] 51) := ⟨_, rfl⟩
  have hv0 : V.heap[W.heap.size]? = some (.cells #[.bool false, .slice none 0 0] 51 (0, 0)) := by rw [hV]; exact heap_alloc_new W _
  have HI0 : Hid (DcI s W V (.slice none 0 0) s.size []) := Lib.hid ⟨fun j h1 h2 => by omega, by simp, Dig.nil (by decide), by simp [val_nil], N.nil _ _, by rw [hV]; exact (Below.refl _ _).alloc (Nat.le_refl _) _, by rw [hV]; simp,
    (cell_of_row _ _ _ _ _ _ hv0).trans rfl, (cell_of_row _ _ _ _ _ _ hv0).trans rfl, frozen_of_row _ _ _ _ _ hv0, frozen_of_row _ _ _ _ _ hv0⟩
  have HDG : Hid (∀ (c : Nat) (w : World), c ≤ 255 → Calls Tryd.prog 132 #[.int .u8 c, .int .i64 10] w fun e w' => e = .returned (.int .i64 (rdg c 10)) ∧ w = w') := Lib.hid fun c w hc => ref_Digit_any c 10 w hc (by decide) (by decide)
  clear hv0
  go_enter Tryd.func109, Tryd.ntmps109
  go_upto_region 1 with (fail)
  rw [← hV]
  clear hV
  go_wp2
  go_loopw [6, 7] (fun v iv wr => ∃ (k : Nat) (r : List Nat), iv = .int .i64 ((k : Int) - 1) ∧ k ≤ s.size ∧ Hid (DcI s W wr v k r)) (fun _ i _ => (intOf i + 1).toNat)
  case atStart => exact ⟨s.size, [], rfl, Nat.le_refl _, HI0⟩
  case round =>
    obtain ⟨k, r, rfl, hk, hp⟩ := hrel
    obtain ⟨av, nv, cv, rfl⟩ := hp.out.m.slice3
    by_cases h0 : k = 0
    · subst h0
      have HB := Lib.hid hp.out.b
      have hval : Hid (val 10 r = rd 10 s s.size) := Lib.hid (by
        have h := hp.out.eq
        have h2 : rd 10 s 0 = 0 := rfl
        rw [h2, Nat.zero_mul, Nat.zero_add] at h
        exact h.symm)
      have HNT := Lib.hid (hp.out.m.trim hp.out.dig)
      obtain ⟨nn, HNN⟩ : ∃ n, Hid (nt (val 10 r) = n) := ⟨_, Lib.hid rfl⟩
      have HT : Hid (∀ w, N (W.heap.size + 1) w (.slice av nv cv) r → Calls Tryd.prog 95 #[.slice av nv cv] w fun e w' => e = .returned (.slice av nn cv) ∧ w = w') := Lib.hid (by
        rw [← HNN.out]; exact fun w h => ref_trimmed_any h hp.out.dig)
      rw [HNN.out, hval.out] at HNT
      have c0 := hp.out.c0
      have c1 := hp.out.c1
      have f0 := hp.out.f0
      have f1 := hp.out.f1
      have hz := hp.out.z
      by_cases h0 : s.size = 0
      · have he3 : s.toList = [] := list_empty h0
        have he2 : s.toList.isEmpty = true := by rw [he3]; rfl
        have HN : Hid (¬ AllD 10 s) := Lib.hid fun h => by have := h.1; omega
        go_wp2_with (first | (go_at_call 95; refine (HT.out _ hp.out.m).mono ?_; rintro e w1 ⟨rfl, rfl⟩) | (go_at_call 83; refine (ref_num_any _ _ _ _ _).mono ?_; rintro e w2 ⟨rfl, hb2⟩; have HB2 := Lib.hid hb2; have d0 := cell_after hb2 c0; have d1 := cell_after hb2 c1; have g0 := free_after (a := ⟨W.heap.size, 0, none⟩) hb2 (World.block_lt_of_cell? _ ⟨W.heap.size, 0, none⟩ c0) f0; have g1 := free_after (a := ⟨W.heap.size, 1, none⟩) hb2 (World.block_lt_of_cell? _ ⟨W.heap.size, 0, none⟩ c0) f1; clear hb2))
        exact bodyPost_ret (v := .tuple #[numR (neg && decide (0 < nn)) (.slice av nn cv), .bool false]) (by simp [results, Tryd.results109, go_sem, d0, d1, g0, g1]) rfl ⟨_, _, _, _, false, rfl, ⟨(fun h => by cases h), fun h => absurd h HN.out⟩, fun h => absurd h HN.out, ((HB.out.trans (HB2.out.mono (by omega))).setCell (Nat.le_refl _) _).setCell (Nat.le_refl _) _⟩
      · have hne : s.toList.isEmpty = false := list_full h0
        have hne2 : ¬ s.toList = [] := list_full2 h0
        have HA : Hid (AllD 10 s) := Lib.hid ⟨by omega, fun i hi => hp.out.all i (Nat.zero_le _) hi⟩
        go_wp2_with (first | (go_at_call 95; refine (HT.out _ hp.out.m).mono ?_; rintro e w1 ⟨rfl, rfl⟩) | (go_at_call 83; refine (ref_num_any _ _ _ _ _).mono ?_; rintro e w2 ⟨rfl, hb2⟩; have HB2 := Lib.hid hb2; have d0 := cell_after hb2 c0; have d1 := cell_after hb2 c1; have g0 := free_after (a := ⟨W.heap.size, 0, none⟩) hb2 (World.block_lt_of_cell? _ ⟨W.heap.size, 0, none⟩ c0) f0; have g1 := free_after (a := ⟨W.heap.size, 1, none⟩) hb2 (World.block_lt_of_cell? _ ⟨W.heap.size, 0, none⟩ c0) f1; clear hb2))
        refine bodyPost_ret (v := .tuple #[numR (neg && decide (0 < nn)) (.slice av nn cv), .bool true]) (by simp [results, Tryd.results109, go_sem, d0, d1, g0, g1]) rfl ⟨_, _, _, _, true, rfl, ⟨fun _ => HA.out, fun _ => rfl⟩, fun _ => ⟨?_, rfl⟩, ((HB.out.trans (HB2.out.mono (by omega))).setCell (Nat.le_refl _) _).setCell (Nat.le_refl _) _⟩
        exact ((HNT.out.later HB2.out (Nat.le_refl _)).setOther (Nat.lt_succ_self _) 0 _).setOther (Nat.lt_succ_self _) 1 _
    · obtain ⟨i, rfl⟩ : ∃ i, k = i + 1 := ⟨k - 1, by omega⟩
      have e1 : ((i + 1 : Nat) : Int) - 1 = (i : Int) := by omega
      rw [e1]
      have hlt : i < s.size := by omega
      have hbt := byte_at s hlt
      obtain ⟨c, HC⟩ : ∃ c, Hid (byteN s i = c) := ⟨_, Lib.hid rfl⟩
      have hc : c ≤ 255 := by rw [← HC.out]; exact byteN_le s i
      rw [HC.out] at hbt
      have HDV : Hid (dvS s i = dvN c) := Lib.hid (by show dvN (byteN s i) = _; rw [HC.out])
      have HD := Lib.hid (fun w => HDG.out c w hc)
      by_cases hok : dvN c < 10
      · have hr : rdg c 10 = (dvN c : Int) := if_pos hok
        rw [hr] at HD
        obtain ⟨d, Hd⟩ : ∃ d, Hid (dvN c = d) := ⟨_, Lib.hid rfl⟩
        rw [Hd.out] at HD hok HDV
        have HLL : Hid (r.length ≤ 1000000000) := Lib.hid (by have := hp.out.len; omega)
        have hBw := hp.out.z
        clear hr e1
        go_wp2_with (first | (go_at_call 132; refine (HD.out _).mono ?_; rintro e w1 ⟨rfl, rfl⟩) | (at_builtin; go_loud (refine wpList_app64 rfl _ _ rfl (W.heap.size + 1) wr _ d rfl (.slice av nv cv) r rfl rfl hp.out.m hBw HLL.out ?_; intro v' w' hb' hm' _; have HNN := Lib.hid hm'; have HBB := Lib.hid hb'; clear hm' hb')))
        refine ⟨⟨i, r ++ [d], rfl, by omega, Lib.hid ⟨?_, by rw [List.length_append]; have := hp.out.len; simp; omega, hp.out.dig.snoc hok, ?_, HNN.out, hp.out.b.trans (HBB.out.mono (by omega)), Nat.le_trans hp.out.z HBB.out.size, (HBB.out.cell (Nat.lt_succ_self _)).trans hp.out.c0, (HBB.out.cell (Nat.lt_succ_self _)).trans hp.out.c1, (HBB.out.frozen (Nat.lt_succ_self _)).trans hp.out.f0, (HBB.out.frozen (Nat.lt_succ_self _)).trans hp.out.f1⟩⟩, by simp [intOf]⟩
        · intro j h1 h2
          by_cases e : j = i
          · rw [e, HDV.out]; exact hok
          · exact hp.out.all j (by omega) h2
        · have h1 := hp.out.eq
          have h2 : rd 10 s (i + 1) = rd 10 s i * 10 + dvS s i := rfl
          rw [h2, HDV.out, Nat.add_mul, Nat.mul_assoc] at h1
          rw [val_snoc, List.length_append, h1, Nat.pow_add, Nat.mul_comm d]
          show _ = rd 10 s i * (10 ^ r.length * 10) + _
          rw [Nat.mul_comm 10 (10 ^ r.length)]
          omega
      · have hr : rdg c 10 = -1 := if_neg hok
        rw [hr] at HD
        have HN : Hid (¬ AllD 10 s) := Lib.hid fun h => hok (by rw [← HDV.out]; exact h.2 i hlt)
        have HB := Lib.hid hp.out.b
        have c0 := hp.out.c0
        have c1 := hp.out.c1
        have f0 := hp.out.f0
        have f1 := hp.out.f1
        clear hr hok e1
        go_wp2_with (go_at_call 132; refine (HD.out _).mono ?_; rintro e w1 ⟨rfl, rfl⟩)
        exact bodyPost_ret (v := .tuple #[numR false (.slice none 0 0), .bool false]) (by simp [results, Tryd.results109, go_sem, c0, c1, f0, f1]) rfl ⟨_, _, _, _, false, rfl, ⟨(fun h => by cases h), fun h => absurd h HN.out⟩, fun h => absurd h HN.out, (HB.out.setCell (Nat.le_refl _) _).setCell (Nat.le_refl _) _⟩
end Go.Proofs.YtkpoegdcmnjedaaDoor
