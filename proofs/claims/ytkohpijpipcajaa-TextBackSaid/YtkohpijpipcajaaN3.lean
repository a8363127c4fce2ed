import Derived.Test.YtkohpijpipcajaaN2
namespace Go.Proofs.Ytkohpijpipcajaa
open Go.RowKit
set_option linter.unusedVariables false
set_option linter.unusedSimpArgs false

theorem repT_size {s : ByteArray} {n : Nat} (hs : s.size ≤ 400) (hn : n ≤ 40) : (repT s n).size ≤ 65536 := by
  rw [(repT_nat hs hn).1]
  show (Lib.repeatL s.data.toList n).toArray.size ≤ 65536
  rw [List.size_toArray, Lib.repeatL_length, size_list]
  exact Nat.le_trans (Nat.mul_le_mul hn hs) (by decide)

set_option maxRecDepth 100000 in
set_option maxHeartbeats 8000000 in
theorem textBack_near (s t : ByteArray) (a b : Nat) (x2 : Int) (w : World) (hs : s.size ≤ 400) (ht : t.size ≤ 400) (ha : a ≤ 20) (hb : b ≤ 20)
    (c0 : -9223372036854775808 ≤ x2) (c1 : x2 ≤ 9223372036854775807) (hmx : HasMax w) :
    Calls Try.prog 8 #[.string s, .string t, .agg #[.int .i64 a, .int .i64 b, .int .i64 x2]] w fun e w' => e = .returned (.bool true) ∧ Below w.heap.size w w' := by
  obtain ⟨V, hV, hbox, k0, k1, bl, hsz⟩ := box_texts w a b x2 s t
  have HV := Lib.hid hV
  have HB := Lib.hid hbox
  have BL := Lib.hid bl
  have hle : w.heap.size < V.heap.size := by omega
  have HL := Lib.hid (long2 s t (w.heap.size + 1) V (by omega) (by omega) k0 k1)
  have hpos : 0 < V.heap.size := by omega
  have HM := Lib.hid (hmx.later (B := w.heap.size) (by obtain ⟨m, hm⟩ := hmx; exact block_lt_of_cell hm) bl)
  clear hV hbox bl k0 k1 hsz hmx
  have HD := Lib.hid (show decide (400 < s.size ∨ 400 < t.size) = false by simp; omega)
  have HA0 := Lib.hid (repT_nat (n := a) hs (by omega)).2
  have HB0 := Lib.hid (repT_nat (n := b) hs (by omega)).2
  have HC0 : Hid (repE s (a + b : Int) = 0) := Lib.hid (by have := (repT_nat (n := a + b) hs (by omega)).2; rwa [Int.natCast_add] at this)
  have HAdd := Lib.hid (repT_add (s := s) hs ha hb)
  have HRR := Lib.hid (rev_rev s)
  have HLU := Lib.hid (lower_upper s)
  obtain ⟨i0, i1, i2⟩ := HB.out
  go_enter Try.func8, Try.ntmps8
  go_wp2_with fail
  rw [← HV.out]
  refine HL.out.mono ?_
  rintro e w' ⟨rfl, rfl⟩
  rw [HD.out]
  go_wp2_with fail
  refine (repeat_any s a _ hs (by omega) (by omega)).mono ?_
  rintro e W1 ⟨rfl, hb1⟩
  rw [HA0.out]
  have B1 := Lib.hid hb1
  clear hb1 i0 i1 i2
  obtain ⟨i0, i1, i2⟩ := HB.out.later hle B1.out
  go_wp2_with fail
  refine (repeat_any s b _ hs (by omega) (by omega)).mono ?_
  rintro e W2 ⟨rfl, hb2⟩
  rw [HB0.out]
  have B2 := Lib.hid (B1.out.trans (hb2.mono B1.out.size))
  clear hb2 i0 i1 i2
  obtain ⟨i0, i1, i2⟩ := HB.out.later hle B2.out
  go_wp2_with fail
  refine (repeat_any s (a + b : Int) _ hs (by omega) (by omega)).mono ?_
  rintro e W3 ⟨rfl, hb3⟩
  rw [HC0.out, ← HAdd.out]
  have B3 := Lib.hid (B2.out.trans (hb3.mono B2.out.size))
  clear hb3 i0 i1 i2
  go_wp2_with fail
  refine (reverse_any s _ (by omega)).mono ?_
  rintro e W4 ⟨rfl, hb4⟩
  have B4 := Lib.hid (B3.out.trans (hb4.mono B3.out.size))
  clear hb4
  have hz4 : (strOfNums (numsB s).reverse).size ≤ 100000 := by rw [strOfNums_size, List.length_reverse, numsB_length]; omega
  go_wp2_with fail
  refine (reverse_any _ _ hz4).mono ?_
  rintro e W5 ⟨rfl, hb5⟩
  rw [HRR.out]
  have B5 := Lib.hid (B4.out.trans (hb5.mono B4.out.size))
  clear hb5 hz4
  go_wp2_with fail
  refine (upper_any s _ (by omega)).mono ?_
  rintro e W6 ⟨rfl, hb6⟩
  have B6 := Lib.hid (B5.out.trans (hb6.mono B5.out.size))
  clear hb6
  have hz6 : (strOfNums ((numsB s).map grt)).size ≤ 100000 := by rw [strOfNums_size, List.length_map, numsB_length]; omega
  go_wp2_with fail
  refine (lower_any _ _ hz6).mono ?_
  rintro e W7 ⟨rfl, hb7⟩
  rw [HLU.out]
  have B7 := Lib.hid (B6.out.trans (hb7.mono B6.out.size))
  clear hb7 hz6
  go_wp2_with fail
  refine (lower_any s _ (by omega)).mono ?_
  rintro e W8 ⟨rfl, hb8⟩
  have B8 := Lib.hid (B7.out.trans (hb8.mono B7.out.size))
  clear hb8
  obtain ⟨i0, i1, i2⟩ := HB.out.later hle B8.out
  have hra := repT_size (n := a) hs (by omega)
  have hrb := repT_size (n := b) hs (by omega)
  go_wp2_with fail
  clear hra hrb i2
  have HM8 := HM.out.later hpos B8.out
  refine (first_any s t x2 W8 (by omega) c0 c1 HM8).mono ?_
  rintro e w' ⟨p, hp, rfl, rfl⟩
  rcases hp with ⟨rfl, hp⟩ | ⟨i, rfl, q0, q1, q2, q3, q4⟩
  · clear hp HM8
    obtain ⟨i0, i1, i2⟩ := HB.out.later hle B8.out
    go_wp2_with fail
    refine (last_any s t x2 _ (by omega) (by omega) c0 c1).mono ?_
    rintro e w9 ⟨p, hp, rfl, rfl⟩
    rcases hp with ⟨rfl, hp⟩ | ⟨j, rfl, r0, r1, r2, r3, r4⟩
    · clear hp
      rcases (show b < a ∨ (a ≤ b ∧ s.size ≤ b) ∨ (a ≤ b ∧ b < s.size) by omega) with d | ⟨d, d1⟩ | ⟨d, d1⟩
      · go_wp2_with fail
        refine (awake_any _).mono ?_
        rintro e W9 ⟨rfl, hb9⟩
        have B9 := Lib.hid (BL.out.trans ((B8.out.trans (hb9.mono B8.out.size)).mono (by omega)))
        clear hb9
        go_wp2
        go_ret
        exact ⟨rfl, B9.out⟩
      · go_wp2_with fail
        refine (awake_any _).mono ?_
        rintro e W9 ⟨rfl, hb9⟩
        have B9 := Lib.hid (BL.out.trans ((B8.out.trans (hb9.mono B8.out.size)).mono (by omega)))
        clear hb9
        go_wp2
        go_ret
        exact ⟨rfl, B9.out⟩
      · go_wp2_with fail
        refine (replace_in s t a b a b _ hs ht (by omega) (by omega) d d1).mono ?_
        rintro e W9 ⟨rfl, hb9⟩
        have B9 := Lib.hid (B8.out.trans (hb9.mono B8.out.size))
        clear hb9 i0 i1 i2
        obtain ⟨i0, i1, i2⟩ := HB.out.later hle B9.out
        have hz9 : (s.extract 0 a ++ t ++ s.extract (b + 1) s.size).size ≤ 100000 := by simp only [ByteArray.size_append, ByteArray.size_extract]; omega
        have HR9 := Lib.hid (range_replaced (s := s) (t := t) d d1)
        go_wp2_with fail
        refine (range_any _ a _ _ hz9 (by omega) (by omega) (by omega) (by omega)).mono ?_
        rintro e W10 ⟨rfl, rfl⟩
        rw [HR9.out]
        clear hz9
        go_wp2_with fail
        refine (awake_any _).mono ?_
        rintro e W11 ⟨rfl, hb11⟩
        have B11 := Lib.hid (BL.out.trans ((B9.out.trans (hb11.mono B9.out.size)).mono (by omega)))
        clear hb11
        go_wp2
        go_ret
        exact ⟨rfl, B11.out⟩
    · have hex2 := occ_extract r3 r0
      have r5 : (j : Int) + t.size ≤ s.size := by omega
      have r6 : (j : Int) ≤ (j : Int) + t.size := by omega
      have r7 : ((j : Int) + t.size).toNat = j + t.size := by omega
      clear r3 r4
      rcases (show b < a ∨ (a ≤ b ∧ s.size ≤ b) ∨ (a ≤ b ∧ b < s.size) by omega) with d | ⟨d, d1⟩ | ⟨d, d1⟩
      · go_wp2_with fail
        refine (awake_any _).mono ?_
        rintro e W9 ⟨rfl, hb9⟩
        have B9 := Lib.hid (BL.out.trans ((B8.out.trans (hb9.mono B8.out.size)).mono (by omega)))
        clear hb9
        go_wp2
        go_ret
        exact ⟨rfl, B9.out⟩
      · go_wp2_with fail
        refine (awake_any _).mono ?_
        rintro e W9 ⟨rfl, hb9⟩
        have B9 := Lib.hid (BL.out.trans ((B8.out.trans (hb9.mono B8.out.size)).mono (by omega)))
        clear hb9
        go_wp2
        go_ret
        exact ⟨rfl, B9.out⟩
      · go_wp2_with fail
        refine (replace_in s t a b a b _ hs ht (by omega) (by omega) d d1).mono ?_
        rintro e W9 ⟨rfl, hb9⟩
        have B9 := Lib.hid (B8.out.trans (hb9.mono B8.out.size))
        clear hb9 i0 i1 i2
        obtain ⟨i0, i1, i2⟩ := HB.out.later hle B9.out
        have hz9 : (s.extract 0 a ++ t ++ s.extract (b + 1) s.size).size ≤ 100000 := by simp only [ByteArray.size_append, ByteArray.size_extract]; omega
        have HR9 := Lib.hid (range_replaced (s := s) (t := t) d d1)
        go_wp2_with fail
        refine (range_any _ a _ _ hz9 (by omega) (by omega) (by omega) (by omega)).mono ?_
        rintro e W10 ⟨rfl, rfl⟩
        rw [HR9.out]
        clear hz9
        go_wp2_with fail
        refine (awake_any _).mono ?_
        rintro e W11 ⟨rfl, hb11⟩
        have B11 := Lib.hid (BL.out.trans ((B9.out.trans (hb11.mono B9.out.size)).mono (by omega)))
        clear hb11
        go_wp2
        go_ret
        exact ⟨rfl, B11.out⟩
  · have hex := occ_extract q3 q0
    have q5 : (i : Int) + t.size ≤ s.size := by omega
    have q6 : (i : Int) ≤ (i : Int) + t.size := by omega
    have q7 : ((i : Int) + t.size).toNat = i + t.size := by omega
    clear q3 q4 HM8
    obtain ⟨i0, i1, i2⟩ := HB.out.later hle B8.out
    go_wp2_with fail
    refine (last_any s t x2 _ (by omega) (by omega) c0 c1).mono ?_
    rintro e w9 ⟨p, hp, rfl, rfl⟩
    rcases hp with ⟨rfl, hp⟩ | ⟨j, rfl, r0, r1, r2, r3, r4⟩
    · clear hp
      rcases (show b < a ∨ (a ≤ b ∧ s.size ≤ b) ∨ (a ≤ b ∧ b < s.size) by omega) with d | ⟨d, d1⟩ | ⟨d, d1⟩
      · go_wp2_with fail
        refine (awake_any _).mono ?_
        rintro e W9 ⟨rfl, hb9⟩
        have B9 := Lib.hid (BL.out.trans ((B8.out.trans (hb9.mono B8.out.size)).mono (by omega)))
        clear hb9
        go_wp2
        go_ret
        exact ⟨rfl, B9.out⟩
      · go_wp2_with fail
        refine (awake_any _).mono ?_
        rintro e W9 ⟨rfl, hb9⟩
        have B9 := Lib.hid (BL.out.trans ((B8.out.trans (hb9.mono B8.out.size)).mono (by omega)))
        clear hb9
        go_wp2
        go_ret
        exact ⟨rfl, B9.out⟩
      · go_wp2_with fail
        refine (replace_in s t a b a b _ hs ht (by omega) (by omega) d d1).mono ?_
        rintro e W9 ⟨rfl, hb9⟩
        have B9 := Lib.hid (B8.out.trans (hb9.mono B8.out.size))
        clear hb9 i0 i1 i2
        obtain ⟨i0, i1, i2⟩ := HB.out.later hle B9.out
        have hz9 : (s.extract 0 a ++ t ++ s.extract (b + 1) s.size).size ≤ 100000 := by simp only [ByteArray.size_append, ByteArray.size_extract]; omega
        have HR9 := Lib.hid (range_replaced (s := s) (t := t) d d1)
        go_wp2_with fail
        refine (range_any _ a _ _ hz9 (by omega) (by omega) (by omega) (by omega)).mono ?_
        rintro e W10 ⟨rfl, rfl⟩
        rw [HR9.out]
        clear hz9
        go_wp2_with fail
        refine (awake_any _).mono ?_
        rintro e W11 ⟨rfl, hb11⟩
        have B11 := Lib.hid (BL.out.trans ((B9.out.trans (hb11.mono B9.out.size)).mono (by omega)))
        clear hb11
        go_wp2
        go_ret
        exact ⟨rfl, B11.out⟩
    · have hex2 := occ_extract r3 r0
      have r5 : (j : Int) + t.size ≤ s.size := by omega
      have r6 : (j : Int) ≤ (j : Int) + t.size := by omega
      have r7 : ((j : Int) + t.size).toNat = j + t.size := by omega
      clear r3 r4
      rcases (show b < a ∨ (a ≤ b ∧ s.size ≤ b) ∨ (a ≤ b ∧ b < s.size) by omega) with d | ⟨d, d1⟩ | ⟨d, d1⟩
      · go_wp2_with fail
        refine (awake_any _).mono ?_
        rintro e W9 ⟨rfl, hb9⟩
        have B9 := Lib.hid (BL.out.trans ((B8.out.trans (hb9.mono B8.out.size)).mono (by omega)))
        clear hb9
        go_wp2
        go_ret
        exact ⟨rfl, B9.out⟩
      · go_wp2_with fail
        refine (awake_any _).mono ?_
        rintro e W9 ⟨rfl, hb9⟩
        have B9 := Lib.hid (BL.out.trans ((B8.out.trans (hb9.mono B8.out.size)).mono (by omega)))
        clear hb9
        go_wp2
        go_ret
        exact ⟨rfl, B9.out⟩
      · go_wp2_with fail
        refine (replace_in s t a b a b _ hs ht (by omega) (by omega) d d1).mono ?_
        rintro e W9 ⟨rfl, hb9⟩
        have B9 := Lib.hid (B8.out.trans (hb9.mono B8.out.size))
        clear hb9 i0 i1 i2
        obtain ⟨i0, i1, i2⟩ := HB.out.later hle B9.out
        have hz9 : (s.extract 0 a ++ t ++ s.extract (b + 1) s.size).size ≤ 100000 := by simp only [ByteArray.size_append, ByteArray.size_extract]; omega
        have HR9 := Lib.hid (range_replaced (s := s) (t := t) d d1)
        go_wp2_with fail
        refine (range_any _ a _ _ hz9 (by omega) (by omega) (by omega) (by omega)).mono ?_
        rintro e W10 ⟨rfl, rfl⟩
        rw [HR9.out]
        clear hz9
        go_wp2_with fail
        refine (awake_any _).mono ?_
        rintro e W11 ⟨rfl, hb11⟩
        have B11 := Lib.hid (BL.out.trans ((B9.out.trans (hb11.mono B9.out.size)).mono (by omega)))
        clear hb11
        go_wp2
        go_ret
        exact ⟨rfl, B11.out⟩
end Go.Proofs.Ytkohpijpipcajaa
