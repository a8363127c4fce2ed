import Derived.Test.YtkohpijpipcajaaS4
namespace Go.Proofs.Ytkohpijpipcajaa
open Go.RowKit
set_option linter.unusedVariables false
set_option linter.unusedSimpArgs false

theorem rest_size (s : ByteArray) (a : Nat) (hs : s.size ≤ 400) : (s.extract a s.size).size ≤ 400 := by rw [ByteArray.size_extract]; omega
theorem un_ret {c : ByteArray} {a b : Int} (h : a = b) : Ending.returned (.tuple #[.string c, .int .i64 a]) = .returned (.tuple #[.string c, .int .i64 b]) := by rw [h]

set_option maxRecDepth 100000 in
set_option maxHeartbeats 1000000 in
theorem un_hex_21 (s : ByteArray) (x : Int) (k : Nat) (v : Int) (w : World) (hs : s.size ≤ 400) (h : 1 < s.size) (hx : (s[0].toNat : Int) = 92) (hx1 : (s[1].toNat : Int) = x) (hpl : place x = -1) (hxx : x = 120)
    (hn : IsNum 16 2 (numsB (s.extract 2 s.size)) k v) (hk : 0 < k) : Calls Try.prog 21 #[.string s] w (UnPost (strOfNums [v % 256]) (2 + k) w) := by
  subst hxx
  have h1 := (empty_no (show 0 < s.size by omega)).1
  have q5 : (1 : Int) < (s.size : Int) := by omega
  have q6 : (2 : Int) ≤ (s.size : Int) := by omega
  have kc := conv_one
  have HP : Hid (∀ w : World, Calls Try.prog 54 #[.string tblA, .int .u8 120] w fun e w' => e = .returned (.int .i64 (-1)) ∧ w = w') := Lib.hid (by rw [← hx1, ← hpl, ← hx1]; exact fun w => index_tbl s[1] w)
  have HM : Hid (∀ w : World, Calls Try.prog 55 #[.string (s.extract 2 s.size), .int .i64 16, .int .i64 2] w fun e w' => e = .returned (.tuple #[.int .i64 k, .int .i64 v]) ∧ w = w') := Lib.hid (fun w => (number_16 _ w (rest_size s 2 hs)).mono fun e w' ⟨k', v', h1, h2, h3⟩ => by
    obtain ⟨rfl, rfl⟩ := isNum_one hn h1
    exact ⟨h2, h3⟩)
  have hv0 := hn.2.2.2.2.2
  have hv1 := hv0.1
  have hv2 := hv0.2
  have hk2 : k ≤ 3 := by have := hn.2.1; omega
  clear hn hv0 hpl
  go_enter Try.func21, Try.ntmps21
  go_wp2_with (first | (go_at_call 54; refine (HP.out _).mono ?_; rintro e w' ⟨rfl, rfl⟩) | (go_at_call 55; refine (HM.out _).mono ?_; rintro e w' ⟨rfl, rfl⟩))
  go_ret2
  exact ⟨un_ret (by omega), (Below.refl _ _).alloc (Nat.le_refl _) _⟩

set_option maxRecDepth 100000 in
set_option maxHeartbeats 1000000 in
theorem un_hexno_21 (s : ByteArray) (x : Int) (k : Nat) (v : Int) (w : World) (hs : s.size ≤ 400) (h : 1 < s.size) (hx : (s[0].toNat : Int) = 92) (hx1 : (s[1].toNat : Int) = x) (hpl : place x = -1) (hxx : x = 120)
    (hn : IsNum 16 2 (numsB (s.extract 2 s.size)) k v) (hk : k = 0) : Calls Try.prog 21 #[.string s] w (UnPost (s.extract 1 2) 2 w) := by
  subst hxx
  have h8 : IsNum 8 3 (numsB (s.extract 1 s.size)) 0 0 := ⟨Nat.zero_le _, Nat.zero_le _, fun j hj => by omega, Or.inr (Or.inr (by
    rw [numsB_extract (Nat.le_refl _) (by omega), ← byte_num s h, hx1]; decide)), rfl, Int.le_refl _, by decide⟩
  have h1 := (empty_no (show 0 < s.size by omega)).1
  have q5 : (1 : Int) < (s.size : Int) := by omega
  have q6 : (2 : Int) ≤ (s.size : Int) := by omega
  have kc := conv_one
  have HP : Hid (∀ w : World, Calls Try.prog 54 #[.string tblA, .int .u8 120] w fun e w' => e = .returned (.int .i64 (-1)) ∧ w = w') := Lib.hid (by rw [← hx1, ← hpl, ← hx1]; exact fun w => index_tbl s[1] w)
  have HM : Hid (∀ w : World, Calls Try.prog 55 #[.string (s.extract 2 s.size), .int .i64 16, .int .i64 2] w fun e w' => e = .returned (.tuple #[.int .i64 k, .int .i64 v]) ∧ w = w') := Lib.hid (fun w => (number_16 _ w (rest_size s 2 hs)).mono fun e w' ⟨k', v', h1, h2, h3⟩ => by
    obtain ⟨rfl, rfl⟩ := isNum_one hn h1
    exact ⟨h2, h3⟩)
  have hv0 := hn.2.2.2.2.2
  have hv1 := hv0.1
  have hv2 := hv0.2
  have hk2 : k ≤ 3 := by have := hn.2.1; omega
  have HM8 : Hid (∀ w : World, Calls Try.prog 55 #[.string (s.extract 1 s.size), .int .i64 8, .int .i64 3] w fun e w' => e = .returned (.tuple #[.int .i64 0, .int .i64 0]) ∧ w = w') := Lib.hid (fun w => (number_8 _ w (rest_size s 1 hs)).mono fun e w' ⟨k', v', h1, h2, h3⟩ => by
    obtain ⟨rfl, rfl⟩ := isNum_one h8 h1
    exact ⟨h2, h3⟩)
  subst hk
  clear hn hv0 hpl h8
  go_enter Try.func21, Try.ntmps21
  go_wp2_with (first | (go_at_call 54; refine (HP.out _).mono ?_; rintro e w' ⟨rfl, rfl⟩) | (go_at_call 55; first | ((with_reducible refine (HM.out _).mono ?_); rintro e w' ⟨rfl, rfl⟩) | ((with_reducible refine (HM8.out _).mono ?_); rintro e w' ⟨rfl, rfl⟩)))
  go_ret2
  exact ⟨rfl, Below.refl _ _⟩

set_option maxRecDepth 100000 in
set_option maxHeartbeats 1000000 in
theorem un_oct_21 (s : ByteArray) (x : Int) (k : Nat) (v : Int) (w : World) (hs : s.size ≤ 400) (h : 1 < s.size) (hx : (s[0].toNat : Int) = 92) (hx1 : (s[1].toNat : Int) = x) (hpl : place x = -1) (hne : x ≠ 120) (hne2 : x ≠ 10)
    (hn : IsNum 8 3 (numsB (s.extract 1 s.size)) k v) (hk : 0 < k) : Calls Try.prog 21 #[.string s] w (UnPost (strOfNums [v % 256]) (1 + k) w) := by
  have h1 := (empty_no (show 0 < s.size by omega)).1
  have q5 : (1 : Int) < (s.size : Int) := by omega
  have q6 : (2 : Int) ≤ (s.size : Int) := by omega
  have kc := conv_one
  have HP : Hid (∀ w : World, Calls Try.prog 54 #[.string tblA, .int .u8 x] w fun e w' => e = .returned (.int .i64 (-1)) ∧ w = w') := Lib.hid (by rw [← hpl, ← hx1]; exact fun w => index_tbl s[1] w)
  have HM : Hid (∀ w : World, Calls Try.prog 55 #[.string (s.extract 1 s.size), .int .i64 8, .int .i64 3] w fun e w' => e = .returned (.tuple #[.int .i64 k, .int .i64 v]) ∧ w = w') := Lib.hid (fun w => (number_8 _ w (rest_size s 1 hs)).mono fun e w' ⟨k', v', h1, h2, h3⟩ => by
    obtain ⟨rfl, rfl⟩ := isNum_one hn h1
    exact ⟨h2, h3⟩)
  have hv0 := hn.2.2.2.2.2
  have hv1 := hv0.1
  have hv2 := hv0.2
  have hk2 : k ≤ 3 := by have := hn.2.1; omega
  have t1 : (x == 120) = false := by simpa using hne
  have t2 : (x == 10) = false := by simpa using hne2
  clear hne hne2
  clear hn hv0 hpl
  go_enter Try.func21, Try.ntmps21
  go_wp2_with (first | (go_at_call 54; refine (HP.out _).mono ?_; rintro e w' ⟨rfl, rfl⟩) | (go_at_call 55; refine (HM.out _).mono ?_; rintro e w' ⟨rfl, rfl⟩))
  go_ret2
  exact ⟨un_ret (by omega), (Below.refl _ _).alloc (Nat.le_refl _) _⟩

set_option maxRecDepth 100000 in
set_option maxHeartbeats 1000000 in
theorem un_octno_21 (s : ByteArray) (x : Int) (k : Nat) (v : Int) (w : World) (hs : s.size ≤ 400) (h : 1 < s.size) (hx : (s[0].toNat : Int) = 92) (hx1 : (s[1].toNat : Int) = x) (hpl : place x = -1) (hne : x ≠ 120) (hne2 : x ≠ 10)
    (hn : IsNum 8 3 (numsB (s.extract 1 s.size)) k v) (hk : k = 0) : Calls Try.prog 21 #[.string s] w (UnPost (s.extract 1 2) 2 w) := by
  have h1 := (empty_no (show 0 < s.size by omega)).1
  have q5 : (1 : Int) < (s.size : Int) := by omega
  have q6 : (2 : Int) ≤ (s.size : Int) := by omega
  have kc := conv_one
  have HP : Hid (∀ w : World, Calls Try.prog 54 #[.string tblA, .int .u8 x] w fun e w' => e = .returned (.int .i64 (-1)) ∧ w = w') := Lib.hid (by rw [← hpl, ← hx1]; exact fun w => index_tbl s[1] w)
  have HM : Hid (∀ w : World, Calls Try.prog 55 #[.string (s.extract 1 s.size), .int .i64 8, .int .i64 3] w fun e w' => e = .returned (.tuple #[.int .i64 k, .int .i64 v]) ∧ w = w') := Lib.hid (fun w => (number_8 _ w (rest_size s 1 hs)).mono fun e w' ⟨k', v', h1, h2, h3⟩ => by
    obtain ⟨rfl, rfl⟩ := isNum_one hn h1
    exact ⟨h2, h3⟩)
  have hv0 := hn.2.2.2.2.2
  have hv1 := hv0.1
  have hv2 := hv0.2
  have hk2 : k ≤ 3 := by have := hn.2.1; omega
  have t1 : (x == 120) = false := by simpa using hne
  have t2 : (x == 10) = false := by simpa using hne2
  clear hne hne2
  subst hk
  clear hn hv0 hpl
  go_enter Try.func21, Try.ntmps21
  go_wp2_with (first | (go_at_call 54; refine (HP.out _).mono ?_; rintro e w' ⟨rfl, rfl⟩) | (go_at_call 55; refine (HM.out _).mono ?_; rintro e w' ⟨rfl, rfl⟩))
  go_ret2
  exact ⟨rfl, Below.refl _ _⟩

set_option maxRecDepth 100000 in
set_option maxHeartbeats 1000000 in
theorem un_hex_22 (s : ByteArray) (x : Int) (k : Nat) (v : Int) (w : World) (hs : s.size ≤ 400) (h : 1 < s.size) (hx : (s[0].toNat : Int) = 92) (hx1 : (s[1].toNat : Int) = x) (hpl : place x = -1) (hxx : x = 120)
    (hn : IsNum 16 2 (numsB (s.extract 2 s.size)) k v) (hk : 0 < k) : Calls Try.prog 22 #[.string s] w (UnPost (strOfNums [v % 256]) (2 + k) w) := by
  subst hxx
  have h1 := (empty_no (show 0 < s.size by omega)).1
  have q5 : (1 : Int) < (s.size : Int) := by omega
  have q6 : (2 : Int) ≤ (s.size : Int) := by omega
  have kc := conv_one
  have HP : Hid (∀ w : World, Calls Try.prog 16 #[.string (s.extract 1 2), .string tblA, .int .i64 0] w fun e w' => e = .returned (.int .i64 (-1)) ∧ w = w') := Lib.hid (by rw [← hpl, ← hx1, one_byte s h]; exact fun w => by rw [← first_tbl s[1]]; exact ref_first_val tblA ⟨#[s[1]]⟩ 0 w (by decide) (by show 1 ≤ 100000; omega) (by decide) (by decide))
  have HN : Hid ((numsB (s.extract 2 s.size)).length = s.size - 2) := Lib.hid (by rw [numsB_length, ByteArray.size_extract]; omega)
  have HG : Hid (∀ j, 2 + j < s.size → (numsB (s.extract 2 s.size)).getD j 0 = (numsB s).getD (2 + j) 0) := Lib.hid (fun j hj => numsB_extract (Nat.le_refl _) hj)
  have HI := Lib.hid hn
  clear hn hpl
  go_enter Try.func22, Try.ntmps22
  go_wp2_with (go_at_call 16; refine (HP.out _).mono ?_; rintro e w' ⟨rfl, rfl⟩)
  go_loop [3, 8] (fun n a => ∃ (j : Nat) (u : Int), n = .int .i64 ((2 + j : Nat) : Int) ∧ a = .int .i64 u ∧ 2 + j ≤ s.size ∧ j ≤ 2 ∧ Hid (∀ i, i < j → 0 ≤ dv 16 ((numsB (s.extract 2 s.size)).getD i 0)) ∧ Hid (u = vT 16 (numsB (s.extract 2 s.size)) j) ∧ Hid (Small 16 j u)) (fun n _ => s.size - (intOf n).toNat)
  case atStart => exact ⟨0, 0, rfl, rfl, by omega, by omega, Lib.hid fun j hj => by omega, Lib.hid rfl, Lib.hid ⟨by omega, Or.inl ⟨rfl, rfl⟩⟩⟩
  case round =>
    obtain ⟨j, u, rfl, rfl, hj, hm, hall, hu, hsm⟩ := hrel
    have hu0 : 0 ≤ u ∧ u ≤ 4095 := by
      have h := hsm.out
      unfold Small at h
      omega
    by_cases hlt : 2 + j < s.size
    · by_cases hjm : j < 2
      · have hy := byte_num s hlt
        have hb := numsB_at s (2 + j)
        obtain ⟨y, hyy⟩ : ∃ y, (numsB s).getD (2 + j) 0 = y := ⟨_, rfl⟩
        rw [hyy] at hy hb
        have HX : Hid ((numsB (s.extract 2 s.size)).getD j 0 = y) := Lib.hid ((HG.out j hlt).trans hyy)
        clear hyy
        obtain ⟨d, hd⟩ : ∃ d, dv 16 y = d := ⟨_, rfl⟩
        have hdl := dv_lt (b := 16) (c := y) (by omega)
        rw [hd] at hdl
        have HD := Lib.hid hd
        clear hd
        by_cases hd0 : 0 ≤ d
        · have hd1 : d < 16 := by omega
          have hnv : Hid (u * 16 + d = vT 16 (numsB (s.extract 2 s.size)) (j + 1)) := Lib.hid (by rw [vT_succ _ _ _ (by rw [HN.out]; omega), ← hu.out, HX.out, HD.out])
          have hns : Hid (Small 16 ((j + 1 : Nat) : Int) (u * 16 + d)) := Lib.hid (by
            have h := hsm.out
            unfold Small at h ⊢
            omega)
          go_wp2_with (go_at_call 56; refine (digit_16 _ _ hb.1 hb.2).mono ?_; rintro e w' ⟨rfl, rfl⟩; rw [HD.out])
          go_round
          case rel => exact ⟨j + 1, _, by first | (congr 1; done) | (congr 1; omega), rfl, by omega, by omega, Lib.hid fun i hi => by
            by_cases e : i = j
            · rw [e, HX.out, HD.out]; exact hd0
            · exact hall.out i (by omega), hnv, hns⟩
          case measure => simp [intOf]; omega
        · have hbad : Hid (dv 16 y < 0) := Lib.hid (by rw [HD.out]; omega)
          have hdn : d < 0 := by omega
          clear hd0
          have HE : Hid (k = j ∧ v = u) := Lib.hid (isNum_one HI.out ⟨by rw [HN.out]; omega, hm, hall.out, Or.inr (Or.inr (by rw [HX.out]; exact hbad.out)), hu.out, hu0.1, hu0.2⟩)
          obtain ⟨ej, eu⟩ := HE.out
          subst ej eu
          have hk1 := hk
          go_wp2_with (go_at_call 56; refine (digit_16 _ _ hb.1 hb.2).mono ?_; rintro e w' ⟨rfl, rfl⟩; rw [HD.out])
          go_ret2
          exact ⟨un_ret (by omega), (Below.refl _ _).alloc (Nat.le_refl _) _⟩

      · have hjm2 : 2 ≤ j := by omega
        have HE : Hid (k = j ∧ v = u) := Lib.hid (isNum_one HI.out ⟨by rw [HN.out]; omega, hm, hall.out, Or.inr (Or.inl (by omega)), hu.out, hu0.1, hu0.2⟩)
        obtain ⟨ej, eu⟩ := HE.out
        subst ej eu
        have hk1 := hk
        go_wp2
        go_ret2
        exact ⟨un_ret (by omega), (Below.refl _ _).alloc (Nat.le_refl _) _⟩

    · have hge : s.size ≤ 2 + j := by omega
      have HE : Hid (k = j ∧ v = u) := Lib.hid (isNum_one HI.out ⟨by rw [HN.out]; omega, hm, hall.out, Or.inl (by rw [HN.out]; omega), hu.out, hu0.1, hu0.2⟩)
      obtain ⟨ej, eu⟩ := HE.out
      subst ej eu
      have hk1 := hk
      go_wp2
      go_ret2
      exact ⟨un_ret (by omega), (Below.refl _ _).alloc (Nat.le_refl _) _⟩


set_option maxRecDepth 100000 in
set_option maxHeartbeats 1000000 in
theorem un_hexno_22 (s : ByteArray) (x : Int) (k : Nat) (v : Int) (w : World) (hs : s.size ≤ 400) (h : 1 < s.size) (hx : (s[0].toNat : Int) = 92) (hx1 : (s[1].toNat : Int) = x) (hpl : place x = -1) (hxx : x = 120)
    (hn : IsNum 16 2 (numsB (s.extract 2 s.size)) k v) (hk : k = 0) : Calls Try.prog 22 #[.string s] w (UnPost (s.extract 1 2) 2 w) := by
  subst hxx
  have h1 := (empty_no (show 0 < s.size by omega)).1
  have q5 : (1 : Int) < (s.size : Int) := by omega
  have q6 : (2 : Int) ≤ (s.size : Int) := by omega
  have kc := conv_one
  have HP : Hid (∀ w : World, Calls Try.prog 16 #[.string (s.extract 1 2), .string tblA, .int .i64 0] w fun e w' => e = .returned (.int .i64 (-1)) ∧ w = w') := Lib.hid (by rw [← hpl, ← hx1, one_byte s h]; exact fun w => by rw [← first_tbl s[1]]; exact ref_first_val tblA ⟨#[s[1]]⟩ 0 w (by decide) (by show 1 ≤ 100000; omega) (by decide) (by decide))
  have HN : Hid ((numsB (s.extract 2 s.size)).length = s.size - 2) := Lib.hid (by rw [numsB_length, ByteArray.size_extract]; omega)
  have HG : Hid (∀ j, 2 + j < s.size → (numsB (s.extract 2 s.size)).getD j 0 = (numsB s).getD (2 + j) 0) := Lib.hid (fun j hj => numsB_extract (Nat.le_refl _) hj)
  have HI := Lib.hid hn
  clear hn hpl
  go_enter Try.func22, Try.ntmps22
  go_wp2_with (go_at_call 16; refine (HP.out _).mono ?_; rintro e w' ⟨rfl, rfl⟩)
  go_loop [3, 8] (fun n a => ∃ (j : Nat) (u : Int), n = .int .i64 ((2 + j : Nat) : Int) ∧ a = .int .i64 u ∧ 2 + j ≤ s.size ∧ j ≤ 2 ∧ Hid (∀ i, i < j → 0 ≤ dv 16 ((numsB (s.extract 2 s.size)).getD i 0)) ∧ Hid (u = vT 16 (numsB (s.extract 2 s.size)) j) ∧ Hid (Small 16 j u)) (fun n _ => s.size - (intOf n).toNat)
  case atStart => exact ⟨0, 0, rfl, rfl, by omega, by omega, Lib.hid fun j hj => by omega, Lib.hid rfl, Lib.hid ⟨by omega, Or.inl ⟨rfl, rfl⟩⟩⟩
  case round =>
    obtain ⟨j, u, rfl, rfl, hj, hm, hall, hu, hsm⟩ := hrel
    have hu0 : 0 ≤ u ∧ u ≤ 4095 := by
      have h := hsm.out
      unfold Small at h
      omega
    by_cases hlt : 2 + j < s.size
    · by_cases hjm : j < 2
      · have hy := byte_num s hlt
        have hb := numsB_at s (2 + j)
        obtain ⟨y, hyy⟩ : ∃ y, (numsB s).getD (2 + j) 0 = y := ⟨_, rfl⟩
        rw [hyy] at hy hb
        have HX : Hid ((numsB (s.extract 2 s.size)).getD j 0 = y) := Lib.hid ((HG.out j hlt).trans hyy)
        clear hyy
        obtain ⟨d, hd⟩ : ∃ d, dv 16 y = d := ⟨_, rfl⟩
        have hdl := dv_lt (b := 16) (c := y) (by omega)
        rw [hd] at hdl
        have HD := Lib.hid hd
        clear hd
        by_cases hd0 : 0 ≤ d
        · have hd1 : d < 16 := by omega
          have hnv : Hid (u * 16 + d = vT 16 (numsB (s.extract 2 s.size)) (j + 1)) := Lib.hid (by rw [vT_succ _ _ _ (by rw [HN.out]; omega), ← hu.out, HX.out, HD.out])
          have hns : Hid (Small 16 ((j + 1 : Nat) : Int) (u * 16 + d)) := Lib.hid (by
            have h := hsm.out
            unfold Small at h ⊢
            omega)
          go_wp2_with (go_at_call 56; refine (digit_16 _ _ hb.1 hb.2).mono ?_; rintro e w' ⟨rfl, rfl⟩; rw [HD.out])
          go_round
          case rel => exact ⟨j + 1, _, by first | (congr 1; done) | (congr 1; omega), rfl, by omega, by omega, Lib.hid fun i hi => by
            by_cases e : i = j
            · rw [e, HX.out, HD.out]; exact hd0
            · exact hall.out i (by omega), hnv, hns⟩
          case measure => simp [intOf]; omega
        · have hbad : Hid (dv 16 y < 0) := Lib.hid (by rw [HD.out]; omega)
          have hdn : d < 0 := by omega
          clear hd0
          have HE : Hid (k = j ∧ v = u) := Lib.hid (isNum_one HI.out ⟨by rw [HN.out]; omega, hm, hall.out, Or.inr (Or.inr (by rw [HX.out]; exact hbad.out)), hu.out, hu0.1, hu0.2⟩)
          obtain ⟨ej, eu⟩ := HE.out
          subst ej eu
          subst hk
          go_wp2_with (go_at_call 56; refine (digit_16 _ _ hb.1 hb.2).mono ?_; rintro e w' ⟨rfl, rfl⟩; rw [HD.out])
          go_ret2
          exact ⟨rfl, Below.refl _ _⟩

      · have hjm2 : 2 ≤ j := by omega
        have HE : Hid (k = j ∧ v = u) := Lib.hid (isNum_one HI.out ⟨by rw [HN.out]; omega, hm, hall.out, Or.inr (Or.inl (by omega)), hu.out, hu0.1, hu0.2⟩)
        have ej := HE.out.1
        exact absurd hjm2 (by omega)
    · have hge : s.size ≤ 2 + j := by omega
      have HE : Hid (k = j ∧ v = u) := Lib.hid (isNum_one HI.out ⟨by rw [HN.out]; omega, hm, hall.out, Or.inl (by rw [HN.out]; omega), hu.out, hu0.1, hu0.2⟩)
      obtain ⟨ej, eu⟩ := HE.out
      subst ej eu
      subst hk
      go_wp2
      go_ret2
      exact ⟨rfl, Below.refl _ _⟩


set_option maxRecDepth 100000 in
set_option maxHeartbeats 1000000 in
theorem un_oct_22 (s : ByteArray) (x : Int) (k : Nat) (v : Int) (w : World) (hs : s.size ≤ 400) (h : 1 < s.size) (hx : (s[0].toNat : Int) = 92) (hx1 : (s[1].toNat : Int) = x) (hpl : place x = -1) (hne : x ≠ 120) (hne2 : x ≠ 10)
    (hn : IsNum 8 3 (numsB (s.extract 1 s.size)) k v) (hk : 0 < k) : Calls Try.prog 22 #[.string s] w (UnPost (strOfNums [v % 256]) (1 + k) w) := by
  have h1 := (empty_no (show 0 < s.size by omega)).1
  have q5 : (1 : Int) < (s.size : Int) := by omega
  have q6 : (2 : Int) ≤ (s.size : Int) := by omega
  have kc := conv_one
  have HP : Hid (∀ w : World, Calls Try.prog 16 #[.string (s.extract 1 2), .string tblA, .int .i64 0] w fun e w' => e = .returned (.int .i64 (-1)) ∧ w = w') := Lib.hid (by rw [← hpl, ← hx1, one_byte s h]; exact fun w => by rw [← first_tbl s[1]]; exact ref_first_val tblA ⟨#[s[1]]⟩ 0 w (by decide) (by show 1 ≤ 100000; omega) (by decide) (by decide))
  have t1 : (x == 120) = false := by simpa using hne
  have t2 : (x == 10) = false := by simpa using hne2
  clear hne hne2
  have HN : Hid ((numsB (s.extract 1 s.size)).length = s.size - 1) := Lib.hid (by rw [numsB_length, ByteArray.size_extract]; omega)
  have HG : Hid (∀ j, 1 + j < s.size → (numsB (s.extract 1 s.size)).getD j 0 = (numsB s).getD (1 + j) 0) := Lib.hid (fun j hj => numsB_extract (Nat.le_refl _) hj)
  have HI := Lib.hid hn
  clear hn hpl
  go_enter Try.func22, Try.ntmps22
  go_wp2_with (go_at_call 16; refine (HP.out _).mono ?_; rintro e w' ⟨rfl, rfl⟩)
  go_loop [3, 8] (fun n a => ∃ (j : Nat) (u : Int), n = .int .i64 ((1 + j : Nat) : Int) ∧ a = .int .i64 u ∧ 1 + j ≤ s.size ∧ j ≤ 3 ∧ Hid (∀ i, i < j → 0 ≤ dv 8 ((numsB (s.extract 1 s.size)).getD i 0)) ∧ Hid (u = vT 8 (numsB (s.extract 1 s.size)) j) ∧ Hid (Small 8 j u)) (fun n _ => s.size - (intOf n).toNat)
  case atStart => exact ⟨0, 0, rfl, rfl, by omega, by omega, Lib.hid fun j hj => by omega, Lib.hid rfl, Lib.hid ⟨by omega, Or.inl ⟨rfl, rfl⟩⟩⟩
  case round =>
    obtain ⟨j, u, rfl, rfl, hj, hm, hall, hu, hsm⟩ := hrel
    have hu0 : 0 ≤ u ∧ u ≤ 4095 := by
      have h := hsm.out
      unfold Small at h
      omega
    by_cases hlt : 1 + j < s.size
    · by_cases hjm : j < 3
      · have hy := byte_num s hlt
        have hb := numsB_at s (1 + j)
        obtain ⟨y, hyy⟩ : ∃ y, (numsB s).getD (1 + j) 0 = y := ⟨_, rfl⟩
        rw [hyy] at hy hb
        have HX : Hid ((numsB (s.extract 1 s.size)).getD j 0 = y) := Lib.hid ((HG.out j hlt).trans hyy)
        clear hyy
        obtain ⟨d, hd⟩ : ∃ d, dv 8 y = d := ⟨_, rfl⟩
        have hdl := dv_lt (b := 8) (c := y) (by omega)
        rw [hd] at hdl
        have HD := Lib.hid hd
        clear hd
        by_cases hd0 : 0 ≤ d
        · have hd1 : d < 8 := by omega
          have hnv : Hid (u * 8 + d = vT 8 (numsB (s.extract 1 s.size)) (j + 1)) := Lib.hid (by rw [vT_succ _ _ _ (by rw [HN.out]; omega), ← hu.out, HX.out, HD.out])
          have hns : Hid (Small 8 ((j + 1 : Nat) : Int) (u * 8 + d)) := Lib.hid (by
            have h := hsm.out
            unfold Small at h ⊢
            omega)
          go_wp2_with (go_at_call 56; refine (digit_8 _ _ hb.1 hb.2).mono ?_; rintro e w' ⟨rfl, rfl⟩; rw [HD.out])
          go_round
          case rel => exact ⟨j + 1, _, by first | (congr 1; done) | (congr 1; omega), rfl, by omega, by omega, Lib.hid fun i hi => by
            by_cases e : i = j
            · rw [e, HX.out, HD.out]; exact hd0
            · exact hall.out i (by omega), hnv, hns⟩
          case measure => simp [intOf]; omega
        · have hbad : Hid (dv 8 y < 0) := Lib.hid (by rw [HD.out]; omega)
          have hdn : d < 0 := by omega
          clear hd0
          have HE : Hid (k = j ∧ v = u) := Lib.hid (isNum_one HI.out ⟨by rw [HN.out]; omega, hm, hall.out, Or.inr (Or.inr (by rw [HX.out]; exact hbad.out)), hu.out, hu0.1, hu0.2⟩)
          obtain ⟨ej, eu⟩ := HE.out
          subst ej eu
          have hk1 := hk
          go_wp2_with (go_at_call 56; refine (digit_8 _ _ hb.1 hb.2).mono ?_; rintro e w' ⟨rfl, rfl⟩; rw [HD.out])
          go_ret2
          exact ⟨un_ret (by omega), (Below.refl _ _).alloc (Nat.le_refl _) _⟩

      · have hjm2 : 3 ≤ j := by omega
        have HE : Hid (k = j ∧ v = u) := Lib.hid (isNum_one HI.out ⟨by rw [HN.out]; omega, hm, hall.out, Or.inr (Or.inl (by omega)), hu.out, hu0.1, hu0.2⟩)
        obtain ⟨ej, eu⟩ := HE.out
        subst ej eu
        have hk1 := hk
        go_wp2
        go_ret2
        exact ⟨un_ret (by omega), (Below.refl _ _).alloc (Nat.le_refl _) _⟩

    · have hge : s.size ≤ 1 + j := by omega
      have HE : Hid (k = j ∧ v = u) := Lib.hid (isNum_one HI.out ⟨by rw [HN.out]; omega, hm, hall.out, Or.inl (by rw [HN.out]; omega), hu.out, hu0.1, hu0.2⟩)
      obtain ⟨ej, eu⟩ := HE.out
      subst ej eu
      have hk1 := hk
      go_wp2
      go_ret2
      exact ⟨un_ret (by omega), (Below.refl _ _).alloc (Nat.le_refl _) _⟩


set_option maxRecDepth 100000 in
set_option maxHeartbeats 1000000 in
theorem un_octno_22 (s : ByteArray) (x : Int) (k : Nat) (v : Int) (w : World) (hs : s.size ≤ 400) (h : 1 < s.size) (hx : (s[0].toNat : Int) = 92) (hx1 : (s[1].toNat : Int) = x) (hpl : place x = -1) (hne : x ≠ 120) (hne2 : x ≠ 10)
    (hn : IsNum 8 3 (numsB (s.extract 1 s.size)) k v) (hk : k = 0) : Calls Try.prog 22 #[.string s] w (UnPost (s.extract 1 2) 2 w) := by
  have h1 := (empty_no (show 0 < s.size by omega)).1
  have q5 : (1 : Int) < (s.size : Int) := by omega
  have q6 : (2 : Int) ≤ (s.size : Int) := by omega
  have kc := conv_one
  have HP : Hid (∀ w : World, Calls Try.prog 16 #[.string (s.extract 1 2), .string tblA, .int .i64 0] w fun e w' => e = .returned (.int .i64 (-1)) ∧ w = w') := Lib.hid (by rw [← hpl, ← hx1, one_byte s h]; exact fun w => by rw [← first_tbl s[1]]; exact ref_first_val tblA ⟨#[s[1]]⟩ 0 w (by decide) (by show 1 ≤ 100000; omega) (by decide) (by decide))
  have t1 : (x == 120) = false := by simpa using hne
  have t2 : (x == 10) = false := by simpa using hne2
  clear hne hne2
  have HN : Hid ((numsB (s.extract 1 s.size)).length = s.size - 1) := Lib.hid (by rw [numsB_length, ByteArray.size_extract]; omega)
  have HG : Hid (∀ j, 1 + j < s.size → (numsB (s.extract 1 s.size)).getD j 0 = (numsB s).getD (1 + j) 0) := Lib.hid (fun j hj => numsB_extract (Nat.le_refl _) hj)
  have HI := Lib.hid hn
  clear hn hpl
  go_enter Try.func22, Try.ntmps22
  go_wp2_with (go_at_call 16; refine (HP.out _).mono ?_; rintro e w' ⟨rfl, rfl⟩)
  go_loop [3, 8] (fun n a => ∃ (j : Nat) (u : Int), n = .int .i64 ((1 + j : Nat) : Int) ∧ a = .int .i64 u ∧ 1 + j ≤ s.size ∧ j ≤ 3 ∧ Hid (∀ i, i < j → 0 ≤ dv 8 ((numsB (s.extract 1 s.size)).getD i 0)) ∧ Hid (u = vT 8 (numsB (s.extract 1 s.size)) j) ∧ Hid (Small 8 j u)) (fun n _ => s.size - (intOf n).toNat)
  case atStart => exact ⟨0, 0, rfl, rfl, by omega, by omega, Lib.hid fun j hj => by omega, Lib.hid rfl, Lib.hid ⟨by omega, Or.inl ⟨rfl, rfl⟩⟩⟩
  case round =>
    obtain ⟨j, u, rfl, rfl, hj, hm, hall, hu, hsm⟩ := hrel
    have hu0 : 0 ≤ u ∧ u ≤ 4095 := by
      have h := hsm.out
      unfold Small at h
      omega
    by_cases hlt : 1 + j < s.size
    · by_cases hjm : j < 3
      · have hy := byte_num s hlt
        have hb := numsB_at s (1 + j)
        obtain ⟨y, hyy⟩ : ∃ y, (numsB s).getD (1 + j) 0 = y := ⟨_, rfl⟩
        rw [hyy] at hy hb
        have HX : Hid ((numsB (s.extract 1 s.size)).getD j 0 = y) := Lib.hid ((HG.out j hlt).trans hyy)
        clear hyy
        obtain ⟨d, hd⟩ : ∃ d, dv 8 y = d := ⟨_, rfl⟩
        have hdl := dv_lt (b := 8) (c := y) (by omega)
        rw [hd] at hdl
        have HD := Lib.hid hd
        clear hd
        by_cases hd0 : 0 ≤ d
        · have hd1 : d < 8 := by omega
          have hnv : Hid (u * 8 + d = vT 8 (numsB (s.extract 1 s.size)) (j + 1)) := Lib.hid (by rw [vT_succ _ _ _ (by rw [HN.out]; omega), ← hu.out, HX.out, HD.out])
          have hns : Hid (Small 8 ((j + 1 : Nat) : Int) (u * 8 + d)) := Lib.hid (by
            have h := hsm.out
            unfold Small at h ⊢
            omega)
          go_wp2_with (go_at_call 56; refine (digit_8 _ _ hb.1 hb.2).mono ?_; rintro e w' ⟨rfl, rfl⟩; rw [HD.out])
          go_round
          case rel => exact ⟨j + 1, _, by first | (congr 1; done) | (congr 1; omega), rfl, by omega, by omega, Lib.hid fun i hi => by
            by_cases e : i = j
            · rw [e, HX.out, HD.out]; exact hd0
            · exact hall.out i (by omega), hnv, hns⟩
          case measure => simp [intOf]; omega
        · have hbad : Hid (dv 8 y < 0) := Lib.hid (by rw [HD.out]; omega)
          have hdn : d < 0 := by omega
          clear hd0
          have HE : Hid (k = j ∧ v = u) := Lib.hid (isNum_one HI.out ⟨by rw [HN.out]; omega, hm, hall.out, Or.inr (Or.inr (by rw [HX.out]; exact hbad.out)), hu.out, hu0.1, hu0.2⟩)
          obtain ⟨ej, eu⟩ := HE.out
          subst ej eu
          subst hk
          have hyx : y = x := by rw [← hy]; exact hx1
          subst hyx
          go_wp2_with (go_at_call 56; refine (digit_8 _ _ hb.1 hb.2).mono ?_; rintro e w' ⟨rfl, rfl⟩; rw [HD.out])
          go_ret2
          exact ⟨rfl, Below.refl _ _⟩

      · have hjm2 : 3 ≤ j := by omega
        have HE : Hid (k = j ∧ v = u) := Lib.hid (isNum_one HI.out ⟨by rw [HN.out]; omega, hm, hall.out, Or.inr (Or.inl (by omega)), hu.out, hu0.1, hu0.2⟩)
        have ej := HE.out.1
        exact absurd hjm2 (by omega)
    · have hge : s.size ≤ 1 + j := by omega
      have HE : Hid (k = j ∧ v = u) := Lib.hid (isNum_one HI.out ⟨by rw [HN.out]; omega, hm, hall.out, Or.inl (by rw [HN.out]; omega), hu.out, hu0.1, hu0.2⟩)
      have ej := HE.out.1
      exact absurd hge (by omega)
end Go.Proofs.Ytkohpijpipcajaa
