import Derived.Test.YtkohpijpipcajaaS3
namespace Go.Proofs.Ytkohpijpipcajaa
open Go.RowKit
set_option linter.unusedVariables false
set_option linter.unusedSimpArgs false

theorem one_byte (s : ByteArray) (h : 1 < s.size) : s.extract 1 2 = ⟨#[s[1]]⟩ := by
  apply ByteArray.ext
  apply Array.toList_inj.1
  have hl : 1 < s.data.toList.length := by rw [size_list]; exact h
  rw [extract_list, List.drop_eq_getElem_cons hl]
  rfl
/-- one byte made a text. -/
theorem conv_one (W : World) (x : Int) : (convert 54 9 (.slice (some ⟨W.heap.size, 0, none⟩) 1 1)).run Try.prog (W.alloc (Obj.cells #[.int .u8 x] 5)) = .ok (.string (strOfNums [x])) (W.alloc (Obj.cells #[.int .u8 x] 5)) :=
  run_convert_bytes_arg (P := Try.prog) _ 54 5 Try.underlying54 Try.underlying5 W.heap.size 0 1 1 [x] rfl (fun i hi => by
    obtain rfl : i = 0 := by omega
    exact cell_of_one (heap_alloc_new W _)) 9 Try.underlying9

def UnPost (c : ByteArray) (n : Nat) (w : World) (e : Ending) (w' : World) : Prop := e = .returned (.tuple #[.string c, .int .i64 n]) ∧ Below w.heap.size w w'

theorem un_empty_21 (s : ByteArray) (w : World) (h : s.size = 0) : Calls Try.prog 21 #[.string s] w (UnPost ⟨#[]⟩ 0 w) := by
  have h1 := (empty_yes h).1
  clear h
  go_enter Try.func21, Try.ntmps21
  go_wp2
  go_ret2
  exact ⟨rfl, Below.refl _ _⟩
theorem un_plain_21 (s : ByteArray) (w : World) (hs : s.size ≤ 400) (h : 0 < s.size) (hx : ((s[0].toNat : Int) == 92) = false) : Calls Try.prog 21 #[.string s] w (UnPost ⟨#[]⟩ 0 w) := by
  have h1 := (empty_no h).1
  go_enter Try.func21, Try.ntmps21
  go_wp2
  go_ret2
  exact ⟨rfl, Below.refl _ _⟩
theorem un_one_21 (s : ByteArray) (w : World) (h0 : 0 < s.size) (hx : (s[0].toNat : Int) = 92) (h : s.size = 1) : Calls Try.prog 21 #[.string s] w (UnPost s 1 w) := by
  have h1 := (empty_no h0).1
  have h2 : (s.size : Int) = 1 := by omega
  have h3 : s.size ≤ 1 := by omega
  clear h
  go_enter Try.func21, Try.ntmps21
  go_wp2
  go_ret2
  exact ⟨rfl, Below.refl _ _⟩

set_option maxRecDepth 100000 in
theorem un_letter_21 (s : ByteArray) (x : Int) (q : Nat) (w : World) (hs : s.size ≤ 400) (h : 1 < s.size) (hx : (s[0].toNat : Int) = 92) (hx1 : (s[1].toNat : Int) = x) (hq : place x = q) : Calls Try.prog 21 #[.string s] w (UnPost (tblB.extract q (q + 1)) 2 w) := by
  have h1 := (empty_no (show 0 < s.size by omega)).1
  have HP : Hid (∀ w : World, Calls Try.prog 54 #[.string tblA, .int .u8 x] w fun e w' => e = .returned (.int .i64 (place x)) ∧ w = w') := Lib.hid (by rw [← hx1]; exact fun w => index_tbl s[1] w)
  rw [hq] at HP
  have hq6 := (place_le x).2
  rw [hq] at hq6
  have q1 : q ≤ 6 := by omega
  have q2 : (q : Int) + 1 ≤ 7 := by omega
  have q3 : ((q : Int) + 1).toNat = q + 1 := by omega
  have q4 : (q : Int) ≤ (q : Int) + 1 := by omega
  have q5 : (1 : Int) < (s.size : Int) := by omega
  have q6 : (2 : Int) ≤ (s.size : Int) := by omega
  have q7 : q ≤ q + 1 := by omega
  have q8 : q + 1 ≤ 7 := by omega
  clear hq
  go_enter Try.func21, Try.ntmps21
  go_wp2_with (go_at_call 54; refine (HP.out _).mono ?_; rintro e w' ⟨rfl, rfl⟩)
  go_ret2
  exact ⟨rfl, Below.refl _ _⟩

set_option maxRecDepth 100000 in
set_option maxHeartbeats 1000000 in
theorem un_blank_21 (s : ByteArray) (x : Int) (n : Nat) (w : World) (hs : s.size ≤ 400) (h : 1 < s.size) (hx : (s[0].toNat : Int) = 92) (hx1 : (s[1].toNat : Int) = x) (hx2 : x = 10) (hn : IsSp (numsB s) n) : Calls Try.prog 21 #[.string s] w (UnPost ⟨#[32]⟩ n w) := by
  subst hx2
  have h1 := (empty_no (show 0 < s.size by omega)).1
  have HP : Hid (∀ w : World, Calls Try.prog 54 #[.string tblA, .int .u8 10] w fun e w' => e = .returned (.int .i64 (place 10)) ∧ w = w') := Lib.hid (by rw [← hx1]; exact fun w => index_tbl s[1] w)
  rw [show place 10 = -1 from rfl] at HP
  have HN := Lib.hid (numsB_length s)
  have HI := Lib.hid hn
  have q5 : (1 : Int) < (s.size : Int) := by omega
  have q6 : (2 : Int) ≤ (s.size : Int) := by omega
  clear hn
  go_enter Try.func21, Try.ntmps21
  go_wp2_with (go_at_call 54; refine (HP.out _).mono ?_; rintro e w' ⟨rfl, rfl⟩)
  go_loop [3] (fun i => ∃ k : Nat, i = .int .i64 k ∧ 2 ≤ k ∧ k ≤ s.size ∧ Hid (∀ j, 2 ≤ j → j < k → (numsB s).getD j 0 = 32 ∨ (numsB s).getD j 0 = 9)) (fun i => s.size - (intOf i).toNat)
  case atStart => exact ⟨2, rfl, Nat.le_refl _, by omega, Lib.hid fun j h1 h2 => by omega⟩
  case round =>
    obtain ⟨k, rfl, hk2, hk, hall⟩ := hrel
    by_cases hlt : k < s.size
    · have hy := byte_num s hlt
      obtain ⟨y, hyy⟩ : ∃ y, (numsB s).getD k 0 = y := ⟨_, rfl⟩
      rw [hyy] at hy
      have HY := Lib.hid hyy
      clear hyy
      by_cases e1 : y = 32
      · have t1 : (y == 32) = true := by simp [e1]
        have HE := Lib.hid e1
        clear e1
        go_wp2
        go_round
        case rel => exact ⟨k + 1, by go_num, by omega, by omega, Lib.hid fun j h1 h2 => by
          by_cases e : j = k
          · rw [e, HY.out]; exact Or.inl HE.out
          · exact hall.out j h1 (by omega)⟩
        case measure => simp [intOf]; omega
      · have t1 : (y == 32) = false := by simpa using e1
        by_cases e2 : y = 9
        · have t2 : (y == 9) = true := by simp [e2]
          have HE := Lib.hid e2
          clear e1 e2
          go_wp2
          go_round
          case rel => exact ⟨k + 1, by go_num, by omega, by omega, Lib.hid fun j h1 h2 => by
            by_cases e : j = k
            · rw [e, HY.out]; exact Or.inr HE.out
            · exact hall.out j h1 (by omega)⟩
          case measure => simp [intOf]; omega
        · have t2 : (y == 9) = false := by simpa using e2
          have HE : Hid (n = k) := Lib.hid (isSp_one HI.out ⟨hk2, by rw [HN.out]; exact hk, hall.out, Or.inr (by rw [HY.out]; omega)⟩)
          clear e1 e2
          go_wp2
          go_ret2
          exact ⟨by rw [HE.out]; rfl, Below.refl _ _⟩
    · have HE : Hid (n = k) := Lib.hid (isSp_one HI.out ⟨hk2, by rw [HN.out]; exact hk, hall.out, Or.inl (by rw [HN.out]; omega)⟩)
      go_wp2
      go_ret2
      exact ⟨by rw [HE.out]; rfl, Below.refl _ _⟩

theorem un_empty_22 (s : ByteArray) (w : World) (h : s.size = 0) : Calls Try.prog 22 #[.string s] w (UnPost ⟨#[]⟩ 0 w) := by
  have h1 := (empty_yes h).1
  clear h
  go_enter Try.func22, Try.ntmps22
  go_wp2
  go_ret2
  exact ⟨rfl, Below.refl _ _⟩
theorem un_plain_22 (s : ByteArray) (w : World) (hs : s.size ≤ 400) (h : 0 < s.size) (hx : ((s[0].toNat : Int) == 92) = false) : Calls Try.prog 22 #[.string s] w (UnPost ⟨#[]⟩ 0 w) := by
  have h1 := (empty_no h).1
  go_enter Try.func22, Try.ntmps22
  go_wp2
  go_ret2
  exact ⟨rfl, Below.refl _ _⟩
theorem un_one_22 (s : ByteArray) (w : World) (h0 : 0 < s.size) (hx : (s[0].toNat : Int) = 92) (h : s.size = 1) : Calls Try.prog 22 #[.string s] w (UnPost s 1 w) := by
  have h1 := (empty_no h0).1
  have h2 : (s.size : Int) = 1 := by omega
  have h3 : s.size ≤ 1 := by omega
  clear h
  go_enter Try.func22, Try.ntmps22
  go_wp2
  go_ret2
  exact ⟨rfl, Below.refl _ _⟩

set_option maxRecDepth 100000 in
theorem un_letter_22 (s : ByteArray) (x : Int) (q : Nat) (w : World) (hs : s.size ≤ 400) (h : 1 < s.size) (hx : (s[0].toNat : Int) = 92) (hx1 : (s[1].toNat : Int) = x) (hq : place x = q) : Calls Try.prog 22 #[.string s] w (UnPost (tblB.extract q (q + 1)) 2 w) := by
  have h1 := (empty_no (show 0 < s.size by omega)).1
  have HP : Hid (∀ w : World, Calls Try.prog 16 #[.string (s.extract 1 2), .string tblA, .int .i64 0] w fun e w' => e = .returned (.int .i64 (place x)) ∧ w = w') := Lib.hid (by rw [← hx1, one_byte s h]; exact fun w => by rw [← first_tbl s[1]]; exact ref_first_val tblA ⟨#[s[1]]⟩ 0 w (by decide) (by show 1 ≤ 100000; omega) (by decide) (by decide))
  rw [hq] at HP
  have hq6 := (place_le x).2
  rw [hq] at hq6
  have q1 : q ≤ 6 := by omega
  have q2 : (q : Int) + 1 ≤ 7 := by omega
  have q3 : ((q : Int) + 1).toNat = q + 1 := by omega
  have q4 : (q : Int) ≤ (q : Int) + 1 := by omega
  have q5 : (1 : Int) < (s.size : Int) := by omega
  have q6 : (2 : Int) ≤ (s.size : Int) := by omega
  have q7 : q ≤ q + 1 := by omega
  have q8 : q + 1 ≤ 7 := by omega
  clear hq
  go_enter Try.func22, Try.ntmps22
  go_wp2_with (go_at_call 16; refine (HP.out _).mono ?_; rintro e w' ⟨rfl, rfl⟩)
  go_ret2
  exact ⟨rfl, Below.refl _ _⟩

set_option maxRecDepth 100000 in
set_option maxHeartbeats 1000000 in
theorem un_blank_22 (s : ByteArray) (x : Int) (n : Nat) (w : World) (hs : s.size ≤ 400) (h : 1 < s.size) (hx : (s[0].toNat : Int) = 92) (hx1 : (s[1].toNat : Int) = x) (hx2 : x = 10) (hn : IsSp (numsB s) n) : Calls Try.prog 22 #[.string s] w (UnPost ⟨#[32]⟩ n w) := by
  subst hx2
  have h1 := (empty_no (show 0 < s.size by omega)).1
  have HP : Hid (∀ w : World, Calls Try.prog 16 #[.string (s.extract 1 2), .string tblA, .int .i64 0] w fun e w' => e = .returned (.int .i64 (place 10)) ∧ w = w') := Lib.hid (by rw [← hx1, one_byte s h]; exact fun w => by rw [← first_tbl s[1]]; exact ref_first_val tblA ⟨#[s[1]]⟩ 0 w (by decide) (by show 1 ≤ 100000; omega) (by decide) (by decide))
  rw [show place 10 = -1 from rfl] at HP
  have HN := Lib.hid (numsB_length s)
  have HI := Lib.hid hn
  have q5 : (1 : Int) < (s.size : Int) := by omega
  have q6 : (2 : Int) ≤ (s.size : Int) := by omega
  clear hn
  go_enter Try.func22, Try.ntmps22
  go_wp2_with (go_at_call 16; refine (HP.out _).mono ?_; rintro e w' ⟨rfl, rfl⟩)
  go_loop [3] (fun i => ∃ k : Nat, i = .int .i64 k ∧ 2 ≤ k ∧ k ≤ s.size ∧ Hid (∀ j, 2 ≤ j → j < k → (numsB s).getD j 0 = 32 ∨ (numsB s).getD j 0 = 9)) (fun i => s.size - (intOf i).toNat)
  case atStart => exact ⟨2, rfl, Nat.le_refl _, by omega, Lib.hid fun j h1 h2 => by omega⟩
  case round =>
    obtain ⟨k, rfl, hk2, hk, hall⟩ := hrel
    by_cases hlt : k < s.size
    · have hy := byte_num s hlt
      obtain ⟨y, hyy⟩ : ∃ y, (numsB s).getD k 0 = y := ⟨_, rfl⟩
      rw [hyy] at hy
      have HY := Lib.hid hyy
      clear hyy
      by_cases e1 : y = 32
      · have t1 : (y == 32) = true := by simp [e1]
        have HE := Lib.hid e1
        clear e1
        go_wp2
        go_round
        case rel => exact ⟨k + 1, by go_num, by omega, by omega, Lib.hid fun j h1 h2 => by
          by_cases e : j = k
          · rw [e, HY.out]; exact Or.inl HE.out
          · exact hall.out j h1 (by omega)⟩
        case measure => simp [intOf]; omega
      · have t1 : (y == 32) = false := by simpa using e1
        by_cases e2 : y = 9
        · have t2 : (y == 9) = true := by simp [e2]
          have HE := Lib.hid e2
          clear e1 e2
          go_wp2
          go_round
          case rel => exact ⟨k + 1, by go_num, by omega, by omega, Lib.hid fun j h1 h2 => by
            by_cases e : j = k
            · rw [e, HY.out]; exact Or.inr HE.out
            · exact hall.out j h1 (by omega)⟩
          case measure => simp [intOf]; omega
        · have t2 : (y == 9) = false := by simpa using e2
          have HE : Hid (n = k) := Lib.hid (isSp_one HI.out ⟨hk2, by rw [HN.out]; exact hk, hall.out, Or.inr (by rw [HY.out]; omega)⟩)
          clear e1 e2
          go_wp2
          go_ret2
          exact ⟨by rw [HE.out]; rfl, Below.refl _ _⟩
    · have HE : Hid (n = k) := Lib.hid (isSp_one HI.out ⟨hk2, by rw [HN.out]; exact hk, hall.out, Or.inl (by rw [HN.out]; omega)⟩)
      go_wp2
      go_ret2
      exact ⟨by rw [HE.out]; rfl, Below.refl _ _⟩
end Go.Proofs.Ytkohpijpipcajaa
