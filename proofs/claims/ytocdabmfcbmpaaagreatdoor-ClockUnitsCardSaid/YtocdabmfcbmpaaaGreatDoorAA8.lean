import Derived.Test.YtocdabmfcbmpaaaGreatDoorAA7
namespace Go.Proofs.YtocdabmfcbmpaaaGreatDoor
open Go.RowKit
set_option linter.unusedVariables false
set_option linter.unusedSimpArgs false

theorem bt_small {a b : Int} {u : Nat} (hu : u < 5) : btI a b u = (b - a) / lenI u := by unfold btI; rw [if_pos hu]
theorem bt_some {a b x : Int} {u : Nat} (hu : ¬ u < 5) (h : addI a (btN a b u) u = some x) : btI a b u = if b < x then btN a b u - 1 else btN a b u := by unfold btI; rw [if_neg hu, h]
theorem bt_none {a b : Int} {u : Nat} (hu : ¬ u < 5) (h : addI a (btN a b u) u = none) : btI a b u = btN a b u - 1 := by unfold btI; rw [if_neg hu, h]
set_option maxRecDepth 100000 in
theorem between_small (a b : Int) (u : Nat) (hu : u < 5) (a0 : -62135596800 ≤ a) (b1 : b ≤ 253402300799) (hab : a ≤ b) (w : World) (hL : LenT w) : Calls Tryz.prog 33 #[I a, I b, .int .i64 u] w fun e w' => e = .returned (I (btI a b u)) ∧ Below w.heap.size w w' := by
  have hc := hL.cell u hu
  have hl := len_bd u
  have HB : Hid (btI a b u = (b - a) / lenI u) := Lib.hid (bt_small hu)
  rw [HB.out]
  clear hL HB
  generalize lenI u = l at *
  obtain ⟨q, hq⟩ : ∃ q, (b - a) / l = q := ⟨_, rfl⟩
  have q0 : 0 ≤ q := by rw [← hq]; exact Int.ediv_nonneg (by omega) (by omega)
  have q1 : q ≤ b - a := by rw [← hq]; exact Int.ediv_le_self _ (by omega)
  go_enter Tryz.func33, Tryz.ntmps33
  go_wp2
  go_ret
  exact ⟨ret_int (by first | rfl | exact hq.symm | exact hq), Below.refl _ _⟩
set_option maxRecDepth 100000 in
set_option maxHeartbeats 1000000 in
theorem between_m5 (a b : Int) (a0 : -62135596800 ≤ a) (b1 : b ≤ 253402300799) (hab : a ≤ b) (w : World) (hL : LenT w) : Calls Tryz.prog 33 #[I a, I b, I 5] w fun e w' => e = .returned (I (btI a b 5)) ∧ Below w.heap.size w w' := by
  have HL := Lib.hid hL
  have pa := parts_bd a0 (by omega : a ≤ 253402300799)
  have pb := parts_bd (by omega : -62135596800 ≤ b) b1
  have HDa := Lib.hid (fun w => dateOf_any a w (by omega) (by omega))
  have HDb := Lib.hid (fun w => dateOf_any b w (by omega) (by omega))
  rw [show dateV a = D6 (dYI (a / 86400)) (dMI (a / 86400)) (dDI (a / 86400)) (a % 86400 / 3600) (a % 86400 / 60 % 60) (a % 86400 % 60) from rfl] at HDa
  rw [show dateV b = D6 (dYI (b / 86400)) (dMI (b / 86400)) (dDI (b / 86400)) (b % 86400 / 3600) (b % 86400 / 60 % 60) (b % 86400 % 60) from rfl] at HDb
  obtain ⟨n, HN⟩ : ∃ n, Hid (btN a b 5 = n) := ⟨_, Lib.hid rfl⟩
  have hn : (dYI (b / 86400) - dYI (a / 86400)) * 12 + dMI (b / 86400) - dMI (a / 86400) = n := HN.out
  have hyes := fun x (h : addI a (btN a b 5) 5 = some x) => bt_some (by decide) h
  have hno := fun (h : addI a (btN a b 5) 5 = none) => bt_none (by decide) h
  rw [HN.out] at hyes hno
  generalize dYI (a / 86400) = Ya at *
  generalize dMI (a / 86400) = Ma at *
  generalize dDI (a / 86400) = Da at *
  generalize a % 86400 / 3600 = x3 at *
  generalize a % 86400 / 60 % 60 = x4 at *
  generalize a % 86400 % 60 = x5 at *
  generalize dYI (b / 86400) = Yb at *
  generalize dMI (b / 86400) = Mb at *
  generalize dDI (b / 86400) = Db at *
  generalize b % 86400 / 3600 = y3 at *
  generalize b % 86400 / 60 % 60 = y4 at *
  generalize b % 86400 % 60 = y5 at *
  have nb : -200000 ≤ n ∧ n ≤ 200000 := by omega
  cases ha : addI a n 5 with
  | none =>
    have HA : Hid (∀ w, LenT w → Calls Tryz.prog 26 #[I a, I n, I 5] w fun e w' => (∃ x, e = .returned (.tuple #[I x, .bool false])) ∧ Below w.heap.size w w') := Lib.hid (fun w hl => add_no (u := 5) (by decide) a0 (by omega) ha w hl)
    have HR : Hid (btI a b 5 = n - 1) := Lib.hid (hno ha)
    clear hyes hno ha hL
    go_enter Tryz.func33, Tryz.ntmps33
    go_wp2_with (first | (go_at_call 53; (with_reducible refine (HDa.out _).mono ?_); rintro e W1 ⟨rfl, hb1⟩; have HB1 := Lib.hid hb1; clear hb1) | (go_at_call 53; (with_reducible refine (HDb.out _).mono ?_); rintro e W2 ⟨rfl, hb2⟩; have HB2 := Lib.hid (HB1.out.trans (hb2.mono HB1.out.size)); clear hb2) | (go_at_call 26; (with_reducible refine (HA.out _ (HL.out.after ((HB2.out.alloc HB2.out.size _).alloc (by have := HB2.out.size; simp; omega) _))).mono ?_); rintro e W3 ⟨⟨x, rfl⟩, hb3⟩; have HB3 := Lib.hid (((HB2.out.alloc HB2.out.size _).alloc (by have := HB2.out.size; simp; omega) _).trans (hb3.mono (by have := HB2.out.size; simp; omega))); clear hb3))
    go_ret
    exact ⟨ret_int HR.out.symm, HB3.out⟩
  | some x =>
    have HA : Hid (∀ w, LenT w → Calls Tryz.prog 26 #[I a, I n, I 5] w fun e w' => e = .returned (.tuple #[I x, .bool true]) ∧ Below w.heap.size w w') := Lib.hid (fun w hl => add_yes (u := 5) (by decide) a0 (by omega) ha w hl)
    have HR : Hid (btI a b 5 = if b < x then n - 1 else n) := Lib.hid (hyes x ha)
    clear hyes hno ha hL
    by_cases hx : b < x
    · have HR2 : Hid (btI a b 5 = n - 1) := Lib.hid (by rw [HR.out, if_pos hx])
      clear HR
      go_enter Tryz.func33, Tryz.ntmps33
      go_wp2_with (first | (go_at_call 53; (with_reducible refine (HDa.out _).mono ?_); rintro e W1 ⟨rfl, hb1⟩; have HB1 := Lib.hid hb1; clear hb1) | (go_at_call 53; (with_reducible refine (HDb.out _).mono ?_); rintro e W2 ⟨rfl, hb2⟩; have HB2 := Lib.hid (HB1.out.trans (hb2.mono HB1.out.size)); clear hb2) | (go_at_call 26; (with_reducible refine (HA.out _ (HL.out.after ((HB2.out.alloc HB2.out.size _).alloc (by have := HB2.out.size; simp; omega) _))).mono ?_); rintro e W3 ⟨rfl, hb3⟩; have HB3 := Lib.hid (((HB2.out.alloc HB2.out.size _).alloc (by have := HB2.out.size; simp; omega) _).trans (hb3.mono (by have := HB2.out.size; simp; omega))); clear hb3))
      go_ret
      exact ⟨ret_int HR2.out.symm, HB3.out⟩
    · have HR2 : Hid (btI a b 5 = n) := Lib.hid (by rw [HR.out, if_neg hx])
      have hxd : decide (b < x) = false := decide_eq_false hx
      clear HR
      go_enter Tryz.func33, Tryz.ntmps33
      go_wp2_with (first | (go_at_call 53; (with_reducible refine (HDa.out _).mono ?_); rintro e W1 ⟨rfl, hb1⟩; have HB1 := Lib.hid hb1; clear hb1) | (go_at_call 53; (with_reducible refine (HDb.out _).mono ?_); rintro e W2 ⟨rfl, hb2⟩; have HB2 := Lib.hid (HB1.out.trans (hb2.mono HB1.out.size)); clear hb2) | (go_at_call 26; (with_reducible refine (HA.out _ (HL.out.after ((HB2.out.alloc HB2.out.size _).alloc (by have := HB2.out.size; simp; omega) _))).mono ?_); rintro e W3 ⟨rfl, hb3⟩; have HB3 := Lib.hid (((HB2.out.alloc HB2.out.size _).alloc (by have := HB2.out.size; simp; omega) _).trans (hb3.mono (by have := HB2.out.size; simp; omega))); clear hb3))
      go_ret
      exact ⟨ret_int HR2.out.symm, HB3.out⟩
set_option maxRecDepth 100000 in
set_option maxHeartbeats 1000000 in
theorem between_m6 (a b : Int) (a0 : -62135596800 ≤ a) (b1 : b ≤ 253402300799) (hab : a ≤ b) (w : World) (hL : LenT w) : Calls Tryz.prog 33 #[I a, I b, I 6] w fun e w' => e = .returned (I (btI a b 6)) ∧ Below w.heap.size w w' := by
  have HL := Lib.hid hL
  have pa := parts_bd a0 (by omega : a ≤ 253402300799)
  have pb := parts_bd (by omega : -62135596800 ≤ b) b1
  have HDa := Lib.hid (fun w => dateOf_any a w (by omega) (by omega))
  have HDb := Lib.hid (fun w => dateOf_any b w (by omega) (by omega))
  rw [show dateV a = D6 (dYI (a / 86400)) (dMI (a / 86400)) (dDI (a / 86400)) (a % 86400 / 3600) (a % 86400 / 60 % 60) (a % 86400 % 60) from rfl] at HDa
  rw [show dateV b = D6 (dYI (b / 86400)) (dMI (b / 86400)) (dDI (b / 86400)) (b % 86400 / 3600) (b % 86400 / 60 % 60) (b % 86400 % 60) from rfl] at HDb
  obtain ⟨n, HN⟩ : ∃ n, Hid (btN a b 6 = n) := ⟨_, Lib.hid rfl⟩
  have hn : dYI (b / 86400) - dYI (a / 86400) = n := HN.out
  have hyes := fun x (h : addI a (btN a b 6) 6 = some x) => bt_some (by decide) h
  have hno := fun (h : addI a (btN a b 6) 6 = none) => bt_none (by decide) h
  rw [HN.out] at hyes hno
  generalize dYI (a / 86400) = Ya at *
  generalize dMI (a / 86400) = Ma at *
  generalize dDI (a / 86400) = Da at *
  generalize a % 86400 / 3600 = x3 at *
  generalize a % 86400 / 60 % 60 = x4 at *
  generalize a % 86400 % 60 = x5 at *
  generalize dYI (b / 86400) = Yb at *
  generalize dMI (b / 86400) = Mb at *
  generalize dDI (b / 86400) = Db at *
  generalize b % 86400 / 3600 = y3 at *
  generalize b % 86400 / 60 % 60 = y4 at *
  generalize b % 86400 % 60 = y5 at *
  have nb : -200000 ≤ n ∧ n ≤ 200000 := by omega
  cases ha : addI a n 6 with
  | none =>
    have HA : Hid (∀ w, LenT w → Calls Tryz.prog 26 #[I a, I n, I 6] w fun e w' => (∃ x, e = .returned (.tuple #[I x, .bool false])) ∧ Below w.heap.size w w') := Lib.hid (fun w hl => add_no (u := 6) (by decide) a0 (by omega) ha w hl)
    have HR : Hid (btI a b 6 = n - 1) := Lib.hid (hno ha)
    clear hyes hno ha hL
    go_enter Tryz.func33, Tryz.ntmps33
    go_wp2_with (first | (go_at_call 53; (with_reducible refine (HDa.out _).mono ?_); rintro e W1 ⟨rfl, hb1⟩; have HB1 := Lib.hid hb1; clear hb1) | (go_at_call 53; (with_reducible refine (HDb.out _).mono ?_); rintro e W2 ⟨rfl, hb2⟩; have HB2 := Lib.hid (HB1.out.trans (hb2.mono HB1.out.size)); clear hb2) | (go_at_call 26; (with_reducible refine (HA.out _ (HL.out.after ((HB2.out.alloc HB2.out.size _).alloc (by have := HB2.out.size; simp; omega) _))).mono ?_); rintro e W3 ⟨⟨x, rfl⟩, hb3⟩; have HB3 := Lib.hid (((HB2.out.alloc HB2.out.size _).alloc (by have := HB2.out.size; simp; omega) _).trans (hb3.mono (by have := HB2.out.size; simp; omega))); clear hb3))
    go_ret
    exact ⟨ret_int HR.out.symm, HB3.out⟩
  | some x =>
    have HA : Hid (∀ w, LenT w → Calls Tryz.prog 26 #[I a, I n, I 6] w fun e w' => e = .returned (.tuple #[I x, .bool true]) ∧ Below w.heap.size w w') := Lib.hid (fun w hl => add_yes (u := 6) (by decide) a0 (by omega) ha w hl)
    have HR : Hid (btI a b 6 = if b < x then n - 1 else n) := Lib.hid (hyes x ha)
    clear hyes hno ha hL
    by_cases hx : b < x
    · have HR2 : Hid (btI a b 6 = n - 1) := Lib.hid (by rw [HR.out, if_pos hx])
      clear HR
      go_enter Tryz.func33, Tryz.ntmps33
      go_wp2_with (first | (go_at_call 53; (with_reducible refine (HDa.out _).mono ?_); rintro e W1 ⟨rfl, hb1⟩; have HB1 := Lib.hid hb1; clear hb1) | (go_at_call 53; (with_reducible refine (HDb.out _).mono ?_); rintro e W2 ⟨rfl, hb2⟩; have HB2 := Lib.hid (HB1.out.trans (hb2.mono HB1.out.size)); clear hb2) | (go_at_call 26; (with_reducible refine (HA.out _ (HL.out.after ((HB2.out.alloc HB2.out.size _).alloc (by have := HB2.out.size; simp; omega) _))).mono ?_); rintro e W3 ⟨rfl, hb3⟩; have HB3 := Lib.hid (((HB2.out.alloc HB2.out.size _).alloc (by have := HB2.out.size; simp; omega) _).trans (hb3.mono (by have := HB2.out.size; simp; omega))); clear hb3))
      go_ret
      exact ⟨ret_int HR2.out.symm, HB3.out⟩
    · have HR2 : Hid (btI a b 6 = n) := Lib.hid (by rw [HR.out, if_neg hx])
      have hxd : decide (b < x) = false := decide_eq_false hx
      clear HR
      go_enter Tryz.func33, Tryz.ntmps33
      go_wp2_with (first | (go_at_call 53; (with_reducible refine (HDa.out _).mono ?_); rintro e W1 ⟨rfl, hb1⟩; have HB1 := Lib.hid hb1; clear hb1) | (go_at_call 53; (with_reducible refine (HDb.out _).mono ?_); rintro e W2 ⟨rfl, hb2⟩; have HB2 := Lib.hid (HB1.out.trans (hb2.mono HB1.out.size)); clear hb2) | (go_at_call 26; (with_reducible refine (HA.out _ (HL.out.after ((HB2.out.alloc HB2.out.size _).alloc (by have := HB2.out.size; simp; omega) _))).mono ?_); rintro e W3 ⟨rfl, hb3⟩; have HB3 := Lib.hid (((HB2.out.alloc HB2.out.size _).alloc (by have := HB2.out.size; simp; omega) _).trans (hb3.mono (by have := HB2.out.size; simp; omega))); clear hb3))
      go_ret
      exact ⟨ret_int HR2.out.symm, HB3.out⟩
theorem between_all (a b : Int) (u : Nat) (hu : u < 7) (a0 : -62135596800 ≤ a) (b1 : b ≤ 253402300799) (hab : a ≤ b) (w : World) (hL : LenT w) : Calls Tryz.prog 33 #[I a, I b, .int .i64 u] w fun e w' => e = .returned (I (btI a b u)) ∧ Below w.heap.size w w' := by
  by_cases h : u < 5
  · exact between_small a b u h a0 b1 hab w hL
  · have : u = 5 ∨ u = 6 := by omega
    rcases this with rfl | rfl
    · exact between_m5 a b a0 b1 hab w hL
    · exact between_m6 a b a0 b1 hab w hL
end Go.Proofs.YtocdabmfcbmpaaaGreatDoor
