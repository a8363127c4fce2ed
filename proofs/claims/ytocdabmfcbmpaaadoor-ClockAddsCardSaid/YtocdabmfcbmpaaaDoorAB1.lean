import Derived.Test.YtocdabmfcbmpaaaDoorAA9
namespace Go.Proofs.YtocdabmfcbmpaaaDoor
open Go.RowKit
set_option linter.unusedVariables false
set_option linter.unusedSimpArgs false

/-- a call of Add tells so much. -/
def AddIs (t n : Int) (s : ByteArray) (x er : Int) : Prop := ∀ w, LenT w → Calls Tryd.prog 27 #[I t, I n, .string s] w fun e w' => e = .returned (.tuple #[I x, E er]) ∧ Below w.heap.size w w'
def BetIs (a b : Int) (s : ByteArray) (x er : Int) : Prop := ∀ w, LenT w → Calls Tryd.prog 28 #[I a, I b, .string s] w fun e w' => e = .returned (.tuple #[I x, E er]) ∧ Below w.heap.size w w'
def DateIs (t a0 a1 a2 a3 a4 a5 er : Int) : Prop := ∀ w, Calls Tryd.prog 8 #[I t] w fun e w' => e = .returned (.tuple #[D6 a0 a1 a2 a3 a4 a5, E er]) ∧ Below w.heap.size w w'
theorem AddIs.of (t n : Int) (s : ByteArray) : AddIs t n s (addX t n s).1 (addX t n s).2 := fun w h => Add_any t n s w h
theorem BetIs.of (a b : Int) (s : ByteArray) : BetIs a b s (btX a b s).1 (btX a b s).2 := fun w h => Between_any a b s w h
theorem cell_new {W W2 : World} {a0 a1 a2 a3 a4 a5 : Int} (hb : Below (W.alloc (.cells #[I a0, I a1, I a2, I a3, I a4, I a5] 23)).heap.size (W.alloc (.cells #[I a0, I a1, I a2, I a3, I a4, I a5] 23)) W2) : W2.cell? ⟨W.heap.size, 2, none⟩ = some (I a2) :=
  cell_after hb ((cell_of_row _ _ 2 _ _ _ (heap_alloc_new W _)).trans rfl)
set_option maxRecDepth 100000 in
set_option maxHeartbeats 4000000 in
theorem adds_g0 (t m n tt : Int) (s : ByteArray) (w : World) (hT : Tab w) (h : m < -1000000000) : Calls Tryd.prog 5 #[I t, I m, I n, I tt, .string s] w fun e w' => e = .returned (.bool true) ∧ Below w.heap.size w w' := by
  have HT := Lib.hid hT
  clear hT
  go_enter Tryd.func5, Tryd.ntmps5
  go_wp2_with (first | (go_at_call 18; (with_reducible refine (awake_any _ HT.out).mono ?_); rintro e Wz ⟨rfl, hbz⟩))
  go_ret
  exact ⟨rfl, hbz⟩
set_option maxRecDepth 100000 in
set_option maxHeartbeats 4000000 in
theorem adds_g1 (t m n tt : Int) (s : ByteArray) (w : World) (hT : Tab w) (h : 1000000000 < m) : Calls Tryd.prog 5 #[I t, I m, I n, I tt, .string s] w fun e w' => e = .returned (.bool true) ∧ Below w.heap.size w w' := by
  have HT := Lib.hid hT
  have c1 : decide (m < -1000000000) = false := decide_eq_false (by omega)
  clear hT
  go_enter Tryd.func5, Tryd.ntmps5
  go_wp2_with (first | (go_at_call 18; (with_reducible refine (awake_any _ HT.out).mono ?_); rintro e Wz ⟨rfl, hbz⟩))
  go_ret
  exact ⟨rfl, hbz⟩
set_option maxRecDepth 100000 in
set_option maxHeartbeats 4000000 in
theorem adds_g2 (t m n tt : Int) (s : ByteArray) (w : World) (hT : Tab w) (h : n < -1000000000) (hm : -1000000000 ≤ m ∧ m ≤ 1000000000) : Calls Tryd.prog 5 #[I t, I m, I n, I tt, .string s] w fun e w' => e = .returned (.bool true) ∧ Below w.heap.size w w' := by
  have HT := Lib.hid hT
  have c1 : decide (m < -1000000000) = false := decide_eq_false (by omega)
  have c2' : decide (1000000000 < m) = false := decide_eq_false (by omega)
  clear hT
  go_enter Tryd.func5, Tryd.ntmps5
  go_wp2_with (first | (go_at_call 18; (with_reducible refine (awake_any _ HT.out).mono ?_); rintro e Wz ⟨rfl, hbz⟩))
  go_ret
  exact ⟨rfl, hbz⟩
set_option maxRecDepth 100000 in
set_option maxHeartbeats 4000000 in
theorem adds_g3 (t m n tt : Int) (s : ByteArray) (w : World) (hT : Tab w) (h : 1000000000 < n) (hm : -1000000000 ≤ m ∧ m ≤ 1000000000) : Calls Tryd.prog 5 #[I t, I m, I n, I tt, .string s] w fun e w' => e = .returned (.bool true) ∧ Below w.heap.size w w' := by
  have HT := Lib.hid hT
  have c1 : decide (m < -1000000000) = false := decide_eq_false (by omega)
  have c2' : decide (1000000000 < m) = false := decide_eq_false (by omega)
  have c3 : decide (n < -1000000000) = false := decide_eq_false (by omega)
  clear hT
  go_enter Tryd.func5, Tryd.ntmps5
  go_wp2_with (first | (go_at_call 18; (with_reducible refine (awake_any _ HT.out).mono ?_); rintro e Wz ⟨rfl, hbz⟩))
  go_ret
  exact ⟨rfl, hbz⟩
set_option maxRecDepth 100000 in
set_option maxHeartbeats 4000000 in
theorem adds_g4 (t m n tt : Int) (s : ByteArray) (w : World) (hT : Tab w) (h : 10 < s.size) (hm : -1000000000 ≤ m ∧ m ≤ 1000000000) (hn : -1000000000 ≤ n ∧ n ≤ 1000000000) : Calls Tryd.prog 5 #[I t, I m, I n, I tt, .string s] w fun e w' => e = .returned (.bool true) ∧ Below w.heap.size w w' := by
  have HT := Lib.hid hT
  have c1 : decide (m < -1000000000) = false := decide_eq_false (by omega)
  have c2' : decide (1000000000 < m) = false := decide_eq_false (by omega)
  have c3 : decide (n < -1000000000) = false := decide_eq_false (by omega)
  have c4 : decide (1000000000 < n) = false := decide_eq_false (by omega)
  have c7 : (10 : Int) < (s.size : Int) := by omega
  clear hT
  go_enter Tryd.func5, Tryd.ntmps5
  go_wp2_with (first | (go_at_call 18; (with_reducible refine (awake_any _ HT.out).mono ?_); rintro e Wz ⟨rfl, hbz⟩))
  go_ret
  exact ⟨rfl, hbz⟩
set_option maxRecDepth 100000 in
set_option maxHeartbeats 4000000 in
theorem adds_x (t m n tt a0 a1 a2 a3 a4 a5 er av ae : Int) (s : ByteArray) (w : World) (hT : Tab w) (hL : LenT w) (hm : -1000000000 ≤ m ∧ m ≤ 1000000000) (hn : -1000000000 ≤ n ∧ n ≤ 1000000000) (hs : s.size ≤ 10) (h8 : DateIs t a0 a1 a2 a3 a4 a5 er) (hA : AddIs t m s av ae) (hw : (er == 0) = false ∨ (er = 0 ∧ (ae == 0) = false)) : Calls Tryd.prog 5 #[I t, I m, I n, I tt, .string s] w fun e w' => e = .returned (.bool true) ∧ Below w.heap.size w w' := by
  have HT := Lib.hid hT
  have HLn := Lib.hid hL
  have H8 := Lib.hid h8
  have HA := Lib.hid hA
  unfold DateIs at H8
  unfold AddIs at HA
  have c1 : decide (m < -1000000000) = false := decide_eq_false (by omega)
  have c2' : decide (1000000000 < m) = false := decide_eq_false (by omega)
  have c3 : decide (n < -1000000000) = false := decide_eq_false (by omega)
  have c4 : decide (1000000000 < n) = false := decide_eq_false (by omega)
  have c5 : decide ((10 : Int) < (s.size : Int)) = false := decide_eq_false (by omega)
  have c6 : decide (10 < s.size) = false := decide_eq_false (by omega)
  clear hT hL h8 hA hm hn hs
  rcases hw with hw | ⟨rfl, hw⟩
  all_goals
    go_enter Tryd.func5, Tryd.ntmps5
    go_wp2_with (first | (go_at_call 8; (with_reducible refine (H8.out _).mono ?_); rintro e W1 ⟨rfl, hb⟩; have HB1 := Lib.hid hb; clear hb) | (go_at_call 27; (with_reducible refine (HA.out _ (HLn.out.after (HB1.out.alloc HB1.out.size _))).mono ?_); rintro e W ⟨rfl, hb⟩; have HB := Lib.hid (HB1.out.trans (below_new hb |>.mono HB1.out.size)); have FD := Lib.hid (cell_new hb); clear hb) | (go_at_call 18; (with_reducible refine (awake_any _ (HT.out.after HB.out)).mono ?_); rintro e Wz ⟨rfl, hbz⟩))
    go_ret
    exact ⟨rfl, HB.out.trans (hbz.mono HB.out.size)⟩
set_option maxRecDepth 100000 in
set_option maxHeartbeats 4000000 in
theorem adds_00 (t m n tt a0 a1 D a3 a4 a5 av bv be cv ce k ie : Int) (s : ByteArray) (w : World) (hT : Tab w) (hL : LenT w) (hm : -1000000000 ≤ m ∧ m ≤ 1000000000) (hn : -1000000000 ≤ n ∧ n ≤ 1000000000) (hs : s.size ≤ 10) (h8 : DateIs t a0 a1 D a3 a4 a5 0) (hA : AddIs t m s av 0) (hB : AddIs av n s bv be) (hC : AddIs t (m + n) s cv ce) (hK : BetIs t tt s k ie) (h9 : (be == 0) = false) (h12 : (ie == 0) = false) : Calls Tryd.prog 5 #[I t, I m, I n, I tt, .string s] w fun e w' => e = .returned (.bool true) ∧ Below w.heap.size w w' := by
  have HT := Lib.hid hT
  have HLn := Lib.hid hL
  have H8 := Lib.hid h8
  have HA := Lib.hid hA
  have HBb := Lib.hid hB
  have HC := Lib.hid hC
  have HK := Lib.hid hK
  unfold DateIs at H8
  unfold AddIs at HA HBb HC
  unfold BetIs at HK
  have c1 : decide (m < -1000000000) = false := decide_eq_false (by omega)
  have c2' : decide (1000000000 < m) = false := decide_eq_false (by omega)
  have c3 : decide (n < -1000000000) = false := decide_eq_false (by omega)
  have c4 : decide (1000000000 < n) = false := decide_eq_false (by omega)
  have c5 : decide ((10 : Int) < (s.size : Int)) = false := decide_eq_false (by omega)
  have c6 : decide (10 < s.size) = false := decide_eq_false (by omega)
  clear hT hL h8 hA hB hC hK hs
  have h9n : ¬ be = 0 := by simpa using h9
  have h12n : ¬ ie = 0 := by simpa using h12
  go_enter Tryd.func5, Tryd.ntmps5
  go_wp2_with (first | (go_at_call 8; (with_reducible refine (H8.out _).mono ?_); rintro e W1 ⟨rfl, hb⟩; have HB1 := Lib.hid hb; clear hb) | (go_at_call 27; (with_reducible refine (HA.out _ (HLn.out.after (HB1.out.alloc HB1.out.size _))).mono ?_); rintro e W ⟨rfl, hb⟩; have HB := Lib.hid (HB1.out.trans (below_new hb |>.mono HB1.out.size)); have FD := Lib.hid (cell_new hb); clear hb) | (go_at_call 27; (with_reducible refine (HBb.out _ (HLn.out.after HB.out)).mono ?_); rintro e W ⟨rfl, hb⟩; replace HB := Lib.hid (HB.out.trans (hb.mono HB.out.size)); replace FD := Lib.hid (cell_after hb FD.out); clear hb) | (go_at_call 27; (with_reducible refine (HC.out _ (HLn.out.after HB.out)).mono ?_); rintro e W ⟨rfl, hb⟩; replace HB := Lib.hid (HB.out.trans (hb.mono HB.out.size)); replace FD := Lib.hid (cell_after hb FD.out); have fd := FD.out; clear hb) | (go_at_call 28; (with_reducible refine (HK.out _ (HLn.out.after HB.out)).mono ?_); rintro e W ⟨rfl, hb⟩; clear fd; replace HB := Lib.hid (HB.out.trans (hb.mono HB.out.size)); replace FD := Lib.hid (cell_after hb FD.out); clear hb) | (go_at_call 18; (with_reducible refine (awake_any _ (HT.out.after HB.out)).mono ?_); rintro e Wz ⟨rfl, hbz⟩))
  all_goals
    go_ret
    exact ⟨rfl, HB.out.trans (hbz.mono HB.out.size)⟩
set_option maxRecDepth 100000 in
set_option maxHeartbeats 4000000 in
theorem adds_01 (t m n tt a0 a1 D a3 a4 a5 av bv be cv ce k ie : Int) (s : ByteArray) (w : World) (hT : Tab w) (hL : LenT w) (hm : -1000000000 ≤ m ∧ m ≤ 1000000000) (hn : -1000000000 ≤ n ∧ n ≤ 1000000000) (hs : s.size ≤ 10) (h8 : DateIs t a0 a1 D a3 a4 a5 0) (hA : AddIs t m s av 0) (hB : AddIs av n s bv be) (hC : AddIs t (m + n) s cv ce) (hK : BetIs t tt s k ie) (h9 : (be == 0) = false) (h12 : ie = 0) (h12' : tt < t) : Calls Tryd.prog 5 #[I t, I m, I n, I tt, .string s] w fun e w' => e = .returned (.bool true) ∧ Below w.heap.size w w' := by
  have HT := Lib.hid hT
  have HLn := Lib.hid hL
  have H8 := Lib.hid h8
  have HA := Lib.hid hA
  have HBb := Lib.hid hB
  have HC := Lib.hid hC
  have HK := Lib.hid hK
  unfold DateIs at H8
  unfold AddIs at HA HBb HC
  unfold BetIs at HK
  have c1 : decide (m < -1000000000) = false := decide_eq_false (by omega)
  have c2' : decide (1000000000 < m) = false := decide_eq_false (by omega)
  have c3 : decide (n < -1000000000) = false := decide_eq_false (by omega)
  have c4 : decide (1000000000 < n) = false := decide_eq_false (by omega)
  have c5 : decide ((10 : Int) < (s.size : Int)) = false := decide_eq_false (by omega)
  have c6 : decide (10 < s.size) = false := decide_eq_false (by omega)
  clear hT hL h8 hA hB hC hK hs
  have h9n : ¬ be = 0 := by simpa using h9
  subst h12
  go_enter Tryd.func5, Tryd.ntmps5
  go_wp2_with (first | (go_at_call 8; (with_reducible refine (H8.out _).mono ?_); rintro e W1 ⟨rfl, hb⟩; have HB1 := Lib.hid hb; clear hb) | (go_at_call 27; (with_reducible refine (HA.out _ (HLn.out.after (HB1.out.alloc HB1.out.size _))).mono ?_); rintro e W ⟨rfl, hb⟩; have HB := Lib.hid (HB1.out.trans (below_new hb |>.mono HB1.out.size)); have FD := Lib.hid (cell_new hb); clear hb) | (go_at_call 27; (with_reducible refine (HBb.out _ (HLn.out.after HB.out)).mono ?_); rintro e W ⟨rfl, hb⟩; replace HB := Lib.hid (HB.out.trans (hb.mono HB.out.size)); replace FD := Lib.hid (cell_after hb FD.out); clear hb) | (go_at_call 27; (with_reducible refine (HC.out _ (HLn.out.after HB.out)).mono ?_); rintro e W ⟨rfl, hb⟩; replace HB := Lib.hid (HB.out.trans (hb.mono HB.out.size)); replace FD := Lib.hid (cell_after hb FD.out); have fd := FD.out; clear hb) | (go_at_call 28; (with_reducible refine (HK.out _ (HLn.out.after HB.out)).mono ?_); rintro e W ⟨rfl, hb⟩; clear fd; replace HB := Lib.hid (HB.out.trans (hb.mono HB.out.size)); replace FD := Lib.hid (cell_after hb FD.out); clear hb) | (go_at_call 18; (with_reducible refine (awake_any _ (HT.out.after HB.out)).mono ?_); rintro e Wz ⟨rfl, hbz⟩))
  all_goals
    go_ret
    exact ⟨rfl, HB.out.trans (hbz.mono HB.out.size)⟩
end Go.Proofs.YtocdabmfcbmpaaaDoor
