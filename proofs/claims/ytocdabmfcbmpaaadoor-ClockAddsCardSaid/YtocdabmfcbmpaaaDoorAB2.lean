import Derived.Test.YtocdabmfcbmpaaaDoorAB1
namespace Go.Proofs.YtocdabmfcbmpaaaDoor
open Go.RowKit
set_option linter.unusedVariables false
set_option linter.unusedSimpArgs false

set_option maxRecDepth 100000 in
set_option maxHeartbeats 4000000 in
theorem adds_02 (t m n tt a0 a1 D a3 a4 a5 av bv be cv ce k ie xv xe yv ye : Int) (s : ByteArray) (w : World) (hT : Tab w) (hL : LenT w) (hm : -1000000000 ≤ m ∧ m ≤ 1000000000) (hn : -1000000000 ≤ n ∧ n ≤ 1000000000) (hs : s.size ≤ 10) (h8 : DateIs t a0 a1 D a3 a4 a5 0) (hA : AddIs t m s av 0) (hB : AddIs av n s bv be) (hC : AddIs t (m + n) s cv ce) (hK : BetIs t tt s k ie) (hX : AddIs t k s xv xe) (hY : AddIs t (k + 1) s yv ye) (h9 : (be == 0) = false) (h12 : ie = 0) (h12' : t ≤ tt) (hk : 0 ≤ k ∧ k ≤ 315537897599) (hx : xe = 0) (hx' : xv ≤ tt) (hy : (ye == 0) = false) : Calls Tryd.prog 5 #[I t, I m, I n, I tt, .string s] w fun e w' => e = .returned (.bool true) ∧ Below w.heap.size w w' := by
  have HT := Lib.hid hT
  have HLn := Lib.hid hL
  have H8 := Lib.hid h8
  have HA := Lib.hid hA
  have HBb := Lib.hid hB
  have HC := Lib.hid hC
  have HK := Lib.hid hK
  unfold DateIs at H8
  unfold AddIs at HA HBb HC
  unfold BetIs at HK
  have HX := Lib.hid hX
  have HY := Lib.hid hY
  unfold AddIs at HX HY
  have c1 : decide (m < -1000000000) = false := decide_eq_false (by omega)
  have c2' : decide (1000000000 < m) = false := decide_eq_false (by omega)
  have c3 : decide (n < -1000000000) = false := decide_eq_false (by omega)
  have c4 : decide (1000000000 < n) = false := decide_eq_false (by omega)
  have c5 : decide ((10 : Int) < (s.size : Int)) = false := decide_eq_false (by omega)
  have c6 : decide (10 < s.size) = false := decide_eq_false (by omega)
  clear hT hL h8 hA hB hC hK hX hY hs
  have h9n : ¬ be = 0 := by simpa using h9
  subst h12 hx
  have hyn : ¬ ye = 0 := by simpa using hy
  have d12 : decide (tt < t) = false := decide_eq_false (by omega)
  go_enter Tryd.func5, Tryd.ntmps5
  go_wp2_with (first | (go_at_call 8; (with_reducible refine (H8.out _).mono ?_); rintro e W1 ⟨rfl, hb⟩; have HB1 := Lib.hid hb; clear hb) | (go_at_call 27; (with_reducible refine (HA.out _ (HLn.out.after (HB1.out.alloc HB1.out.size _))).mono ?_); rintro e W ⟨rfl, hb⟩; have HB := Lib.hid (HB1.out.trans (below_new hb |>.mono HB1.out.size)); have FD := Lib.hid (cell_new hb); clear hb) | (go_at_call 27; (with_reducible refine (HBb.out _ (HLn.out.after HB.out)).mono ?_); rintro e W ⟨rfl, hb⟩; replace HB := Lib.hid (HB.out.trans (hb.mono HB.out.size)); replace FD := Lib.hid (cell_after hb FD.out); clear hb) | (go_at_call 27; (with_reducible refine (HC.out _ (HLn.out.after HB.out)).mono ?_); rintro e W ⟨rfl, hb⟩; replace HB := Lib.hid (HB.out.trans (hb.mono HB.out.size)); replace FD := Lib.hid (cell_after hb FD.out); have fd := FD.out; clear hb) | (go_at_call 28; (with_reducible refine (HK.out _ (HLn.out.after HB.out)).mono ?_); rintro e W ⟨rfl, hb⟩; clear fd; replace HB := Lib.hid (HB.out.trans (hb.mono HB.out.size)); replace FD := Lib.hid (cell_after hb FD.out); clear hb) | (go_at_call 27; (with_reducible refine (HX.out _ (HLn.out.after HB.out)).mono ?_); rintro e W ⟨rfl, hb⟩; replace HB := Lib.hid (HB.out.trans (hb.mono HB.out.size)); replace FD := Lib.hid (cell_after hb FD.out); clear hb) | (go_at_call 27; (with_reducible refine (HY.out _ (HLn.out.after HB.out)).mono ?_); rintro e W ⟨rfl, hb⟩; replace HB := Lib.hid (HB.out.trans (hb.mono HB.out.size)); replace FD := Lib.hid (cell_after hb FD.out); clear hb) | (go_at_call 18; (with_reducible refine (awake_any _ (HT.out.after HB.out)).mono ?_); rintro e Wz ⟨rfl, hbz⟩))
  all_goals
    go_ret
    exact ⟨rfl, HB.out.trans (hbz.mono HB.out.size)⟩
set_option maxRecDepth 100000 in
set_option maxHeartbeats 4000000 in
theorem adds_03 (t m n tt a0 a1 D a3 a4 a5 av bv be cv ce k ie xv xe yv ye : Int) (s : ByteArray) (w : World) (hT : Tab w) (hL : LenT w) (hm : -1000000000 ≤ m ∧ m ≤ 1000000000) (hn : -1000000000 ≤ n ∧ n ≤ 1000000000) (hs : s.size ≤ 10) (h8 : DateIs t a0 a1 D a3 a4 a5 0) (hA : AddIs t m s av 0) (hB : AddIs av n s bv be) (hC : AddIs t (m + n) s cv ce) (hK : BetIs t tt s k ie) (hX : AddIs t k s xv xe) (hY : AddIs t (k + 1) s yv ye) (h9 : (be == 0) = false) (h12 : ie = 0) (h12' : t ≤ tt) (hk : 0 ≤ k ∧ k ≤ 315537897599) (hx : xe = 0) (hx' : xv ≤ tt) (hy : ye = 0) (hy' : tt < yv) : Calls Tryd.prog 5 #[I t, I m, I n, I tt, .string s] w fun e w' => e = .returned (.bool true) ∧ Below w.heap.size w w' := by
  have HT := Lib.hid hT
  have HLn := Lib.hid hL
  have H8 := Lib.hid h8
  have HA := Lib.hid hA
  have HBb := Lib.hid hB
  have HC := Lib.hid hC
  have HK := Lib.hid hK
  unfold DateIs at H8
  unfold AddIs at HA HBb HC
  unfold BetIs at HK
  have HX := Lib.hid hX
  have HY := Lib.hid hY
  unfold AddIs at HX HY
  have c1 : decide (m < -1000000000) = false := decide_eq_false (by omega)
  have c2' : decide (1000000000 < m) = false := decide_eq_false (by omega)
  have c3 : decide (n < -1000000000) = false := decide_eq_false (by omega)
  have c4 : decide (1000000000 < n) = false := decide_eq_false (by omega)
  have c5 : decide ((10 : Int) < (s.size : Int)) = false := decide_eq_false (by omega)
  have c6 : decide (10 < s.size) = false := decide_eq_false (by omega)
  clear hT hL h8 hA hB hC hK hX hY hs
  have h9n : ¬ be = 0 := by simpa using h9
  subst h12 hx hy
  have d12 : decide (tt < t) = false := decide_eq_false (by omega)
  go_enter Tryd.func5, Tryd.ntmps5
  go_wp2_with (first | (go_at_call 8; (with_reducible refine (H8.out _).mono ?_); rintro e W1 ⟨rfl, hb⟩; have HB1 := Lib.hid hb; clear hb) | (go_at_call 27; (with_reducible refine (HA.out _ (HLn.out.after (HB1.out.alloc HB1.out.size _))).mono ?_); rintro e W ⟨rfl, hb⟩; have HB := Lib.hid (HB1.out.trans (below_new hb |>.mono HB1.out.size)); have FD := Lib.hid (cell_new hb); clear hb) | (go_at_call 27; (with_reducible refine (HBb.out _ (HLn.out.after HB.out)).mono ?_); rintro e W ⟨rfl, hb⟩; replace HB := Lib.hid (HB.out.trans (hb.mono HB.out.size)); replace FD := Lib.hid (cell_after hb FD.out); clear hb) | (go_at_call 27; (with_reducible refine (HC.out _ (HLn.out.after HB.out)).mono ?_); rintro e W ⟨rfl, hb⟩; replace HB := Lib.hid (HB.out.trans (hb.mono HB.out.size)); replace FD := Lib.hid (cell_after hb FD.out); have fd := FD.out; clear hb) | (go_at_call 28; (with_reducible refine (HK.out _ (HLn.out.after HB.out)).mono ?_); rintro e W ⟨rfl, hb⟩; clear fd; replace HB := Lib.hid (HB.out.trans (hb.mono HB.out.size)); replace FD := Lib.hid (cell_after hb FD.out); clear hb) | (go_at_call 27; (with_reducible refine (HX.out _ (HLn.out.after HB.out)).mono ?_); rintro e W ⟨rfl, hb⟩; replace HB := Lib.hid (HB.out.trans (hb.mono HB.out.size)); replace FD := Lib.hid (cell_after hb FD.out); clear hb) | (go_at_call 27; (with_reducible refine (HY.out _ (HLn.out.after HB.out)).mono ?_); rintro e W ⟨rfl, hb⟩; replace HB := Lib.hid (HB.out.trans (hb.mono HB.out.size)); replace FD := Lib.hid (cell_after hb FD.out); clear hb) | (go_at_call 18; (with_reducible refine (awake_any _ (HT.out.after HB.out)).mono ?_); rintro e Wz ⟨rfl, hbz⟩))
  all_goals
    go_ret
    exact ⟨rfl, HB.out.trans (hbz.mono HB.out.size)⟩
set_option maxRecDepth 100000 in
set_option maxHeartbeats 4000000 in
theorem adds_10 (t m n tt a0 a1 D a3 a4 a5 av bv be cv ce k ie : Int) (s : ByteArray) (w : World) (hT : Tab w) (hL : LenT w) (hm : -1000000000 ≤ m ∧ m ≤ 1000000000) (hn : -1000000000 ≤ n ∧ n ≤ 1000000000) (hs : s.size ≤ 10) (h8 : DateIs t a0 a1 D a3 a4 a5 0) (hA : AddIs t m s av 0) (hB : AddIs av n s bv be) (hC : AddIs t (m + n) s cv ce) (hK : BetIs t tt s k ie) (h9 : be = 0) (h9' : 28 < D) (h12 : (ie == 0) = false) : Calls Tryd.prog 5 #[I t, I m, I n, I tt, .string s] w fun e w' => e = .returned (.bool true) ∧ Below w.heap.size w w' := by
  have HT := Lib.hid hT
  have HLn := Lib.hid hL
  have H8 := Lib.hid h8
  have HA := Lib.hid hA
  have HBb := Lib.hid hB
  have HC := Lib.hid hC
  have HK := Lib.hid hK
  unfold DateIs at H8
  unfold AddIs at HA HBb HC
  unfold BetIs at HK
  have c1 : decide (m < -1000000000) = false := decide_eq_false (by omega)
  have c2' : decide (1000000000 < m) = false := decide_eq_false (by omega)
  have c3 : decide (n < -1000000000) = false := decide_eq_false (by omega)
  have c4 : decide (1000000000 < n) = false := decide_eq_false (by omega)
  have c5 : decide ((10 : Int) < (s.size : Int)) = false := decide_eq_false (by omega)
  have c6 : decide (10 < s.size) = false := decide_eq_false (by omega)
  clear hT hL h8 hA hB hC hK hs
  subst h9
  have d9 : decide (D ≤ 28) = false := decide_eq_false (by omega)
  have h12n : ¬ ie = 0 := by simpa using h12
  go_enter Tryd.func5, Tryd.ntmps5
  go_wp2_with (first | (go_at_call 8; (with_reducible refine (H8.out _).mono ?_); rintro e W1 ⟨rfl, hb⟩; have HB1 := Lib.hid hb; clear hb) | (go_at_call 27; (with_reducible refine (HA.out _ (HLn.out.after (HB1.out.alloc HB1.out.size _))).mono ?_); rintro e W ⟨rfl, hb⟩; have HB := Lib.hid (HB1.out.trans (below_new hb |>.mono HB1.out.size)); have FD := Lib.hid (cell_new hb); clear hb) | (go_at_call 27; (with_reducible refine (HBb.out _ (HLn.out.after HB.out)).mono ?_); rintro e W ⟨rfl, hb⟩; replace HB := Lib.hid (HB.out.trans (hb.mono HB.out.size)); replace FD := Lib.hid (cell_after hb FD.out); clear hb) | (go_at_call 27; (with_reducible refine (HC.out _ (HLn.out.after HB.out)).mono ?_); rintro e W ⟨rfl, hb⟩; replace HB := Lib.hid (HB.out.trans (hb.mono HB.out.size)); replace FD := Lib.hid (cell_after hb FD.out); have fd := FD.out; clear hb) | (go_at_call 28; (with_reducible refine (HK.out _ (HLn.out.after HB.out)).mono ?_); rintro e W ⟨rfl, hb⟩; clear fd; replace HB := Lib.hid (HB.out.trans (hb.mono HB.out.size)); replace FD := Lib.hid (cell_after hb FD.out); clear hb) | (go_at_call 18; (with_reducible refine (awake_any _ (HT.out.after HB.out)).mono ?_); rintro e Wz ⟨rfl, hbz⟩))
  all_goals
    go_ret
    exact ⟨rfl, HB.out.trans (hbz.mono HB.out.size)⟩
set_option maxRecDepth 100000 in
set_option maxHeartbeats 4000000 in
theorem adds_11 (t m n tt a0 a1 D a3 a4 a5 av bv be cv ce k ie : Int) (s : ByteArray) (w : World) (hT : Tab w) (hL : LenT w) (hm : -1000000000 ≤ m ∧ m ≤ 1000000000) (hn : -1000000000 ≤ n ∧ n ≤ 1000000000) (hs : s.size ≤ 10) (h8 : DateIs t a0 a1 D a3 a4 a5 0) (hA : AddIs t m s av 0) (hB : AddIs av n s bv be) (hC : AddIs t (m + n) s cv ce) (hK : BetIs t tt s k ie) (h9 : be = 0) (h9' : 28 < D) (h12 : ie = 0) (h12' : tt < t) : Calls Tryd.prog 5 #[I t, I m, I n, I tt, .string s] w fun e w' => e = .returned (.bool true) ∧ Below w.heap.size w w' := by
  have HT := Lib.hid hT
  have HLn := Lib.hid hL
  have H8 := Lib.hid h8
  have HA := Lib.hid hA
  have HBb := Lib.hid hB
  have HC := Lib.hid hC
  have HK := Lib.hid hK
  unfold DateIs at H8
  unfold AddIs at HA HBb HC
  unfold BetIs at HK
  have c1 : decide (m < -1000000000) = false := decide_eq_false (by omega)
  have c2' : decide (1000000000 < m) = false := decide_eq_false (by omega)
  have c3 : decide (n < -1000000000) = false := decide_eq_false (by omega)
  have c4 : decide (1000000000 < n) = false := decide_eq_false (by omega)
  have c5 : decide ((10 : Int) < (s.size : Int)) = false := decide_eq_false (by omega)
  have c6 : decide (10 < s.size) = false := decide_eq_false (by omega)
  clear hT hL h8 hA hB hC hK hs
  subst h9
  have d9 : decide (D ≤ 28) = false := decide_eq_false (by omega)
  subst h12
  go_enter Tryd.func5, Tryd.ntmps5
  go_wp2_with (first | (go_at_call 8; (with_reducible refine (H8.out _).mono ?_); rintro e W1 ⟨rfl, hb⟩; have HB1 := Lib.hid hb; clear hb) | (go_at_call 27; (with_reducible refine (HA.out _ (HLn.out.after (HB1.out.alloc HB1.out.size _))).mono ?_); rintro e W ⟨rfl, hb⟩; have HB := Lib.hid (HB1.out.trans (below_new hb |>.mono HB1.out.size)); have FD := Lib.hid (cell_new hb); clear hb) | (go_at_call 27; (with_reducible refine (HBb.out _ (HLn.out.after HB.out)).mono ?_); rintro e W ⟨rfl, hb⟩; replace HB := Lib.hid (HB.out.trans (hb.mono HB.out.size)); replace FD := Lib.hid (cell_after hb FD.out); clear hb) | (go_at_call 27; (with_reducible refine (HC.out _ (HLn.out.after HB.out)).mono ?_); rintro e W ⟨rfl, hb⟩; replace HB := Lib.hid (HB.out.trans (hb.mono HB.out.size)); replace FD := Lib.hid (cell_after hb FD.out); have fd := FD.out; clear hb) | (go_at_call 28; (with_reducible refine (HK.out _ (HLn.out.after HB.out)).mono ?_); rintro e W ⟨rfl, hb⟩; clear fd; replace HB := Lib.hid (HB.out.trans (hb.mono HB.out.size)); replace FD := Lib.hid (cell_after hb FD.out); clear hb) | (go_at_call 18; (with_reducible refine (awake_any _ (HT.out.after HB.out)).mono ?_); rintro e Wz ⟨rfl, hbz⟩))
  all_goals
    go_ret
    exact ⟨rfl, HB.out.trans (hbz.mono HB.out.size)⟩
end Go.Proofs.YtocdabmfcbmpaaaDoor
