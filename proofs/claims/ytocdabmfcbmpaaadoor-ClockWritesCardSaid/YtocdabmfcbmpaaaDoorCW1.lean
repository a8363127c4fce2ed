import Derived.Test.YtocdabmfcbmpaaaDoorSW3
import Derived.Test.YtocdabmfcbmpaaaDoorCD3
namespace Go.Proofs.YtocdabmfcbmpaaaDoor
open Go.RowKit
set_option linter.unusedVariables false
set_option linter.unusedSimpArgs false

/-! ### the other letters -/
theorem fn_of {m : Nat} {W : World} {k : FuncId} {g : Int → Int} (hk : IsGo k) (h : ∀ (t : Int) (w : World), -62135596800 ≤ t → t ≤ 253402300799 → Calls Tryd.prog k #[I t] w fun e w' => e = .returned (I (g t)) ∧ Below w.heap.size w w') : FnAt m W (Fv k #[]) g :=
  ⟨k, #[], rfl, hk, fun W' _ t t0 t1 => h t W' t0 t1⟩
theorem fn_yearday (m : Nat) (W : World) : FnAt m W (Fv 49 #[]) ydI := fn_of isGo49 fun t w t0 t1 => yearday_any t w (by omega) (by omega)
theorem fn_weekday (m : Nat) (W : World) : FnAt m W (Fv 47 #[]) weekdayI := fn_of isGo47 fun t w t0 t1 => (weekday_any t w (by omega) (by omega)).mono fun e w' ⟨he, hw⟩ => ⟨he, hw ▸ Below.refl _ _⟩
theorem L9_any (t : Int) (w : World) (t0 : -62135596800 ≤ t) (t1 : t ≤ 253402300799) : Calls Tryd.prog 76 #[I t] w fun e w' => e = .returned (I (wkY t)) ∧ Below w.heap.size w w' := by
  have H := Lib.hid (fun w => week_any t w (by omega) (by omega))
  go_enter Tryd.func76, Tryd.ntmps76
  go_wp2_with ((go_at_call 51; (with_reducible refine (H.out _).mono ?_); rintro e W1 ⟨rfl, hb1⟩))
  go_ret
  exact ⟨rfl, hb1⟩
theorem L10_any (t : Int) (w : World) (t0 : -62135596800 ≤ t) (t1 : t ≤ 253402300799) : Calls Tryd.prog 77 #[I t] w fun e w' => e = .returned (I (wkN t)) ∧ Below w.heap.size w w' := by
  have H := Lib.hid (fun w => week_any t w (by omega) (by omega))
  go_enter Tryd.func77, Tryd.ntmps77
  go_wp2_with ((go_at_call 51; (with_reducible refine (H.out _).mono ?_); rintro e W1 ⟨rfl, hb1⟩))
  go_ret
  exact ⟨rfl, hb1⟩
theorem fn_weekyear (m : Nat) (W : World) : FnAt m W (Fv 76 #[]) wkY := fn_of isGo76 L9_any
theorem fn_weeknumber (m : Nat) (W : World) : FnAt m W (Fv 77 #[]) wkN := fn_of isGo77 L10_any
/-- a number's text. -/
def itoS (n : Int) : ByteArray := ⟨(Lib.itoa n).toArray⟩
theorem field_d (a0 a1 a2 a3 a4 a5 : Int) (w : World) : (Instr.field 23 (D6 a0 a1 a2 a3 a4 a5) 2).run Tryd.prog w = .ok (I a2) w := by kernel_rfl
theorem L11_any (t : Int) (w : World) (t0 : -62135596800 ≤ t) (t1 : t ≤ 253402300799) (hT : Tab w) : Calls Tryd.prog 83 #[I t] w fun e w' => e = .returned (.string (itoS (dDI (t / 86400)))) ∧ Below w.heap.size w w' := by
  have hp := parts_bd t0 t1
  have HD := Lib.hid (fun w => dateOf_any t w (by omega) (by omega))
  have HI := Lib.hid (fun w hw => itoa_any (dDI (t / 86400)) (by omega) (by omega) w hw)
  have hf := field_d (dYI (t / 86400)) (dMI (t / 86400)) (dDI (t / 86400)) (t % 86400 / 3600) (t % 86400 / 60 % 60) (t % 86400 % 60)
  have HT := Lib.hid hT
  clear hp hT
  unfold itoS
  rw [show dateV t = D6 (dYI (t / 86400)) (dMI (t / 86400)) (dDI (t / 86400)) (t % 86400 / 3600) (t % 86400 / 60 % 60) (t % 86400 % 60) from rfl] at HD
  generalize dYI (t / 86400) = Y at *
  generalize dMI (t / 86400) = M at *
  generalize dDI (t / 86400) = D at *
  generalize t % 86400 / 3600 = x3 at *
  generalize t % 86400 / 60 % 60 = x4 at *
  generalize t % 86400 % 60 = x5 at *
  go_enter Tryd.func83, Tryd.ntmps83
  go_wp2_with (first | (go_at_call 34; (with_reducible refine (HD.out _).mono ?_); rintro e W1 ⟨rfl, hb1⟩; have HB1 := Lib.hid hb1; clear hb1) | (go_at_call 84; (with_reducible refine (HI.out _ (HT.out.after HB1.out)).mono ?_); rintro e W2 ⟨rfl, hb2⟩))
  go_ret
  exact ⟨rfl, HB1.out.trans (hb2.mono HB1.out.size)⟩
theorem L12_any (t : Int) (w : World) (t0 : -62135596800 ≤ t) (t1 : t ≤ 253402300799) (hT : Tab w) : Calls Tryd.prog 86 #[I t] w fun e w' => e = .returned (.string (itoS t)) ∧ Below w.heap.size w w' := by
  have HI := Lib.hid (itoa_any t (by omega) (by omega) w hT)
  clear hT
  unfold itoS
  go_enter Tryd.func86, Tryd.ntmps86
  go_wp2_with ((go_at_call 84; (with_reducible refine HI.out.mono ?_); rintro e W2 ⟨rfl, hb2⟩))
  go_ret
  exact ⟨rfl, hb2⟩
theorem let_day (m : Nat) (W : World) (v : Value) : LetAt m W (.agg #[Fv 83 #[], v]) fun t => itoS (dDI (t / 86400)) :=
  ⟨83, #[], v, rfl, isGo83, fun W' _ hT t t0 t1 => L11_any t W' t0 t1 hT⟩
theorem let_time (m : Nat) (W : World) (v : Value) : LetAt m W (.agg #[Fv 86 #[], v]) itoS :=
  ⟨86, #[], v, rfl, isGo86, fun W' _ hT t t0 t1 => L12_any t W' t0 t1 hT⟩
set_option maxRecDepth 100000 in
set_option maxHeartbeats 1000000 in
theorem named1_any {k : FuncId} {cap : Array Value} (hk : IsGo k) (b0 b1 b n : Nat) (hn : n ≤ 100) (w : World) (r t : Int) (s : ByteArray) (hr : 1 ≤ r ∧ r ≤ n)
    (hf : ∀ W', Below w.heap.size w W' → Calls Tryd.prog k (#[I t] ++ cap) W' fun e w'' => e = .returned (I r) ∧ Below W'.heap.size W' w'')
    (h0 : w.cell? ⟨b0, 0, none⟩ = some (.slice (some ⟨b, 0, none⟩) n n)) (h1 : w.cell? ⟨b1, 0, none⟩ = some (Fv k cap)) (hs : w.cell? ⟨b, r.toNat - 1, none⟩ = some (.string s)) :
    Calls Tryd.prog 97 #[I t, Pt b0, Pt b1] w fun e w' => e = .returned (.string s) ∧ Below w.heap.size w w' := by
  have HF := Lib.hid hf
  have H := Lib.hid (And.intro h0 (And.intro h1 hs))
  unfold IsGo at hk
  have e1 : IntKind.i64.wrap (r - 1) = r - 1 := IntWalk.i64_in _ (by omega)
  have e2 : (0 : Int) ≤ r - 1 := by omega
  have e3 : r - 1 < (n : Int) := by omega
  clear hf h0 h1 hs
  go_enter Tryd.func97, Tryd.ntmps97
  go_wp2
  go_region_held3 (fun w' => w'.cell? ⟨b0, 0, none⟩ = some (.slice (some ⟨b, 0, none⟩) n n) ∧ w'.cell? ⟨b1, 0, none⟩ = some (Fv k cap) ∧ w'.cell? ⟨b, r.toNat - 1, none⟩ = some (.string s)) (first | exact H.out | exact ⟨cell_after (undrew hb1) H.out.1, cell_after (undrew hb1) H.out.2.1, cell_after (undrew hb1) H.out.2.2⟩) (((with_reducible refine (HF.out _ ((Below.refl _ _).drew)).mono ?_); rintro e W1 ⟨rfl, hb1⟩))
  go_wp2
  go_ret
  exact ⟨rfl, undrew hb1⟩
theorem named_at {m : Nat} {W : World} {f : Value} {g : Int → Int} {b0 b1 b : Nat} {l : List ByteArray} {v : Value} (hf : FnAt m W f g) (hl : l.length ≤ 100) (hg : ∀ t : Int, -62135596800 ≤ t → t ≤ 253402300799 → 1 ≤ g t ∧ g t ≤ l.length)
    (h0 : W.cell? ⟨b0, 0, none⟩ = some (.slice (some ⟨b, 0, none⟩) l.length l.length)) (h1 : W.cell? ⟨b1, 0, none⟩ = some f) (hr : W.heap[b]? = some (.cells (strCells l) 9 (0, 0))) (hb : b0 ≠ m ∧ b1 ≠ m ∧ b ≠ m) :
    LetAt m W (.agg #[Fv 97 #[Pt b0, Pt b1], v]) fun t => l.getD ((g t).toNat - 1) ⟨#[]⟩ := by
  obtain ⟨k, cap, rfl, hk, h⟩ := hf
  refine ⟨97, _, _, rfl, isGo97, fun W' hK hT t t0 t1 => ?_⟩
  have hgt := hg t t0 t1
  refine named1_any hk b0 b1 b l.length hl W' (g t) t _ hgt (fun W2 hb2 => h W2 (hK.trans (Below.keep hb2)) t t0 t1) (hK.cell hb.1 h0) (hK.cell hb.2.1 h1) (hK.cell (a := ⟨b, (g t).toNat - 1, none⟩) hb.2.2 ?_)
  refine (cell_of_row _ _ _ _ _ _ hr).trans (strCells_at ?_)
  have hlt : (g t).toNat - 1 < l.length := by omega
  show l[(g t).toNat - 1]? = some (l.getD ((g t).toNat - 1) ⟨#[]⟩)
  rw [List.getD_eq_getElem?_getD, List.getElem?_eq_getElem hlt]
  rfl
theorem namedL {m : Nat} {w : World} {k : FuncId} {cap : Array Value} {g : Int → Int} {b : Nat} (l : List ByteArray) (n : Nat) (hn : n = l.length) (hf : FnAt m w (Fv k cap) g) (hl : l.length ≤ 100) (hg : ∀ t : Int, -62135596800 ≤ t → t ≤ 253402300799 → 1 ≤ g t ∧ g t ≤ l.length) (hm : m < w.heap.size)
    (hr : w.heap[b]? = some (.cells (strCells l) 9 (0, 0))) (hbm : b ≠ m) :
    Calls Tryd.prog 78 #[.slice (some ⟨b, 0, none⟩) n n, Fv k cap] w fun e w' => ∃ v, e = .returned v ∧ Two v ∧ LetAt m w' v (fun t => l.getD ((g t).toNat - 1) ⟨#[]⟩) ∧ Below w.heap.size w w' := by
  subst hn
  refine (named_any _ _ _ k cap w).mono fun e w' ⟨he, hw⟩ => ⟨_, he, ⟨_, _, _, _, rfl⟩, ?_, ?_⟩
  · have hb : Below w.heap.size w w' := by rw [hw]; exact (((Below.refl _ _).alloc (Nat.le_refl _) _).alloc (by simp) _).alloc (by simp; omega) _
    have hlt : b < w.heap.size := (Array.getElem?_eq_some_iff.1 hr).1
    refine named_at (hf.keep (Below.keep hb)) hl hg ?_ ?_ ((hb.block b hlt).trans hr) ⟨by omega, by omega, hbm⟩
    · have r0 : w'.heap[w.heap.size]? = some (Obj.cells #[.slice (some ⟨b, 0, none⟩) l.length l.length] 82 (0, 0)) := by
        rw [hw, heap_alloc_old _ _ (by simp; omega), heap_alloc_old _ _ (by simp), heap_alloc_new]
      exact (cell_of_row _ _ 0 _ _ _ r0).trans rfl
    · have r0 : w'.heap[w.heap.size + 1]? = some (Obj.cells #[Fv k cap] 52 (0, 0)) := by
        rw [hw, heap_alloc_old _ _ (by simp)]
        have := heap_alloc_new (w.alloc (.cells #[.slice (some ⟨b, 0, none⟩) l.length l.length] 82)) (.cells #[Fv k cap] 52)
        rwa [World.size_alloc] at this
      exact (cell_of_row _ _ 0 _ _ _ r0).trans rfl
  · rw [hw]; exact (((Below.refl _ _).alloc (Nat.le_refl _) _).alloc (by simp) _).alloc (by simp; omega) _
def ampmL : List ByteArray := [⟨#[65, 77]⟩, ⟨#[80, 77]⟩]
def gHalf (t : Int) : Int := partG (fun y m d h mi s => h / 12 + 1) t
/-- the letters, all of them. -/
def letM : List (Nat × Option (Int → ByteArray)) := [(89, some fun t => padS (g69 t) 4), (121, some fun t => padS (g70 t) 2), (109, some fun t => padS (g67 t) 2), (100, some fun t => padS (g71 t) 2), (72, some fun t => padS (g72 t) 2), (77, some fun t => padS (g73 t) 2), (83, some fun t => padS (g74 t) 2), (73, some fun t => padS (g75 t) 2), (106, some fun t => padS (ydI t) 3), (117, some fun t => padS (weekdayI t) 1), (71, some fun t => padS (wkY t) 4), (86, some fun t => padS (wkN t) 2),
  (112, some fun t => ampmL.getD ((partG (fun y m d h mi s => h / 12 + 1) t).toNat - 1) ⟨#[]⟩), (66, some fun t => monthL.getD ((partG (fun y m d h mi s => m) t).toNat - 1) ⟨#[]⟩), (98, some fun t => (monthL.map cut3).getD ((partG (fun y m d h mi s => m) t).toNat - 1) ⟨#[]⟩), (65, some fun t => dayL.getD ((weekdayI t).toNat - 1) ⟨#[]⟩), (97, some fun t => (dayL.map cut3).getD ((weekdayI t).toNat - 1) ⟨#[]⟩), (101, some fun t => itoS (dDI (t / 86400))), (115, some itoS)]
end Go.Proofs.YtocdabmfcbmpaaaDoor
