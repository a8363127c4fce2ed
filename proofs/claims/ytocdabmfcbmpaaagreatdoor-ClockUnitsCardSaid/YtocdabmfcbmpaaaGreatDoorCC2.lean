import Derived.Test.YtocdabmfcbmpaaaGreatDoorCC1
import Derived.Test.YtocdabmfcbmpaaaGreatDoorCB9
import Derived.Laws.EntriesVeiled
namespace Go.Proofs.YtocdabmfcbmpaaaGreatDoor
open Go.RowKit
set_option linter.unusedVariables false
set_option linter.unusedSimpArgs false

/-- what a world keeps of an earlier one but a map's block. -/
def Keep (m : Nat) (W W' : World) : Prop := W.heap.size ≤ W'.heap.size ∧ ∀ b, b < W.heap.size → b ≠ m → W'.heap[b]? = W.heap[b]?
theorem Keep.refl (m : Nat) (W : World) : Keep m W W := ⟨Nat.le_refl _, fun _ _ _ => rfl⟩
theorem Keep.trans {m : Nat} {A B C : World} (h : Keep m A B) (k : Keep m B C) : Keep m A C := ⟨Nat.le_trans h.1 k.1, fun b hb hm => (k.2 b (Nat.lt_of_lt_of_le hb h.1) hm).trans (h.2 b hb hm)⟩
theorem Below.keep {m : Nat} {W W' : World} (h : Below W.heap.size W W') : Keep m W W' := ⟨h.size, fun b hb _ => h.block b hb⟩
theorem Keep.cell {m : Nat} {W W' : World} (h : Keep m W W') {a : Addr} {v : Value} (hm : a.block ≠ m) (hc : W.cell? a = some v) : W'.cell? a = some v := by
  have hlt : a.block < W.heap.size := World.block_lt_of_cell? W a hc
  exact (World.cell?_of_block (h.2 a.block hlt hm)).trans hc
/-- a function that is entered when it is called. -/
def IsGo (k : FuncId) : Prop := ∀ (args : Array Value) (w : World), (callFunc k args).run Tryz.prog w = .ok (.enter k args) w
/-- a function of times. -/
def FnAt (m : Nat) (W : World) (f : Value) (g : Int → Int) : Prop :=
  ∃ (k : FuncId) (cap : Array Value), f = .func (.func k) #[] cap ∧ IsGo k ∧ ∀ W', Keep m W W' → ∀ t : Int, -62135596800 ≤ t → t ≤ 253402300799 → Calls Tryz.prog k (#[I t] ++ cap) W' fun e w'' => e = .returned (I (g t)) ∧ Below W'.heap.size W' w''
theorem FnAt.keep {m : Nat} {W W' : World} {f : Value} {g : Int → Int} (h : FnAt m W f g) (hk : Keep m W W') : FnAt m W' f g := by
  obtain ⟨k, cap, rfl, hg, h⟩ := h
  exact ⟨k, cap, rfl, hg, fun W2 h2 => h W2 (hk.trans h2)⟩
abbrev Fv (k : FuncId) (cap : Array Value) : Value := .func (.func k) #[] cap
abbrev Pt (b : Nat) : Value := .pointer (some ⟨b, 0, none⟩)
theorem part_any (k : FuncId) (cap : Array Value) (w : World) : Calls Tryz.prog 70 #[Fv k cap] w fun e w' => e = .returned (Fv 126 #[Pt w.heap.size]) ∧ w' = w.alloc (.cells #[Fv k cap] 105) := by
  go_enter Tryz.func70, Tryz.ntmps70
  go_wp2
  go_ret
  exact ⟨rfl, rfl⟩
theorem number_any' (n : Int) (k : FuncId) (cap : Array Value) (w : World) : Calls Tryz.prog 72 #[I n, Fv k cap] w fun e w' => e = .returned (.agg #[Fv 127 #[Pt (w.heap.size + 1), Pt w.heap.size], Fv 129 #[Pt w.heap.size]]) ∧ w' = ((w.alloc (.cells #[I n] 3)).alloc (.cells #[Fv k cap] 53)).alloc (.cells #[Fv 127 #[Pt (w.heap.size + 1), Pt w.heap.size], Fv 129 #[Pt w.heap.size]] 72) := by
  go_enter Tryz.func72, Tryz.ntmps72
  go_wp2
  exact bodyPost_ret (v := .agg #[Fv 127 #[Pt (w.heap.size + 1), Pt w.heap.size], Fv 129 #[Pt w.heap.size]]) (by simp [results, Tryz.results72, go_sem]) rfl ⟨rfl, rfl⟩
theorem named_any (ao : Option Addr) (n c : Nat) (k : FuncId) (cap : Array Value) (w : World) : Calls Tryz.prog 84 #[.slice ao n c, Fv k cap] w fun e w' => e = .returned (.agg #[Fv 131 #[Pt w.heap.size, Pt (w.heap.size + 1)], Fv 132 #[Pt w.heap.size]]) ∧ w' = ((w.alloc (.cells #[.slice ao n c] 31)).alloc (.cells #[Fv k cap] 53)).alloc (.cells #[Fv 131 #[Pt w.heap.size, Pt (w.heap.size + 1)], Fv 132 #[Pt w.heap.size]] 72) := by
  go_enter Tryz.func84, Tryz.ntmps84
  go_wp2
  exact bodyPost_ret (v := .agg #[Fv 131 #[Pt w.heap.size, Pt (w.heap.size + 1)], Fv 132 #[Pt w.heap.size]]) (by simp [results, Tryz.results84, go_sem]) rfl ⟨rfl, rfl⟩
/-- a function of a date's parts. -/
def PartAt (k : FuncId) (g : Int → Int → Int → Int → Int → Int → Int) : Prop :=
  ∀ (y m d h mi s : Int) (w : World), 0 ≤ y → y ≤ 10000 → 0 ≤ h → h ≤ 23 → Calls Tryz.prog k #[.agg #[I y, I m, I d, I h, I mi, I s]] w fun e w' => e = .returned (I (g y m d h mi s)) ∧ Below w.heap.size w w'
theorem isGo_of {k : FuncId} {fn : Func} (hf : Tryz.prog.funcs[k]? = some fn) (hn : (fn.name == "runtime.NumGoroutine") = false) (hb : fn.body.isNone = false) : IsGo k := fun args w => by
  have h1 : fn.name ≠ "runtime.NumGoroutine" := by simpa using hn
  have h2 : ¬ fn.body = none := by intro h; simp [h] at hb
  simp [callFunc, hf, h1, h2, go_sem]
theorem isGo47 : IsGo 67 := isGo_of Tryz.func67 (by kernel_rfl) (by kernel_rfl)
theorem isGo49 : IsGo 80 := isGo_of Tryz.func80 (by kernel_rfl) (by kernel_rfl)
theorem isGo67 : IsGo 71 := isGo_of Tryz.func71 (by kernel_rfl) (by kernel_rfl)
theorem isGo69 : IsGo 73 := isGo_of Tryz.func73 (by kernel_rfl) (by kernel_rfl)
theorem isGo70 : IsGo 74 := isGo_of Tryz.func74 (by kernel_rfl) (by kernel_rfl)
theorem isGo71 : IsGo 75 := isGo_of Tryz.func75 (by kernel_rfl) (by kernel_rfl)
theorem isGo72 : IsGo 76 := isGo_of Tryz.func76 (by kernel_rfl) (by kernel_rfl)
theorem isGo73 : IsGo 77 := isGo_of Tryz.func77 (by kernel_rfl) (by kernel_rfl)
theorem isGo74 : IsGo 78 := isGo_of Tryz.func78 (by kernel_rfl) (by kernel_rfl)
theorem isGo75 : IsGo 79 := isGo_of Tryz.func79 (by kernel_rfl) (by kernel_rfl)
theorem isGo76 : IsGo 81 := isGo_of Tryz.func81 (by kernel_rfl) (by kernel_rfl)
theorem isGo77 : IsGo 83 := isGo_of Tryz.func83 (by kernel_rfl) (by kernel_rfl)
theorem isGo79 : IsGo 85 := isGo_of Tryz.func85 (by kernel_rfl) (by kernel_rfl)
theorem isGo83 : IsGo 89 := isGo_of Tryz.func89 (by kernel_rfl) (by kernel_rfl)
theorem isGo86 : IsGo 92 := isGo_of Tryz.func92 (by kernel_rfl) (by kernel_rfl)
theorem isGo92 : IsGo 126 := isGo_of Tryz.func126 (by kernel_rfl) (by kernel_rfl)
theorem isGo93 : IsGo 127 := isGo_of Tryz.func127 (by kernel_rfl) (by kernel_rfl)
theorem isGo97 : IsGo 131 := isGo_of Tryz.func131 (by kernel_rfl) (by kernel_rfl)
theorem L1_any : PartAt 71 fun y m d h mi s => m := fun y m d h mi s w y0 y1 h0 h1 => by
  go_enter Tryz.func71, Tryz.ntmps71
  go_wp2
  go_ret
  exact ⟨rfl, (Below.refl _ _).alloc (Nat.le_refl _) _⟩
theorem L2_any : PartAt 73 fun y m d h mi s => y := fun y m d h mi s w y0 y1 h0 h1 => by
  go_enter Tryz.func73, Tryz.ntmps73
  go_wp2
  go_ret
  exact ⟨rfl, (Below.refl _ _).alloc (Nat.le_refl _) _⟩
theorem L3_any : PartAt 74 fun y m d h mi s => y % 100 := fun y m d h mi s w y0 y1 h0 h1 => by
  go_enter Tryz.func74, Tryz.ntmps74
  go_wp2
  go_ret
  exact ⟨rfl, (Below.refl _ _).alloc (Nat.le_refl _) _⟩
theorem L4_any : PartAt 75 fun y m d h mi s => d := fun y m d h mi s w y0 y1 h0 h1 => by
  go_enter Tryz.func75, Tryz.ntmps75
  go_wp2
  go_ret
  exact ⟨rfl, (Below.refl _ _).alloc (Nat.le_refl _) _⟩
theorem L5_any : PartAt 76 fun y m d h mi s => h := fun y m d h mi s w y0 y1 h0 h1 => by
  go_enter Tryz.func76, Tryz.ntmps76
  go_wp2
  go_ret
  exact ⟨rfl, (Below.refl _ _).alloc (Nat.le_refl _) _⟩
theorem L6_any : PartAt 77 fun y m d h mi s => mi := fun y m d h mi s w y0 y1 h0 h1 => by
  go_enter Tryz.func77, Tryz.ntmps77
  go_wp2
  go_ret
  exact ⟨rfl, (Below.refl _ _).alloc (Nat.le_refl _) _⟩
theorem L7_any : PartAt 78 fun y m d h mi s => s := fun y m d h mi s w y0 y1 h0 h1 => by
  go_enter Tryz.func78, Tryz.ntmps78
  go_wp2
  go_ret
  exact ⟨rfl, (Below.refl _ _).alloc (Nat.le_refl _) _⟩
theorem L8_any : PartAt 79 fun y m d h mi s => (h + 11) % 12 + 1 := fun y m d h mi s w y0 y1 h0 h1 => by
  go_enter Tryz.func79, Tryz.ntmps79
  go_wp2
  go_ret
  exact ⟨rfl, (Below.refl _ _).alloc (Nat.le_refl _) _⟩
theorem half_any : PartAt 85 fun y m d h mi s => h / 12 + 1 := fun y m d h mi s w y0 y1 h0 h1 => by
  go_enter Tryz.func85, Tryz.ntmps85
  go_wp2
  go_ret
  exact ⟨rfl, (Below.refl _ _).alloc (Nat.le_refl _) _⟩
theorem year_bd {t : Int} (h0 : -62135596800 ≤ t) (h1 : t ≤ 253402300799) : 1 ≤ dYI (t / 86400) ∧ dYI (t / 86400) ≤ 9999 := by
  have hD := dt_date (t / 86400)
  have hn := nu_date (t / 86400)
  have l := hD.lo
  have u := hD.hi
  constructor
  · refine Int.not_lt.1 fun h => ?_
    have := ys_mono (dYI (t / 86400) + 1) 1 (by omega)
    rw [ys_one] at this
    omega
  · refine Int.not_lt.1 fun h => ?_
    have := ys_mono 10000 (dYI (t / 86400)) (by omega)
    rw [show ysI 10000 = 3652059 by decide] at this
    omega
/-- a part of a time's date. -/
def partG (g : Int → Int → Int → Int → Int → Int → Int) (t : Int) : Int := g (dYI (t / 86400)) (dMI (t / 86400)) (dDI (t / 86400)) (t % 86400 / 3600) (t % 86400 / 60 % 60) (t % 86400 % 60)
set_option maxRecDepth 100000 in
set_option maxHeartbeats 1000000 in
theorem part1_any {k : FuncId} {g : Int → Int → Int → Int → Int → Int → Int} (hg : PartAt k g) (hk : IsGo k) (B : Nat) (w : World) (hc : w.cell? ⟨B, 0, none⟩ = some (Fv k #[])) (t : Int) (t0 : -62135596800 ≤ t) (t1 : t ≤ 253402300799) :
    Calls Tryz.prog 126 #[I t, Pt B] w fun e w' => e = .returned (I (partG g t)) ∧ Below w.heap.size w w' := by
  have hy := year_bd t0 t1
  have HD := Lib.hid (fun w => dateOf_any t w (by omega) (by omega))
  have HG := Lib.hid (fun w => hg (dYI (t / 86400)) (dMI (t / 86400)) (dDI (t / 86400)) (t % 86400 / 3600) (t % 86400 / 60 % 60) (t % 86400 % 60) w (by omega) (by omega) (by omega) (by omega))
  have HP : Hid (partG g t = g (dYI (t / 86400)) (dMI (t / 86400)) (dDI (t / 86400)) (t % 86400 / 3600) (t % 86400 / 60 % 60) (t % 86400 % 60)) := Lib.hid rfl
  generalize g (dYI (t / 86400)) (dMI (t / 86400)) (dDI (t / 86400)) (t % 86400 / 3600) (t % 86400 / 60 % 60) (t % 86400 % 60) = r at *
  have HC := Lib.hid hc
  clear hg hy
  unfold IsGo at hk
  go_enter Tryz.func126, Tryz.ntmps126
  go_wp2
  go_region_held3 (fun w' => w'.cell? ⟨B, 0, none⟩ = some (Fv k #[])) (first | exact HC.out | exact cell_after (undrew hb1) HC.out | exact cell_after hb2 (cell_after (undrew hb1) HC.out)) ((first | (go_at_call 53; (with_reducible refine (HD.out _).mono ?_); rintro e W1 ⟨rfl, hb1⟩) | ((with_reducible refine (HG.out _).mono ?_); rintro e W2 ⟨rfl, hb2⟩)))
  go_wp2
  go_ret
  exact ⟨ret_int HP.out.symm, (undrew hb1).trans (hb2.mono (by have := (undrew hb1).size; omega))⟩
theorem part_at {m : Nat} {W : World} {k : FuncId} {g : Int → Int → Int → Int → Int → Int → Int} {b : Nat} (hg : PartAt k g) (hk : IsGo k) (hb : b ≠ m) (hc : W.cell? ⟨b, 0, none⟩ = some (Fv k #[])) : FnAt m W (Fv 126 #[Pt b]) (partG g) :=
  ⟨126, _, rfl, isGo92, fun W' hK t t0 t1 => part1_any hg hk b W' (hK.cell hb hc) t t0 t1⟩
end Go.Proofs.YtocdabmfcbmpaaaGreatDoor
