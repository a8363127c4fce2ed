import Derived.Test.YtocdabmfcbmpaaaGreatDoorCC3
namespace Go.Proofs.YtocdabmfcbmpaaaGreatDoor
open Go.RowKit
set_option linter.unusedVariables false
set_option linter.unusedSimpArgs false

/-- a letter that writes a time. -/
def LetAt (m : Nat) (W : World) (v : Value) (wr : Int → ByteArray) : Prop :=
  ∃ (k : FuncId) (cap : Array Value) (g : Value), v = .agg #[Fv k cap, g] ∧ IsGo k ∧ ∀ W', Keep m W W' → Tab W' → ∀ t : Int, -62135596800 ≤ t → t ≤ 253402300799 → Calls Tryz.prog k (#[I t] ++ cap) W' fun e w'' => e = .returned (.string (wr t)) ∧ Below W'.heap.size W' w''
theorem LetAt.keep {m : Nat} {W W' : World} {v : Value} {wr : Int → ByteArray} (h : LetAt m W v wr) (hk : Keep m W W') : LetAt m W' v wr := by
  obtain ⟨k, cap, g, rfl, hg, h⟩ := h
  exact ⟨k, cap, g, rfl, hg, fun W2 h2 => h W2 (hk.trans h2)⟩
set_option maxRecDepth 100000 in
set_option maxHeartbeats 1000000 in
theorem number1_any {k : FuncId} {cap : Array Value} (hk : IsGo k) (b0 b1 wd : Nat) (hwd : wd ≤ 10) (w : World) (r t : Int) (hr : -9223372036854775808 ≤ r ∧ r ≤ 9223372036854775807)
    (hf : ∀ W', Below w.heap.size w W' → Calls Tryz.prog k (#[I t] ++ cap) W' fun e w'' => e = .returned (I r) ∧ Below W'.heap.size W' w'')
    (h0 : w.cell? ⟨b0, 0, none⟩ = some (.int .i64 wd)) (h1 : w.cell? ⟨b1, 0, none⟩ = some (Fv k cap)) (ht : Tab w) :
    Calls Tryz.prog 127 #[I t, Pt b1, Pt b0] w fun e w' => e = .returned (.string (padS r wd)) ∧ Below w.heap.size w w' := by
  have HF := Lib.hid hf
  have H := Lib.hid (And.intro h0 h1)
  have HT := Lib.hid ht
  have HPd := Lib.hid (fun w hw => padded_any r wd hwd hr.1 hr.2 w hw)
  unfold IsGo at hk
  clear hf h0 h1 ht
  go_enter Tryz.func127, Tryz.ntmps127
  go_wp2
  go_region_held3 (fun w' => w'.cell? ⟨b0, 0, none⟩ = some (.int .i64 wd) ∧ w'.cell? ⟨b1, 0, none⟩ = some (Fv k cap)) (first | exact H.out | exact ⟨cell_after (undrew hb1) H.out.1, cell_after (undrew hb1) H.out.2⟩ | exact ⟨cell_after hb2 (cell_after (undrew hb1) H.out.1), cell_after hb2 (cell_after (undrew hb1) H.out.2)⟩) ((first | (go_at_call 128; (with_reducible refine (HPd.out _ (HT.out.after (undrew hb1))).mono ?_); rintro e W2 ⟨rfl, hb2⟩) | ((with_reducible refine (HF.out _ ((Below.refl _ _).drew)).mono ?_); rintro e W1 ⟨rfl, hb1⟩)))
  go_wp2
  go_ret
  exact ⟨rfl, (undrew hb1).trans (hb2.mono (undrew hb1).size)⟩
theorem number_at {m : Nat} {W : World} {f : Value} {g : Int → Int} {b0 b1 wd : Nat} {v : Value} (hf : FnAt m W f g) (hg : ∀ t : Int, -62135596800 ≤ t → t ≤ 253402300799 → -9223372036854775808 ≤ g t ∧ g t ≤ 9223372036854775807) (hwd : wd ≤ 10) (h0 : W.cell? ⟨b0, 0, none⟩ = some (.int .i64 wd)) (h1 : W.cell? ⟨b1, 0, none⟩ = some f) (hb : b0 ≠ m ∧ b1 ≠ m) :
    LetAt m W (.agg #[Fv 127 #[Pt b1, Pt b0], v]) fun t => padS (g t) wd := by
  obtain ⟨k, cap, rfl, hk, h⟩ := hf
  exact ⟨127, _, _, rfl, isGo93, fun W' hK hT t t0 t1 => number1_any hk b0 b1 wd hwd W' (g t) t (hg t t0 t1) (fun W2 hb2 => h W2 (hK.trans (Below.keep hb2)) t t0 t1) (hK.cell hb.1 h0) (hK.cell hb.2 h1) hT⟩
end Go.Proofs.YtocdabmfcbmpaaaGreatDoor
