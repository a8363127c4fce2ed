import Derived.Test.YtocdabmfcbmpaaaGreatDoorUA1
import Derived.BigQuiet
import Derived.Deep.RegionWith
namespace Go.Proofs.YtocdabmfcbmpaaaGreatDoor
open Go.RowKit
set_option linter.unusedVariables false
set_option linter.unusedSimpArgs false

/-! ### the reference's units -/
def rlI (u : Nat) : Int := if u < 5 then lenI u else 0
def ruP (s : ByteArray) (w : World) (e : Ending) (w' : World) : Prop := (match unF s unitL 0 with | some u => e = .returned (.tuple #[I (rlI u), .bool true]) | none => e = .returned (.tuple #[I 0, .bool false])) ∧ w = w'
theorem ruP_some {s : ByteArray} {w : World} {u : Nat} {x : Int} (h : unF s unitL 0 = some u) (hx : rlI u = x) : ruP s w (.returned (.tuple #[I x, .bool true])) w := by unfold ruP; rw [h]; subst hx; exact ⟨rfl, rfl⟩
theorem ruP_none {s : ByteArray} {w : World} (h : unF s unitL 0 = none) : ruP s w (.returned (.tuple #[I 0, .bool false])) w := by unfold ruP; rw [h]; exact ⟨rfl, rfl⟩
theorem bytes_ne {a b : ByteArray} (h : ¬ a = b) : (a.toList == b.toList) = false := beq_eq_false_iff_ne.2 fun k => h (toList_inj k)
theorem un_0 : unF ⟨#[115, 101, 99, 111, 110, 100]⟩ unitL 0 = some 0 := by decide
theorem ru_0 (w : World) : Calls Tryz.prog 28 #[.string ⟨#[115, 101, 99, 111, 110, 100]⟩] w (ruP ⟨#[115, 101, 99, 111, 110, 100]⟩ w) := by
  have HP := Lib.hid (ruP_some (w := w) un_0 (show rlI 0 = 1 from rfl))
  go_enter Tryz.func28, Tryz.ntmps28
  go_wp2
  go_ret2
  exact HP.out
theorem un_1 : unF ⟨#[109, 105, 110, 117, 116, 101]⟩ unitL 0 = some 1 := by decide
theorem ru_1 (w : World) : Calls Tryz.prog 28 #[.string ⟨#[109, 105, 110, 117, 116, 101]⟩] w (ruP ⟨#[109, 105, 110, 117, 116, 101]⟩ w) := by
  have HP := Lib.hid (ruP_some (w := w) un_1 (show rlI 1 = 60 from rfl))
  go_enter Tryz.func28, Tryz.ntmps28
  go_wp2
  go_ret2
  exact HP.out
theorem un_2 : unF ⟨#[104, 111, 117, 114]⟩ unitL 0 = some 2 := by decide
theorem ru_2 (w : World) : Calls Tryz.prog 28 #[.string ⟨#[104, 111, 117, 114]⟩] w (ruP ⟨#[104, 111, 117, 114]⟩ w) := by
  have HP := Lib.hid (ruP_some (w := w) un_2 (show rlI 2 = 3600 from rfl))
  go_enter Tryz.func28, Tryz.ntmps28
  go_wp2
  go_ret2
  exact HP.out
theorem un_3 : unF ⟨#[100, 97, 121]⟩ unitL 0 = some 3 := by decide
theorem ru_3 (w : World) : Calls Tryz.prog 28 #[.string ⟨#[100, 97, 121]⟩] w (ruP ⟨#[100, 97, 121]⟩ w) := by
  have HP := Lib.hid (ruP_some (w := w) un_3 (show rlI 3 = 86400 from rfl))
  go_enter Tryz.func28, Tryz.ntmps28
  go_wp2
  go_ret2
  exact HP.out
theorem un_4 : unF ⟨#[119, 101, 101, 107]⟩ unitL 0 = some 4 := by decide
theorem ru_4 (w : World) : Calls Tryz.prog 28 #[.string ⟨#[119, 101, 101, 107]⟩] w (ruP ⟨#[119, 101, 101, 107]⟩ w) := by
  have HP := Lib.hid (ruP_some (w := w) un_4 (show rlI 4 = 604800 from rfl))
  go_enter Tryz.func28, Tryz.ntmps28
  go_wp2
  go_ret2
  exact HP.out
theorem un_5 : unF ⟨#[109, 111, 110, 116, 104]⟩ unitL 0 = some 5 := by decide
theorem ru_5 (w : World) : Calls Tryz.prog 28 #[.string ⟨#[109, 111, 110, 116, 104]⟩] w (ruP ⟨#[109, 111, 110, 116, 104]⟩ w) := by
  have HP := Lib.hid (ruP_some (w := w) un_5 (show rlI 5 = 0 from rfl))
  go_enter Tryz.func28, Tryz.ntmps28
  go_wp2
  go_ret2
  exact HP.out
theorem un_6 : unF ⟨#[121, 101, 97, 114]⟩ unitL 0 = some 6 := by decide
theorem ru_6 (w : World) : Calls Tryz.prog 28 #[.string ⟨#[121, 101, 97, 114]⟩] w (ruP ⟨#[121, 101, 97, 114]⟩ w) := by
  have HP := Lib.hid (ruP_some (w := w) un_6 (show rlI 6 = 0 from rfl))
  go_enter Tryz.func28, Tryz.ntmps28
  go_wp2
  go_ret2
  exact HP.out
theorem ru_any (s : ByteArray) (w : World) : Calls Tryz.prog 28 #[.string s] w (ruP s w) := by
  by_cases h0 : s = ⟨#[115, 101, 99, 111, 110, 100]⟩
  · subst h0; exact ru_0 w
  by_cases h1 : s = ⟨#[109, 105, 110, 117, 116, 101]⟩
  · subst h1; exact ru_1 w
  by_cases h2 : s = ⟨#[104, 111, 117, 114]⟩
  · subst h2; exact ru_2 w
  by_cases h3 : s = ⟨#[100, 97, 121]⟩
  · subst h3; exact ru_3 w
  by_cases h4 : s = ⟨#[119, 101, 101, 107]⟩
  · subst h4; exact ru_4 w
  by_cases h5 : s = ⟨#[109, 111, 110, 116, 104]⟩
  · subst h5; exact ru_5 w
  by_cases h6 : s = ⟨#[121, 101, 97, 114]⟩
  · subst h6; exact ru_6 w
  have hu : unF s unitL 0 = none := by
    simp only [unitL, unF]
    rw [if_neg (Ne.symm h0), if_neg (Ne.symm h1), if_neg (Ne.symm h2), if_neg (Ne.symm h3), if_neg (Ne.symm h4), if_neg (Ne.symm h5), if_neg (Ne.symm h6)]
  have HP := Lib.hid (ruP_none (w := w) hu)
  have c0 : (s.toList == [115, 101, 99, 111, 110, 100]) = false := by have := bytes_ne h0; rw [show ByteArray.toList ⟨#[115, 101, 99, 111, 110, 100]⟩ = [115, 101, 99, 111, 110, 100] from by simp [ByteArray.toList_eq]] at this; exact this
  have c1 : (s.toList == [109, 105, 110, 117, 116, 101]) = false := by have := bytes_ne h1; rw [show ByteArray.toList ⟨#[109, 105, 110, 117, 116, 101]⟩ = [109, 105, 110, 117, 116, 101] from by simp [ByteArray.toList_eq]] at this; exact this
  have c2 : (s.toList == [104, 111, 117, 114]) = false := by have := bytes_ne h2; rw [show ByteArray.toList ⟨#[104, 111, 117, 114]⟩ = [104, 111, 117, 114] from by simp [ByteArray.toList_eq]] at this; exact this
  have c3 : (s.toList == [100, 97, 121]) = false := by have := bytes_ne h3; rw [show ByteArray.toList ⟨#[100, 97, 121]⟩ = [100, 97, 121] from by simp [ByteArray.toList_eq]] at this; exact this
  have c4 : (s.toList == [119, 101, 101, 107]) = false := by have := bytes_ne h4; rw [show ByteArray.toList ⟨#[119, 101, 101, 107]⟩ = [119, 101, 101, 107] from by simp [ByteArray.toList_eq]] at this; exact this
  have c5 : (s.toList == [109, 111, 110, 116, 104]) = false := by have := bytes_ne h5; rw [show ByteArray.toList ⟨#[109, 111, 110, 116, 104]⟩ = [109, 111, 110, 116, 104] from by simp [ByteArray.toList_eq]] at this; exact this
  have c6 : (s.toList == [121, 101, 97, 114]) = false := by have := bytes_ne h6; rw [show ByteArray.toList ⟨#[121, 101, 97, 114]⟩ = [121, 101, 97, 114] from by simp [ByteArray.toList_eq]] at this; exact this
  clear hu
  go_enter Tryz.func28, Tryz.ntmps28
  go_wp2
  go_ret2
  exact HP.out
theorem ru_yes {s : ByteArray} {u : Nat} (h : unF s unitL 0 = some u) (w : World) : Calls Tryz.prog 28 #[.string s] w fun e w' => e = .returned (.tuple #[I (rlI u), .bool true]) ∧ w = w' :=
  (ru_any s w).mono fun e w' hp => by unfold ruP at hp; rw [h] at hp; exact hp
theorem ru_no {s : ByteArray} (h : unF s unitL 0 = none) (w : World) : Calls Tryz.prog 28 #[.string s] w fun e w' => e = .returned (.tuple #[I 0, .bool false]) ∧ w = w' :=
  (ru_any s w).mono fun e w' hp => by unfold ruP at hp; rw [h] at hp; exact hp
/-- a unit's number tells its name. -/
theorem un_name {s : ByteArray} {u : Nat} (h : unF s unitL 0 = some u) : unitL[u]? = some s := by
  simp only [unitL, unF] at h ⊢
  by_cases h0 : (⟨#[115, 101, 99, 111, 110, 100]⟩ : ByteArray) = s
  · rw [if_pos h0] at h; cases h; rw [← h0]; rfl
  rw [if_neg h0] at h
  by_cases h1 : (⟨#[109, 105, 110, 117, 116, 101]⟩ : ByteArray) = s
  · rw [if_pos h1] at h; cases h; rw [← h1]; rfl
  rw [if_neg h1] at h
  by_cases h2 : (⟨#[104, 111, 117, 114]⟩ : ByteArray) = s
  · rw [if_pos h2] at h; cases h; rw [← h2]; rfl
  rw [if_neg h2] at h
  by_cases h3 : (⟨#[100, 97, 121]⟩ : ByteArray) = s
  · rw [if_pos h3] at h; cases h; rw [← h3]; rfl
  rw [if_neg h3] at h
  by_cases h4 : (⟨#[119, 101, 101, 107]⟩ : ByteArray) = s
  · rw [if_pos h4] at h; cases h; rw [← h4]; rfl
  rw [if_neg h4] at h
  by_cases h5 : (⟨#[109, 111, 110, 116, 104]⟩ : ByteArray) = s
  · rw [if_pos h5] at h; cases h; rw [← h5]; rfl
  rw [if_neg h5] at h
  by_cases h6 : (⟨#[121, 101, 97, 114]⟩ : ByteArray) = s
  · rw [if_pos h6] at h; cases h; rw [← h6]; rfl
  rw [if_neg h6] at h
  cases h
theorem un_month {s : ByteArray} (h : unF s unitL 0 = some 5) : s = ⟨#[109, 111, 110, 116, 104]⟩ := (Option.some.inj (un_name h)).symm
theorem un_year {s : ByteArray} (h : unF s unitL 0 = some 6) : s = ⟨#[121, 101, 97, 114]⟩ := (Option.some.inj (un_name h)).symm
theorem un_short {s : ByteArray} {u : Nat} (h : unF s unitL 0 = some u) (hu : u < 5) : s ≠ ⟨#[109, 111, 110, 116, 104]⟩ ∧ s ≠ ⟨#[121, 101, 97, 114]⟩ := by
  constructor
  · rintro rfl; rw [un_5] at h; cases h; omega
  · rintro rfl; rw [un_6] at h; cases h; omega

/-! ### the program's beginnings -/
theorem starts1_any (u : Int) (w : World) : Calls Tryz.prog 64 #[I u] w fun e w' => e = .returned (Fv 65 #[Pt w.heap.size]) ∧ w' = w.alloc (.cells #[I u] 3) := by
  go_enter Tryz.func64, Tryz.ntmps64
  go_wp2
  exact bodyPost_ret (v := Fv 65 #[Pt w.heap.size]) (by simp [results, Tryz.results64, go_sem]) rfl ⟨rfl, rfl⟩
end Go.Proofs.YtocdabmfcbmpaaaGreatDoor
