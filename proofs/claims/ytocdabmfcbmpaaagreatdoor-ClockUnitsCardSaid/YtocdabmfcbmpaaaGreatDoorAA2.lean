import Derived.Test.YtocdabmfcbmpaaaGreatDoorAA1
namespace Go.Proofs.YtocdabmfcbmpaaaGreatDoor
open Go.RowKit
set_option linter.unusedVariables false
set_option linter.unusedSimpArgs false

theorem toList_inj {a b : ByteArray} (h : a.toList = b.toList) : a = b := by
  rw [ByteArray.toList_eq, ByteArray.toList_eq] at h
  exact ByteArray.ext (Array.ext' h)
def unitL : List ByteArray := [⟨#[115, 101, 99, 111, 110, 100]⟩, ⟨#[109, 105, 110, 117, 116, 101]⟩, ⟨#[104, 111, 117, 114]⟩, ⟨#[100, 97, 121]⟩, ⟨#[119, 101, 101, 107]⟩, ⟨#[109, 111, 110, 116, 104]⟩, ⟨#[121, 101, 97, 114]⟩]
def unF (s : ByteArray) : List ByteArray → Nat → Option Nat
  | [], _ => none
  | x :: l, k => if x = s then some k else unF s l (k + 1)
theorem unF_lt (s : ByteArray) : ∀ (l : List ByteArray) (k u : Nat), unF s l k = some u → u < k + l.length
  | [], k, u, h => by simp [unF] at h
  | x :: l, k, u, h => by
    unfold unF at h
    split at h
    · cases h; simp
    · have := unF_lt s l (k + 1) u h; simp; omega
def unP (s : ByteArray) (w : World) (e : Ending) (w' : World) : Prop := (match unF s unitL 0 with | some u => e = .returned (.tuple #[.int .i64 u, .bool true]) | none => e = .returned (.tuple #[I 0, .bool false])) ∧ Below w.heap.size w w'
set_option maxHeartbeats 1000000 in
theorem unitOf_any (s : ByteArray) (w : World) : Calls Tryz.prog 24 #[.string s] w (unP s w) := by
  obtain ⟨V, hV, v0, vb, vs⟩ := one_new w (.cells (strCells unitL) 9)
  have HV : Hid (V = w.alloc (Obj.cells #[Value.string ⟨#[115, 101, 99, 111, 110, 100]⟩, Value.string ⟨#[109, 105, 110, 117, 116, 101]⟩, Value.string ⟨#[104, 111, 117, 114]⟩, Value.string ⟨#[100, 97, 121]⟩, Value.string ⟨#[119, 101, 101, 107]⟩, Value.string ⟨#[109, 111, 110, 116, 104]⟩, Value.string ⟨#[121, 101, 97, 114]⟩] 9)) := Lib.hid hV
  have HB := Lib.hid vb
  have H0 := Lib.hid v0
  clear hV v0 vb
  go_enter Tryz.func24, Tryz.ntmps24
  go_wp2
  rw [← HV.out]
  go_loopw [8] (fun i wr => ∃ k : Nat, i = .int .i64 k ∧ k ≤ 7 ∧ wr = V ∧ Hid (unF s unitL 0 = unF s (unitL.drop k) k)) (fun i _ => 7 - (intOf i).toNat)
  case atStart => exact ⟨0, rfl, by omega, rfl, Lib.hid rfl⟩
  case round =>
    obtain ⟨k, rfl, hk, rfl, hu⟩ := hrel
    by_cases hlt : k < 7
    · have hc : wr.cell? ⟨w.heap.size, k, none⟩ = some (.string (unitL[k]'hlt)) := by
        refine (cell_of_row _ _ _ _ _ _ H0.out).trans ?_
        exact strCells_at (List.getElem?_eq_getElem hlt)
      have hd : unitL.drop k = unitL[k]'hlt :: unitL.drop (k + 1) := List.drop_eq_getElem_cons hlt
      have HU : Hid (unF s unitL 0 = if unitL[k]'hlt = s then some k else unF s (unitL.drop (k + 1)) (k + 1)) := Lib.hid (by rw [hu.out, hd]; rfl)
      clear hd
      generalize unitL[k]'hlt = x at *
      by_cases hx : x = s
      · subst hx
        have HP : Hid (unP x w (.returned (.tuple #[.int .i64 k, .bool true])) wr) := Lib.hid ⟨by rw [HU.out, if_pos rfl], HB.out⟩
        clear HU hu
        go_wp2
        go_ret2
        exact HP.out
      · have HU2 : Hid (unF s unitL 0 = unF s (unitL.drop (k + 1)) (k + 1)) := Lib.hid (by rw [HU.out, if_neg hx])
        have hx2 : (x.toList == s.toList) = false := beq_eq_false_iff_ne.2 fun h => hx (toList_inj h)
        clear HU hu
        go_wp2
        go_roundw
        case rel => exact ⟨k + 1, by go_num, by omega, trivial, HU2⟩
        case measure => simp [intOf]; omega
    · obtain rfl : k = 7 := by omega
      have HP : Hid (unP s w (.returned (.tuple #[I 0, .bool false])) wr) := Lib.hid ⟨by rw [hu.out]; rfl, HB.out⟩
      clear hu
      go_wp2
      go_ret2
      exact HP.out
end Go.Proofs.YtocdabmfcbmpaaaGreatDoor
