import Derived.Test.YtocdabmfcbmpaaaGreatDoorCD3
import Derived.Test.YtocdabmfcbmpaaaGreatDoorCE2
namespace Go.Proofs.YtocdabmfcbmpaaaGreatDoor
open Go.RowKit
set_option linter.unusedVariables false
set_option linter.unusedSimpArgs false

theorem dec_lt {u : Nat} (h : u < 10) : Lib.decDigits u = [UInt8.ofNat (48 + u)] := by rw [Lib.decDigits, dif_pos h]
theorem dec_ge {u : Nat} (h : ¬ u < 10) : Lib.decDigits u = Lib.decDigits (u / 10) ++ [UInt8.ofNat (48 + u % 10)] := by rw [Lib.decDigits, dif_neg h]
theorem itoa_2000 : Lib.itoa 2000 = [50, 48, 48, 48] := by
  show Lib.decDigits 2000 = _
  rw [dec_ge (by decide), dec_ge (by decide), dec_ge (by decide), dec_lt (by decide)]
  rfl
theorem itoa_29 : Lib.itoa 29 = [50, 57] := by
  show Lib.decDigits 29 = _
  rw [dec_ge (by decide), dec_lt (by decide)]
  rfl
theorem itoa_2 : Lib.itoa 2 = [50] := by
  show Lib.decDigits 2 = _
  rw [dec_lt (by decide)]
  rfl
theorem itoa_0 : Lib.itoa 0 = [48] := by
  show Lib.decDigits 0 = _
  rw [dec_lt (by decide)]
  rfl
def formC : ByteArray := ⟨#[37, 89, 45, 37, 109, 45, 37, 100, 84, 37, 84]⟩
def pcsC : List (Nat × Nat) := [(89, 0), (0, 45), (109, 0), (0, 45), (100, 0), (0, 84), (72, 0), (0, 58), (77, 0), (0, 58), (83, 0)]
theorem pcs_c : pcs (bytesL formC) = some pcsC := by decide
theorem pad_Y : padS (g69 951782400) 4 = ⟨#[50, 48, 48, 48]⟩ := by
  rw [show g69 951782400 = 2000 by decide]; unfold padS; rw [itoa_2000]; rfl
theorem pad_m : padS (g67 951782400) 2 = ⟨#[48, 50]⟩ := by
  rw [show g67 951782400 = 2 by decide]; unfold padS; rw [itoa_2]; rfl
theorem pad_d : padS (g71 951782400) 2 = ⟨#[50, 57]⟩ := by
  rw [show g71 951782400 = 29 by decide]; unfold padS; rw [itoa_29]; rfl
theorem pad_H : padS (g72 951782400) 2 = ⟨#[48, 48]⟩ := by
  rw [show g72 951782400 = 0 by decide]; unfold padS; rw [itoa_0]; rfl
theorem pad_M : padS (g73 951782400) 2 = ⟨#[48, 48]⟩ := by
  rw [show g73 951782400 = 0 by decide]; unfold padS; rw [itoa_0]; rfl
theorem pad_S : padS (g74 951782400) 2 = ⟨#[48, 48]⟩ := by
  rw [show g74 951782400 = 0 by decide]; unfold padS; rw [itoa_0]; rfl
theorem known_c : Known 951782400 pcsC := by
  intro p hp
  simp only [pcsC, List.mem_cons, List.not_mem_nil, or_false] at hp
  rcases hp with rfl | rfl | rfl | rfl | rfl | rfl | rfl | rfl | rfl | rfl | rfl
  · exact ⟨by decide, Or.inr ⟨_, rfl, by rw [pad_Y]; decide⟩⟩
  · exact ⟨by decide, Or.inl rfl⟩
  · exact ⟨by decide, Or.inr ⟨_, rfl, by rw [pad_m]; decide⟩⟩
  · exact ⟨by decide, Or.inl rfl⟩
  · exact ⟨by decide, Or.inr ⟨_, rfl, by rw [pad_d]; decide⟩⟩
  · exact ⟨by decide, Or.inl rfl⟩
  · exact ⟨by decide, Or.inr ⟨_, rfl, by rw [pad_H]; decide⟩⟩
  · exact ⟨by decide, Or.inl rfl⟩
  · exact ⟨by decide, Or.inr ⟨_, rfl, by rw [pad_M]; decide⟩⟩
  · exact ⟨by decide, Or.inl rfl⟩
  · exact ⟨by decide, Or.inr ⟨_, rfl, by rw [pad_S]; decide⟩⟩
theorem piece_let {t : Int} {c : Nat} {f : Int → ByteArray} (h0 : c ≠ 0) (h : letL.lookup c = some (some f)) : pieceB t (c, 0) = (f t).data.toList := by
  unfold pieceB; rw [if_neg h0, h]
theorem out_c : (⟨(outL 951782400 pcsC).toArray⟩ : ByteArray) = ⟨#[50, 48, 48, 48, 45, 48, 50, 45, 50, 57, 84, 48, 48, 58, 48, 48, 58, 48, 48]⟩ := by
  unfold outL pcsC
  simp only [List.flatMap_cons, List.flatMap_nil]
  rw [piece_let (c := 89) (by decide) rfl, piece_let (c := 109) (by decide) rfl, piece_let (c := 100) (by decide) rfl, piece_let (c := 72) (by decide) rfl, piece_let (c := 77) (by decide) rfl, piece_let (c := 83) (by decide) rfl]
  rw [pad_Y, pad_m, pad_d, pad_H, pad_M, pad_S]
  rfl
theorem write_c (w : World) (hT : Tab w) : Calls Tryz.prog 19 #[I 951782400, .string ⟨#[37, 89, 45, 37, 109, 45, 37, 100, 84, 37, 84]⟩] w fun e w' => e = .returned (.tuple #[.string ⟨#[50, 48, 48, 48, 45, 48, 50, 45, 50, 57, 84, 48, 48, 58, 48, 48, 58, 48, 48]⟩, E 0]) ∧ Below w.heap.size w w' := by
  have h := Write_ok (t := 951782400) (by decide) formC (by decide) pcsC pcs_c known_c w hT
  rw [out_c] at h
  exact h
theorem easter_c (w : World) : Calls Tryz.prog 22 #[I 2000] w fun e w' => e = .returned (.tuple #[I 956448000, E 0]) ∧ Below w.heap.size w w' := by
  have h := Easter_ok (y := 2000) (by decide) w
  rw [show tmI 2000 (eaP 2000 / 31) (eaP 2000 % 31 + 1) 0 0 0 = 956448000 by decide] at h
  exact h
theorem date_c (w : World) : Calls Tryz.prog 23 #[I 956448000] w fun e w' => e = .returned (.tuple #[.agg #[I 2000, I 4, I 23, I 0, I 0, I 0], E 0]) ∧ Below w.heap.size w w' := by
  have h := Date_ok (t := 956448000) (by decide) w
  rw [show dateV 956448000 = .agg #[I 2000, I 4, I 23, I 0, I 0, I 0] by
    unfold dateV
    rw [show dYI (956448000 / 86400) = 2000 by decide, show dMI (956448000 / 86400) = 4 by decide, show dDI (956448000 / 86400) = 23 by decide]
    rfl] at h
  exact h
set_option maxRecDepth 100000 in
set_option maxHeartbeats 1000000 in
theorem awake_any (w : World) (hT : Tab w) : Calls Tryz.prog 7 #[] w fun e w' => e = .returned (.bool true) ∧ Below w.heap.size w w' := by
  have HW := Lib.hid (write_c w hT)
  have HQ : ∀ W : World, (binOp .eql 41 (.agg #[I 2000, I 4, I 23, I 0, I 0, I 0]) (.agg #[I 2000, I 4, I 23, I 0, I 0, I 0])).run Tryz.prog W = .ok (.bool true) W := fun W => by
    rw [eql_date]; rfl
  clear hT
  go_enter Tryz.func7, Tryz.ntmps7
  go_wp2_with (first | (go_at_call 19; (with_reducible refine HW.out.mono ?_); rintro e W1 ⟨rfl, hb1⟩; have HB1 := Lib.hid hb1; clear hb1) | (go_at_call 22; (with_reducible refine (easter_c _).mono ?_); rintro e W2 ⟨rfl, hb2⟩; have HB2 := Lib.hid hb2; clear hb2) | (go_at_call 23; (with_reducible refine (date_c _).mono ?_); rintro e W3 ⟨rfl, hb3⟩; have HB3 := Lib.hid hb3; clear hb3))
  go_ret
  have k1 := HB1.out
  have k2 := k1.trans (HB2.out.mono k1.size)
  have k3 := k2.trans (HB3.out.mono k2.size)
  exact ⟨rfl, k3.alloc k3.size _⟩
end Go.Proofs.YtocdabmfcbmpaaaGreatDoor
