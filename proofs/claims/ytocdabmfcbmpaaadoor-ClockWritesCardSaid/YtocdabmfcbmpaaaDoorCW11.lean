import Derived.Test.YtocdabmfcbmpaaaDoorCW10
import Derived.Lib.Strings
namespace Go.Proofs.YtocdabmfcbmpaaaDoor
open Go.RowKit
set_option linter.unusedVariables false
set_option linter.unusedSimpArgs false
/-! ### the reference: a form's text with its short forms spelled out -/
def txt (l : List (Nat × Nat)) : List UInt8 := l.flatMap fun p => if p.1 = 0 then (if p.2 = 37 then [37, 37] else [UInt8.ofNat p.2]) else [37, UInt8.ofNat p.1]
def txtS (l : List (Nat × Nat)) : ByteArray := ⟨(txt l).toArray⟩
theorem txt_app (l m : List (Nat × Nat)) : txt (l ++ m) = txt l ++ txt m := List.flatMap_append
theorem ba_ext {a b : ByteArray} (h : a.data.toList = b.data.toList) : a = b := by
  have h2 := Array.toList_inj.1 h
  cases a; cases b; exact congrArg _ h2
theorem txtS_app (l m : List (Nat × Nat)) (s : ByteArray) (h : s.data.toList = txt m) : txtS l ++ s = txtS (l ++ m) := by
  apply ba_ext
  simp [txtS, txt_app, h]
theorem data_drop (s : ByteArray) (k : Nat) (h : k < s.size) : s.data.toList.drop k = s[k] :: s.data.toList.drop (k + 1) := by
  rw [List.drop_eq_getElem_cons (by simpa using h)]
  congr 1
theorem one_at (s : ByteArray) (k : Nat) (h : k < s.size) : (s.extract k (k + 1)).data.toList = [s[k]] := by
  rw [Lib.extract_data, data_drop s k h, show k + 1 - k = 1 by omega]; rfl
theorem two_at (s : ByteArray) (k : Nat) (h : k + 1 < s.size) : (s.extract k (k + 1 + 1)).data.toList = [s[k], s[k + 1]] := by
  rw [Lib.extract_data, data_drop s k (by omega), data_drop s (k + 1) h, show k + 1 + 1 - k = 2 by omega]; rfl
theorem txtS_size (l : List (Nat × Nat)) : (txtS l).size = (txt l).length := by simp [txtS, ByteArray.size]
theorem txtS_len (l m : List (Nat × Nat)) : (txtS (l ++ m)).size = (txtS l).size + (txt m).length := by rw [txtS_size, txtS_size, txt_app, List.length_append]
theorem u8_of {b : UInt8} {c : Nat} (h : b.toNat = c) : b = UInt8.ofNat c := by rw [← h, UInt8.ofNat_toNat]
/-- what spread tells. -/
def SpP (s : ByteArray) (W : World) (e : Ending) (W' : World) : Prop :=
  (∀ l, pcs (bytesL s) = some l → e = .returned (.tuple #[.string (txtS l), .bool true])) ∧
  (pcs (bytesL s) = none → e = .returned (.tuple #[.string ⟨#[]⟩, .bool false])) ∧ Below W.heap.size W W'
structure SpI (s : ByteArray) (W wr : World) (k : Nat) (acc : List (Nat × Nat)) : Prop where
  eq : pcs (bytesL s) = (pcs ((bytesL s).drop k)).map fun l => acc ++ l
  bel : Below W.heap.size W wr
  len : (txtS acc).size ≤ 8 * k
set_option maxRecDepth 100000 in
set_option maxHeartbeats 4000000 in
theorem spread_any (s : ByteArray) (hs : s.size ≤ 100000) (W : World) (hT : Tab W) : Calls Tryd.prog 61 #[.string s] W (SpP s W) := by
  have HT := Lib.hid hT
  clear hT
  have HI : Hid (SpI s W W 0 []) := Lib.hid ⟨by simp, Below.refl _ _, Nat.zero_le _⟩
  go_enter Tryd.func61, Tryd.ntmps61
  go_wp2
  go_loopw [4, 5] (fun v i wr => ∃ (k : Nat) (acc : List (Nat × Nat)), v = .string (txtS acc) ∧ i = .int .i64 k ∧ k ≤ s.size ∧ Hid (SpI s W wr k acc)) (fun _ i _ => s.size - (intOf i).toNat)
  case atStart => exact ⟨0, [], rfl, rfl, Nat.zero_le _, HI⟩
  case round =>
    obtain ⟨k, acc, rfl, rfl, hk, hi⟩ := hrel
    by_cases hlt : k < s.size
    · have hsz := hi.out.len
      obtain ⟨c, hc⟩ : ∃ c, (s[k]).toNat = c := ⟨_, rfl⟩
      have HC := Lib.hid hc
      have hBw := hi.out.bel.size
      have HTw := Lib.hid (HT.out.after hi.out.bel)
      by_cases h37 : c = 37
      · subst h37
        by_cases hk1 : k + 1 < s.size
        · obtain ⟨d, hd⟩ : ∃ d, (s[k + 1]).toNat = d := ⟨_, rfl⟩
          have HE := Lib.hid (pcs_two hk1 hc hd hi.out.eq)
          have h2 := two_at s k hk1
          rw [u8_of hc, u8_of hd] at h2
          by_cases d68 : d = 68
          · subst d68
            have HE1 := Lib.hid (HE.out.1 inD (Or.inr (Or.inl ⟨rfl, rfl⟩)))
            have hx : txtS acc ++ ⟨#[37, 109, 47, 37, 100, 47, 37, 89]⟩ = txtS (acc ++ inD) := txtS_app _ _ _ rfl
            clear HE h2
            go_wp2
            go_roundw
            case rel => exact ⟨k + 1 + 1, acc ++ inD, rfl, by go_num, by omega, Lib.hid ⟨HE1.out, hi.out.bel, by rw [txtS_len]; show _ + 8 ≤ _; omega⟩⟩
            case measure => simp [intOf]; omega
          · have b68 : ((d : Int) == 68) = false := by rw [beq_eq_false_iff_ne]; omega
            by_cases d84 : d = 84
            · subst d84
              have HE1 := Lib.hid (HE.out.1 inT (Or.inr (Or.inr (Or.inl ⟨rfl, rfl⟩))))
              have hx : txtS acc ++ ⟨#[37, 72, 58, 37, 77, 58, 37, 83]⟩ = txtS (acc ++ inT) := txtS_app _ _ _ rfl
              clear HE h2 b68
              go_wp2
              go_roundw
              case rel => exact ⟨k + 1 + 1, acc ++ inT, rfl, by go_num, by omega, Lib.hid ⟨HE1.out, hi.out.bel, by rw [txtS_len]; show _ + 8 ≤ _; omega⟩⟩
              case measure => simp [intOf]; omega
            · have b84 : ((d : Int) == 84) = false := by rw [beq_eq_false_iff_ne]; omega
              have hor : (∃ q f, pcs (bytesL s) = ((pcs ((bytesL s).drop (k + 1 + 1))).map fun l => (acc ++ q) ++ l) ∧ txt q = [UInt8.ofNat 37, UInt8.ofNat d] ∧ ∀ w, Tab w → Calls Tryd.prog 62 #[I 0, .int .u8 d] w fun e w' => e = .returned (.tuple #[.string f, .bool true]) ∧ Below w.heap.size w w') ∨ (d ≠ 37 ∧ letL.lookup d = none) := by
                by_cases d37 : d = 37
                · exact Or.inl ⟨[(0, 37)], ⟨#[37]⟩, HE.out.1 _ (Or.inl ⟨d37, rfl⟩), by rw [d37]; rfl, fun w hw => by rw [d37]; exact lt_37 0 w (by decide) (by decide) hw⟩
                · cases hl : letL.lookup d with
                  | none => exact Or.inr ⟨d37, rfl⟩
                  | some x =>
                    have d0 : d ≠ 0 := fun h => by rw [h] at hl; exact Option.some_ne_none _ hl.symm
                    obtain ⟨f, hf, _⟩ := let_known (c := d) (by rw [hl]; rfl)
                    exact Or.inl ⟨[(d, 0)], f 0, HE.out.1 _ (Or.inr (Or.inr (Or.inr ⟨d37, d68, d84, by rw [hl]; rfl, rfl⟩))), by simp [txt, d0], fun w hw => letter_some hf 0 w (by decide) (by decide) hw⟩
              rcases hor with hq | ⟨d37, hlk⟩
              · obtain ⟨q, f, he, hq, hl⟩ := hq
                have HE1 := Lib.hid he
                have HL := Lib.hid hl
                have HQ := Lib.hid hq
                have hx : txtS acc ++ s.extract k (k + 1 + 1) = txtS (acc ++ q) := txtS_app _ _ _ (by rw [h2, hq])
                have hxz : (s.extract k (k + 1 + 1)).size = 2 := by rw [← ByteArray.size_data, ← Array.length_toList, h2]; rfl
                have s1 : ((k : Int)).toNat = k := by omega
                have s2 : ((k : Int) + 1 + 1).toNat = k + 1 + 1 := by omega
                have hsl : ∀ W : World, (Instr.slice 9 (Value.string s) (some (Value.int .i64 (k : Int))) (some (Value.int .i64 ((k : Int) + 1 + 1))) none).run Tryd.prog W = .ok (.string (s.extract k (k + 1 + 1))) W := fun W => by
                  rw [run_slice_string W 9 s .i64 .i64 _ _ Tryd.underlying9 (by omega) (by omega) (by omega), s1, s2]
                clear HE h2 he hl hq s1 s2
                go_wp2_with ((go_at_call 62; (with_reducible refine (HL.out _ HTw.out).mono ?_); rintro e W1 ⟨rfl, hb1⟩; have HB1 := Lib.hid hb1; clear hb1))
                go_roundw
                case rel => exact ⟨k + 1 + 1, acc ++ q, by first | rfl | (rw [← hx]; congr 2), by go_num, by omega, Lib.hid ⟨HE1.out, hi.out.bel.trans (HB1.out.mono hBw), by rw [txtS_len, HQ.out]; show _ + 2 ≤ _; omega⟩⟩
                case measure => simp [intOf]; omega
              · have HP : Hid (∀ w', Below wr.heap.size wr w' → SpP s W (.returned (.tuple #[.string ⟨#[]⟩, .bool false])) w') := Lib.hid (by
                  have hn := HE.out.2 d37 d68 d84 hlk
                  exact fun w' hb => ⟨fun l hl => (by rw [hn] at hl; cases hl), fun _ => rfl, hi.out.bel.trans (hb.mono hBw)⟩)
                have HL := Lib.hid (letter_none hlk d37 0 wr (by decide) (by decide) HTw.out)
                clear HE h2 hlk
                go_wp2_with ((go_at_call 62; (with_reducible refine HL.out.mono ?_); rintro e W1 ⟨rfl, hb1⟩; have HB1 := Lib.hid hb1; clear hb1))
                go_ret2
                exact HP.out _ HB1.out
        · have HP : Hid (SpP s W (.returned (.tuple #[.string ⟨#[]⟩, .bool false])) wr) := Lib.hid (by
            have hn := pcs_end hlt hc (by omega) hi.out.eq
            exact ⟨fun l hl => (by rw [hn] at hl; cases hl), fun _ => rfl, hi.out.bel⟩)
          have he : k + 1 = s.size := by omega
          have he2 : ((k : Int) + 1 == (s.size : Int)) = true := by rw [beq_iff_eq]; omega
          clear he
          go_wp2
          go_ret2
          exact HP.out
      · have hcb : ((c : Int) == 37) = false := by rw [beq_eq_false_iff_ne]; omega
        have HE := Lib.hid (pcs_plain hlt hc h37 hi.out.eq)
        have h1 := one_at s k hlt
        rw [u8_of hc] at h1
        have hx : txtS acc ++ s.extract k (k + 1) = txtS (acc ++ [(0, c)]) := txtS_app _ _ _ (by rw [h1]; simp [txt, h37])
        have hq1 : Hid (txt [(0, c)] = [UInt8.ofNat c]) := Lib.hid (by simp [txt, h37])
        have hxz : (s.extract k (k + 1)).size = 1 := by rw [← ByteArray.size_data, ← Array.length_toList, h1]; rfl
        have s1 : ((k : Int)).toNat = k := by omega
        have s2 : ((k : Int) + 1).toNat = k + 1 := by omega
        have hsl : ∀ W : World, (Instr.slice 9 (Value.string s) (some (Value.int .i64 (k : Int))) (some (Value.int .i64 ((k : Int) + 1))) none).run Tryd.prog W = .ok (.string (s.extract k (k + 1))) W := fun W => by
          rw [run_slice_string W 9 s .i64 .i64 _ _ Tryd.underlying9 (by omega) (by omega) (by omega), s1, s2]
        clear h1 s1 s2
        go_wp2
        go_roundw
        case rel => exact ⟨k + 1, acc ++ [(0, c)], by first | rfl | (rw [← hx]; congr 2), by go_num, by omega, Lib.hid ⟨HE.out, hi.out.bel, by rw [txtS_len, hq1.out]; show _ + 1 ≤ _; omega⟩⟩
        case measure => simp [intOf]; omega
    · obtain rfl : k = s.size := by omega
      have hE : pcs (bytesL s) = some acc := by
        rw [hi.out.eq, List.drop_of_length_le (by rw [bytesL_length]; exact Nat.le_refl _)]
        simp [pcs]
      have HP : Hid (SpP s W (.returned (.tuple #[.string (txtS acc), .bool true])) wr) := Lib.hid ⟨fun l hl => (by
        rw [hE] at hl; cases hl; rfl), fun hn => (by rw [hE] at hn; cases hn), hi.out.bel⟩
      clear hE
      go_wp2
      go_ret2
      exact HP.out
end Go.Proofs.YtocdabmfcbmpaaaDoor
