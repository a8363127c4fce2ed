import Derived.Test.YtkpoegdcmnjedaaDoorMG2
import Derived.Deep.Cut
import Derived.Deep.CutBlock
import Derived.Deep.CutRange
import Derived.BigQuiet
namespace Go.Proofs.YtkpoegdcmnjedaaDoor
open Go.RowKit
set_option linter.unusedVariables false
set_option linter.unusedSimpArgs false

theorem list_size (s : ByteArray) : s.toList.length = s.size := by rw [ByteArray.toList_eq, Array.length_toList]; rfl
theorem list_empty {s : ByteArray} (h : s.size = 0) : s.toList = [] := List.length_eq_zero_iff.1 ((list_size s).trans h)
theorem list_full {s : ByteArray} (h : ¬ s.size = 0) : s.toList.isEmpty = false := by
  have hl := list_size s
  cases hq : s.toList with
  | nil => rw [hq] at hl; simp at hl; omega
  | cons a l => rfl
theorem list_full2 {s : ByteArray} (h : ¬ s.size = 0) : ¬ s.toList = [] := by
  intro e; have := list_full h; rw [e] at this; cases this
/-- the white bytes at the beginning cut off. -/
def cutL (s : ByteArray) : ByteArray := if h : 0 < s.size ∧ whB (byteN s 0) = true then cutL (s.extract 1 s.size) else s
termination_by s.size
decreasing_by rw [ByteArray.size_extract]; omega
/-- the white bytes at the end cut off. -/
def cutR (s : ByteArray) : ByteArray := if h : 0 < s.size ∧ whB (byteN s (s.size - 1)) = true then cutR (s.extract 0 (s.size - 1)) else s
termination_by s.size
decreasing_by rw [ByteArray.size_extract]; omega
theorem cutL_yes {s : ByteArray} (h : 0 < s.size) (hw : whB (byteN s 0) = true) : cutL (s.extract 1 s.size) = cutL s := by
  conv => rhs; rw [cutL]
  rw [dif_pos ⟨h, hw⟩]
theorem cutL_no {s : ByteArray} (h : s.size = 0 ∨ whB (byteN s 0) = false) : cutL s = s := by
  rw [cutL, dif_neg]
  rintro ⟨h1, h2⟩
  rcases h with h | h
  · omega
  · rw [h] at h2; cases h2
theorem cutR_yes {s : ByteArray} (h : 0 < s.size) (hw : whB (byteN s (s.size - 1)) = true) : cutR (s.extract 0 (s.size - 1)) = cutR s := by
  conv => rhs; rw [cutR]
  rw [dif_pos ⟨h, hw⟩]
theorem cutR_no {s : ByteArray} (h : s.size = 0 ∨ whB (byteN s (s.size - 1)) = false) : cutR s = s := by
  rw [cutR, dif_neg]
  rintro ⟨h1, h2⟩
  rcases h with h | h
  · omega
  · rw [h] at h2; cases h2
/-- what digits tells, in one row. -/
def DigQ (base : Nat) (s : ByteArray) (W : World) (e : Ending) (W' : World) : Prop :=
  ∃ ao n cap lg od, ∃ er : Int, e = .returned (.tuple #[numV false (.slice ao n cap) lg od, .int .i64 er]) ∧
    ((AllD base s ∧ lg = decide (Lim ≤ rd base s s.size) ∧ od = decide (rd base s s.size % 2 = 1) ∧ er = 0 ∧ (rd base s s.size < Lim → M W.heap.size W' (.slice ao n cap) (digs B32 (rd base s s.size))))
     ∨ (¬ AllD base s ∧ ao = none ∧ n = 0 ∧ cap = 0 ∧ lg = false ∧ od = false ∧ er = 2)) ∧ Below W.heap.size W W'
theorem digits_q (s : ByteArray) (base : Nat) (W : World) (hb2 : 2 ≤ base) (hb36 : base ≤ 36) (hs : s.size ≤ 1000000) :
    Calls Tryd.prog 106 #[.string s, .int .i64 base] W (DigQ base s W) := by
  refine (digits_any s base W hb2 hb36 hs).mono ?_
  rintro e w ⟨h1, h2, hb⟩
  by_cases h : AllD base s
  · obtain ⟨ao, n, cap, he, hm⟩ := h1 h
    exact ⟨ao, n, cap, _, _, 0, he, Or.inl ⟨h, rfl, rfl, rfl, hm⟩, hb⟩
  · exact ⟨none, 0, 0, false, false, 2, h2 h, Or.inr ⟨h, rfl, rfl, rfl, rfl, rfl, rfl⟩, hb⟩
def pneg (t : ByteArray) : Bool := decide (0 < t.size) && decide (byteN t 0 = 45)
def pbody (t : ByteArray) : ByteArray := if 0 < t.size ∧ (byteN t 0 = 45 ∨ byteN t 0 = 43) then t.extract 1 t.size else t
def pbase (u : ByteArray) : Nat := if 2 ≤ u.size ∧ byteN u 0 = 48 then (if byteN u 1 = 120 then 16 else if byteN u 1 = 111 then 8 else if byteN u 1 = 98 then 2 else 10) else 10
def pdig (u : ByteArray) : ByteArray := if pbase u = 10 then u else u.extract 2 u.size

def ptext (s : ByteArray) : ByteArray := cutR (cutL s)
def pbs (s : ByteArray) : Nat := pbase (pbody (ptext s))
def pds (s : ByteArray) : ByteArray := pdig (pbody (ptext s))
/-- what parse tells. -/
def ParQ (s : ByteArray) (W : World) (e : Ending) (W' : World) : Prop :=
  ∃ ao n cap lg od, ∃ er : Int, e = .returned (.tuple #[numV (pneg (ptext s) && (lg || decide (0 < n))) (.slice ao n cap) lg od, .int .i64 er]) ∧
    ((AllD (pbs s) (pds s) ∧ lg = decide (Lim ≤ rd (pbs s) (pds s) (pds s).size) ∧ od = decide (rd (pbs s) (pds s) (pds s).size % 2 = 1) ∧ er = 0 ∧ (rd (pbs s) (pds s) (pds s).size < Lim → M W.heap.size W' (.slice ao n cap) (digs B32 (rd (pbs s) (pds s) (pds s).size))))
     ∨ (¬ AllD (pbs s) (pds s) ∧ ao = none ∧ n = 0 ∧ cap = 0 ∧ lg = false ∧ od = false ∧ er = 2)) ∧ Below W.heap.size W W'

set_option maxRecDepth 100000 in
set_option maxHeartbeats 4000000 in
theorem parse_any (s : ByteArray) (W : World) (hs : s.size ≤ 1000000) :
    Calls Tryd.prog 62 #[.string s] W (ParQ s W) := by
  obtain ⟨V, hV, hbox, vb, vs⟩ := box_new W (.bool false) (.slice none 0 0) (.bool false) (.bool false)
  have HW : ∀ (c : Nat), c ≤ 255 → ∀ w, Calls Tryd.prog 110 #[.int .u8 (c : Nat)] w fun e w' => e = .returned (.bool (whB c)) ∧ w = w' := fun c hc w => white_any c w hc
  have HWH := Lib.hid HW
  have HBX := Lib.hid hbox
  have HVB := Lib.hid vb
  clear HW hbox vb
  go_enter Tryd.func62, Tryd.ntmps62
  go_upto_block 0 with (fail)
  rw [← hV]
  clear hV
  go_cut [0] from 8 to 14 (fun sv wx => ∃ t : ByteArray, sv = .string t ∧ t.size ≤ s.size ∧ Hid (t = cutL s) ∧ wx = V)
  case first =>
    go_wp2
    go_loopw [0] (fun sv wr => ∃ (t : ByteArray), sv = .string t ∧ t.size ≤ s.size ∧ Hid (cutL t = cutL s) ∧ wr = V) (fun sv _ => match sv with | .string t => t.size | _ => 0)
    case atStart => exact ⟨s, rfl, Nat.le_refl _, Lib.hid rfl, rfl⟩
    case round =>
      obtain ⟨t, rfl, hlt, hct, rfl⟩ := hrel
      by_cases h0 : t.size = 0
      · have he3 : t.toList = [] := list_empty h0
        have he2 : t.toList.isEmpty = true := by rw [he3]; rfl
        have hct2 : Hid (t = cutL s) := Lib.hid ((cutL_no (Or.inl h0)).symm.trans hct.out)
        go_wp2_with fail
        go_meet
        exact ⟨t, rfl, hlt, hct2, rfl⟩
      · have hne : t.toList.isEmpty = false := list_full h0
        have hne2 : ¬ t.toList = [] := list_full2 h0
        have hbt := byte_at t (i := 0) (by omega)
        obtain ⟨wb, HWB⟩ : ∃ b, Hid (whB (byteN t 0) = b) := ⟨_, Lib.hid rfl⟩
        have HC : Hid (∀ w, Calls Tryd.prog 110 #[.int .u8 (byteN t 0 : Nat)] w fun e w' => e = .returned (.bool wb) ∧ w = w') := Lib.hid (by rw [← HWB.out]; exact HWH.out _ (byteN_le t 0))
        cases wb
        · have hct2 : Hid (t = cutL s) := Lib.hid ((cutL_no (Or.inr HWB.out)).symm.trans hct.out)
          go_wp2_with (go_at_call 110; refine (HC.out _).mono ?_; rintro e w' ⟨rfl, rfl⟩)
          go_meet
          exact ⟨t, rfl, hlt, hct2, rfl⟩
        · have hct2 : Hid (cutL (t.extract 1 t.size) = cutL s) := Lib.hid ((cutL_yes (by omega) HWB.out).trans hct.out)
          go_wp2_with (go_at_call 110; refine (HC.out _).mono ?_; rintro e w' ⟨rfl, rfl⟩)
          exact ⟨⟨_, rfl, by rw [ByteArray.size_extract]; omega, hct2, trivial⟩, by simp [ByteArray.size_extract]; omega⟩
  case rest =>
    obtain ⟨t1, rfl, ht1, HT1, rfl⟩ := hcut
    go_upto_block 2 with (fail)
    go_cut [0] from 17 to 26 (fun sv wx => ∃ t : ByteArray, sv = .string t ∧ t.size ≤ s.size ∧ Hid (t = cutR (cutL s)) ∧ wx = wc)
    case first =>
      go_wp2
      go_loopw [0] (fun sv wr => ∃ (t : ByteArray), sv = .string t ∧ t.size ≤ s.size ∧ Hid (cutR t = cutR (cutL s)) ∧ wr = wc) (fun sv _ => match sv with | .string t => t.size | _ => 0)
      case atStart => exact ⟨t1, rfl, ht1, Lib.hid (by rw [HT1.out]), rfl⟩
      case round =>
        obtain ⟨t, rfl, hlt, hct, rfl⟩ := hrel
        by_cases h0 : t.size = 0
        · have he3 : t.toList = [] := list_empty h0
          have he2 : t.toList.isEmpty = true := by rw [he3]; rfl
          have hct2 : Hid (t = cutR (cutL s)) := Lib.hid ((cutR_no (Or.inl h0)).symm.trans hct.out)
          go_wp2_with fail
          go_meet
          exact ⟨t, rfl, hlt, hct2, rfl⟩
        · have hne : t.toList.isEmpty = false := list_full h0
          have hne2 : ¬ t.toList = [] := list_full2 h0
          have hbt := byte_at t (i := t.size - 1) (by omega)
          have hi1 : ((t.size : Int) - 1).toNat = t.size - 1 := by omega
          have hi2 : (t.size : Int) - 1 = ((t.size - 1 : Nat) : Int) := by omega
          obtain ⟨wb, HWB⟩ : ∃ b, Hid (whB (byteN t (t.size - 1)) = b) := ⟨_, Lib.hid rfl⟩
          have HC : Hid (∀ w, Calls Tryd.prog 110 #[.int .u8 (byteN t (t.size - 1) : Nat)] w fun e w' => e = .returned (.bool wb) ∧ w = w') := Lib.hid (by rw [← HWB.out]; exact HWH.out _ (byteN_le t _))
          cases wb
          · have hct2 : Hid (t = cutR (cutL s)) := Lib.hid ((cutR_no (Or.inr HWB.out)).symm.trans hct.out)
            go_wp2_with (go_at_call 110; refine (HC.out _).mono ?_; rintro e w' ⟨rfl, rfl⟩)
            go_meet
            exact ⟨t, rfl, hlt, hct2, rfl⟩
          · have hct2 : Hid (cutR (t.extract 0 (t.size - 1)) = cutR (cutL s)) := Lib.hid ((cutR_yes (by omega) HWB.out).trans hct.out)
            go_wp2_with (go_at_call 110; refine (HC.out _).mono ?_; rintro e w' ⟨rfl, rfl⟩)
            exact ⟨⟨_, rfl, by rw [ByteArray.size_extract]; omega, hct2, trivial⟩, by simp [ByteArray.size_extract]; omega⟩
    case rest =>
      obtain ⟨t, rfl, ht, HT, rfl⟩ := hcut
      obtain ⟨c, HCB⟩ : ∃ c, Hid (byteN t 0 = c) := ⟨_, Lib.hid rfl⟩
      have hc255 : c ≤ 255 := by rw [← HCB.out]; exact byteN_le t 0
      obtain ⟨sg, HSG⟩ : ∃ b, Hid (decide (0 < t.size ∧ (c = 45 ∨ c = 43)) = b) := ⟨_, Lib.hid rfl⟩
      obtain ⟨mn, HMN⟩ : ∃ b, Hid (pneg t = b) := ⟨_, Lib.hid rfl⟩
      obtain ⟨u, HU⟩ : ∃ b, Hid (pbody t = b) := ⟨_, Lib.hid rfl⟩
      go_upto_region 6 with (fail)
      go_cut [43] from 32 to 43 (fun bv wx => bv = .bool sg ∧ wx = wc)
      case first =>
        by_cases h0 : t.size = 0
        · have he3 : t.toList = [] := list_empty h0
          have he2 : t.toList.isEmpty = true := by rw [he3]; rfl
          have hsg : Hid (false = sg) := Lib.hid (by rw [← HSG.out]; symm; rw [decide_eq_false_iff_not]; omega)
          go_wp2
          go_meet
          exact ⟨congrArg Value.bool hsg.out, rfl⟩
        · have hne : t.toList.isEmpty = false := list_full h0
          have hne2 : ¬ t.toList = [] := list_full2 h0
          have hbt := byte_at t (i := 0) (by omega)
          rw [HCB.out] at hbt
          by_cases h45 : c = 45
          · have hsg : Hid (true = sg) := Lib.hid (by rw [← HSG.out]; symm; rw [decide_eq_true_eq]; omega)
            subst h45
            go_wp2
            go_meet
            exact ⟨congrArg Value.bool hsg.out, rfl⟩
          · by_cases h43 : c = 43
            · have hsg : Hid (true = sg) := Lib.hid (by rw [← HSG.out]; symm; rw [decide_eq_true_eq]; omega)
              subst h43
              go_wp2
              go_meet
              exact ⟨congrArg Value.bool hsg.out, rfl⟩
            · have hsg : Hid ((((c : Int) == 45) || ((c : Int) == 43)) = sg) := Lib.hid (by
                have n1 : ¬ (c : Int) = 45 := by omega
                have n2 : ¬ (c : Int) = 43 := by omega
                have e : decide (0 < t.size ∧ (c = 45 ∨ c = 43)) = false := by rw [decide_eq_false_iff_not]; omega
                rw [← HSG.out, e]; simp [n1, n2])
              go_wp2
              go_meet
              exact ⟨congrArg Value.bool hsg.out, rfl⟩
      case rest =>
        obtain ⟨rfl, rfl⟩ := hcut
        go_upto_if 43 with (fail)
        go_cut [0, 4] from 44 to 48 (fun sv mv wx => sv = .string u ∧ mv = .bool mn ∧ Hid (Below wc.heap.size wc wx ∧ wx.heap.size = wc.heap.size))
        case first =>
          cases sg
          · have h1 : Hid (t = u) := Lib.hid <| by
              rw [← HU.out]; unfold pbody; rw [HCB.out, if_neg (of_decide_eq_false HSG.out)]
            have h2 : Hid (false = mn) := Lib.hid <| by
              rw [← HMN.out]; unfold pneg; rw [HCB.out]
              have := of_decide_eq_false HSG.out
              by_cases hz : 0 < t.size
              · have : ¬ c = 45 := by omega
                simp [this]
              · simp [hz]
            go_wp2
            go_meet
            exact ⟨congrArg Value.string h1.out, congrArg Value.bool h2.out, Lib.hid ⟨Below.refl _ _, rfl⟩⟩
          · have hs := of_decide_eq_true HSG.out
            have h1 : Hid (t.extract 1 t.size = u) := Lib.hid <| by
              rw [← HU.out]; unfold pbody; rw [HCB.out, if_pos hs]
            have h2 : Hid (((c : Int) == 45) = mn) := Lib.hid <| by
              rw [← HMN.out]; unfold pneg; rw [HCB.out]
              by_cases e : c = 45
              · subst e; simp [hs.1]
              · have : ¬ (c : Int) = 45 := by omega
                simp [e, this]
            have hsz := hs.1
            clear hs
            have hbt := byte_at t (i := 0) hsz
            rw [HCB.out] at hbt
            go_upto_region 7 with (fail)
            go_quiet (fail)
            go_wp2
            go_meet
            exact ⟨congrArg Value.string h1.out, congrArg Value.bool h2.out, Lib.hid ⟨(Below.refl _ _).trans ⟨rfl, rfl, rfl, Nat.le_refl _, fun _ _ => rfl⟩, rfl⟩⟩
        case rest =>
          obtain ⟨rfl, rfl, HBW⟩ := hcut
          have HBX3 := Lib.hid (HBX.out.after HBW.out.1)
          have HVB3 := Lib.hid (HVB.out.trans (HBW.out.1.mono (by rw [vs]; omega)))
          have vs3 := HBW.out.2.trans vs
          clear HBX HVB vs HBW
          have hu : u.size ≤ s.size := by
            rw [← HU.out]; unfold pbody; split
            · rw [ByteArray.size_extract]; omega
            · exact ht
          obtain ⟨bb, HBB⟩ : ∃ b, Hid (pbase u = b) := ⟨_, Lib.hid rfl⟩
          obtain ⟨x, HX⟩ : ∃ b, Hid (pdig u = b) := ⟨_, Lib.hid rfl⟩
          obtain ⟨d0, HD0⟩ : ∃ c, Hid (byteN u 0 = c) := ⟨_, Lib.hid rfl⟩
          have h0255 : d0 ≤ 255 := by rw [← HD0.out]; exact byteN_le u 0
          obtain ⟨d1, HD1⟩ : ∃ c, Hid (byteN u 1 = c) := ⟨_, Lib.hid rfl⟩
          have h1255 : d1 ≤ 255 := by rw [← HD1.out]; exact byteN_le u 1
          obtain ⟨z, HZ⟩ : ∃ b, Hid (decide (2 ≤ u.size ∧ d0 = 48) = b) := ⟨_, Lib.hid rfl⟩
          go_upto_region 8 with (fail)
          go_cut [56] from 49 to 56 (fun bv wx => bv = .bool z ∧ wx = wc)
          case first =>
            by_cases h2 : 2 ≤ u.size
            · have hbt := byte_at u (i := 0) (by omega)
              rw [HD0.out] at hbt
              have hz : Hid (((d0 : Int) == 48) = z) := Lib.hid (by
                rw [← HZ.out]
                by_cases e : d0 = 48
                · subst e; simp [h2]
                · have n : ¬ (d0 : Int) = 48 := by omega
                  simp [e, n])
              go_wp2
              go_meet
              exact ⟨congrArg Value.bool hz.out, rfl⟩
            · have hz : Hid (false = z) := Lib.hid (by rw [← HZ.out]; symm; rw [decide_eq_false_iff_not]; omega)
              go_wp2
              go_meet
              exact ⟨congrArg Value.bool hz.out, rfl⟩
          case rest =>
            obtain ⟨rfl, rfl⟩ := hcut
            go_upto_if 56 with (fail)
            go_cut [5] from 57 to 64 (fun sv wx => sv = .int .i64 bb ∧ wx = wc)
            case first =>
              cases z
              · have hb : Hid (10 = bb) := Lib.hid (by
                  rw [← HBB.out]; unfold pbase; rw [HD0.out, if_neg (of_decide_eq_false HZ.out)])
                go_wp2
                go_meet
                exact ⟨by rw [← hb.out]; rfl, rfl⟩
              · have hzz := of_decide_eq_true HZ.out
                have hsz := hzz.1
                have HPB : Hid ((if d1 = 120 then 16 else if d1 = 111 then 8 else if d1 = 98 then 2 else 10) = bb) := Lib.hid (by
                  rw [← HBB.out]; unfold pbase; rw [HD0.out, if_pos hzz, HD1.out])
                clear hzz
                have hbt := byte_at u (i := 1) (by omega)
                rw [HD1.out] at hbt
                by_cases e1 : d1 = 120
                · subst e1
                  go_wp2
                  go_meet
                  exact ⟨by rw [← HPB.out]; rfl, rfl⟩
                · by_cases e2 : d1 = 111
                  · subst e2
                    go_wp2
                    go_meet
                    exact ⟨by rw [← HPB.out]; rfl, rfl⟩
                  · by_cases e3 : d1 = 98
                    · subst e3
                      go_wp2
                      go_meet
                      exact ⟨by rw [← HPB.out]; rfl, rfl⟩
                    · have hb : Hid (10 = bb) := Lib.hid (by rw [← HPB.out, if_neg e1, if_neg e2, if_neg e3])
                      have n1 : ¬ (d1 : Int) = 120 := by omega
                      have n2 : ¬ (d1 : Int) = 111 := by omega
                      have n3 : ¬ (d1 : Int) = 98 := by omega
                      go_wp2
                      go_meet
                      exact ⟨by rw [← hb.out]; rfl, rfl⟩
            case rest =>
              obtain ⟨rfl, rfl⟩ := hcut
              have hb2 : 2 ≤ bb := by
                rw [← HBB.out]; unfold pbase; split
                · split
                  · decide
                  · split
                    · decide
                    · split <;> decide
                · decide
              have hb36 : bb ≤ 36 := by
                rw [← HBB.out]; unfold pbase; split
                · split
                  · decide
                  · split
                    · decide
                    · split <;> decide
                · decide
              go_upto_if 66 with (fail)
              go_cut [0] from 67 to 68 (fun sv wx => sv = .string x ∧ wx = wc)
              case first =>
                by_cases e : bb = 10
                · have hx : Hid (u = x) := Lib.hid (by rw [← HX.out]; unfold pdig; rw [HBB.out, if_pos e])
                  subst e
                  go_wp2
                  go_meet
                  exact ⟨congrArg Value.string hx.out, rfl⟩
                · have hx : Hid (u.extract 2 u.size = x) := Lib.hid (by rw [← HX.out]; unfold pdig; rw [HBB.out, if_neg e])
                  have n1 : ¬ (bb : Int) = 10 := by omega
                  have h2 : 2 ≤ u.size := by
                    have := HBB.out
                    unfold pbase at this
                    split at this
                    · rename_i h; exact h.1
                    · omega
                  go_wp2
                  go_meet
                  exact ⟨congrArg Value.string hx.out, rfl⟩
              case rest =>
                obtain ⟨rfl, rfl⟩ := hcut
                have hx : x.size ≤ 1000000 := by
                  rw [← HX.out]; unfold pdig; split
                  · omega
                  · rw [ByteArray.size_extract]; omega
                go_wp2_with (first | (go_at_call 106; refine (digits_q x bb _ hb2 hb36 hx).mono ?_; rintro e w2 ⟨ao, n, cap, lg, od, er, rfl, hd, hbd⟩; have HD := Lib.hid hd; have HBD := Lib.hid hbd; have hB2 := Lib.hid (HBX3.out.after hbd); clear hd hbd) | (go_at_call 80; refine (signed_any false lg od mn ao n cap _).mono ?_; rintro e w4 ⟨rfl, hb4⟩; have hB4 := Lib.hid ((hB2.out.after ((Below.refl _ _).alloc (Nat.le_refl _) _)).after hb4); obtain ⟨x0, x1, x2, x3, y0, y1, y2, y3⟩ := hB4.out; have HB4 := Lib.hid hb4; clear hb4))
                have HPT : Hid (ptext s = t) := Lib.hid HT.out.symm
                have HPB : Hid (pbs s = bb) := Lib.hid (by unfold pbs; rw [HPT.out, HU.out, HBB.out])
                have HPD : Hid (pds s = x) := Lib.hid (by unfold pds; rw [HPT.out, HU.out, HX.out])
                have hsw : wc.heap.size ≤ w2.heap.size := HBD.out.size
                refine bodyPost_ret (v := .tuple #[numV (mn && (lg || decide (0 < n))) (.slice ao n cap) lg od, .int .i64 er]) (by simp [results, Tryd.results62, go_sem, x0, x1, x2, x3]) rfl ⟨ao, n, cap, lg, od, er, by rw [HPT.out, HMN.out], ?_, ?_⟩
                · rw [HPB.out, HPD.out]
                  rcases HD.out with ⟨h1, h2, h3, h4, h5⟩ | h
                  · refine Or.inl ⟨h1, h2, h3, h4, fun h => ?_⟩
                    exact (((h5 h).mono (show W.heap.size + 1 ≤ wc.heap.size by omega)).later (((Below.refl _ _).alloc (Nat.le_refl _) _).trans (HB4.out.mono (by simp))) (Nat.le_refl _)).four (Nat.lt_succ_self _) _ _ _ _ |>.mono (Nat.le_succ _)
                  · exact Or.inr h
                · exact below_four (((HVB3.out.trans (HBD.out.mono (by omega))).alloc (by omega) _).trans (HB4.out.mono (by simp; omega))) (Nat.le_refl _) _ _ _ _
end Go.Proofs.YtkpoegdcmnjedaaDoor
