import Derived.Test.YtkpoegdcmnjedaaDoorSB2
namespace Go.Proofs.YtkpoegdcmnjedaaDoor
open Go.RowKit
set_option linter.unusedVariables false
set_option linter.unusedSimpArgs false

theorem digs_one {b d : Nat} (h : 0 < d) (hb : d < b) : digs b d = [d] := by
  rw [digs_pos (by omega) h, Nat.mod_eq_of_lt hb, Nat.div_eq_of_lt hb, digs_zero]
theorem ren_digit {d : Nat} (h : 0 < d) (hb : d < 10) : ren (d : Int) = txt [48 + d] ∧ ren (-(d : Int)) = ⟨#[45]⟩ ++ txt [48 + d] := by
  have e : textL 10 d = [48 + d] := by
    unfold textL
    rw [if_neg (by omega), digs_one h hb]
    show [digCh d] = _
    unfold digCh; rw [if_pos hb]
  unfold ren
  rw [if_neg (by omega), if_pos (by omega), Int.natAbs_neg, Int.natAbs_natCast, e]
  exact ⟨rfl, rfl⟩
theorem ren_m7 : ren (-7) = ⟨#[45, 55]⟩ := (ren_digit (d := 7) (by decide) (by decide)).2
theorem ren_2 : ren 2 = ⟨#[50]⟩ := (ren_digit (d := 2) (by decide) (by decide)).1
theorem ren_m4 : ren (-4) = ⟨#[45, 52]⟩ := (ren_digit (d := 4) (by decide) (by decide)).2
theorem ren_1 : ren 1 = ⟨#[49]⟩ := (ren_digit (d := 1) (by decide) (by decide)).1
theorem ren_255 : ren 255 = ⟨#[50, 53, 53]⟩ := by
  have e : textL 10 255 = [50, 53, 53] := by
    unfold textL
    rw [if_neg (by decide), digs_pos (by decide) (by decide), digs_pos (by decide) (by decide), digs_one (by decide) (by decide)]; rfl
  unfold ren
  rw [if_neg (by decide)]
  show txt (textL 10 255) = _
  rw [e]; rfl
theorem renB_255 : renB 16 255 = ⟨#[102, 102]⟩ := by
  have e : textL 16 255 = [102, 102] := by
    unfold textL
    rw [if_neg (by decide), digs_pos (by decide) (by decide), digs_one (by decide) (by decide)]; rfl
  unfold renB
  rw [if_neg (by decide)]
  show txt (textL 16 255) = _
  rw [e]; rfl
theorem lim_small : 1000 ≤ Lim := by unfold Lim; decide +kernel
theorem div_7_2 (W : World) : Calls Tryd.prog 25 #[.string ⟨#[45, 55]⟩, .string ⟨#[50]⟩] W fun e W' => e = .returned (.tuple #[.string ⟨#[45, 52]⟩, .string ⟨#[49]⟩, .int .i64 0]) ∧ Below W.heap.size W W' := by
  have hl := lim_small
  have h7 := num_ren (-7)
  have h2 := num_ren 2
  have n7 := natT_ren (-7)
  have n2 := natT_ren 2
  rw [← ren_m7, ← ren_2]
  have n7' : natT (ren (-7)) = 7 := n7
  have n2' : natT (ren 2) = 2 := n2
  refine (div_any (ren (-7)) (ren 2) W (by rw [ren_m7]; decide) (by rw [ren_2]; decide) (fun h _ _ => ?_)).mono ?_
  · rw [n2', n7']
    exact overH_one (Nat.le_trans (nd_lim (by omega)) (by decide)) (by decide) (by decide)
  · rintro e W' ⟨q, r, er, rfl, h, hb⟩
    refine ⟨?_, hb⟩
    rcases h with ⟨h, _⟩ | ⟨_, h, _⟩ | ⟨_, _, h, _⟩ | ⟨_, _, _, _, ⟨x, y, hd, rfl, rfl⟩, rfl⟩
    · exact absurd ⟨h7.1, h2.1⟩ h
    · rw [n2'] at h; omega
    · rw [n2', n7'] at h; omega
    · rw [h7.2, h2.2] at hd
      have hd' : DivP (-7) 2 (-4) 1 := ⟨by decide, fun _ => by decide, fun h => by omega⟩
      obtain ⟨rfl, rfl⟩ := hd.uniq hd' (by decide)
      rw [ren_m4, ren_1]
theorem base_255 (W : World) : Calls Tryd.prog 53 #[.string ⟨#[50, 53, 53]⟩, .int .i64 16] W fun e W' => e = .returned (.tuple #[.string ⟨#[102, 102]⟩, .int .i64 0]) ∧ Below W.heap.size W W' := by
  have hl := lim_small
  have h := num_ren 255
  have n : natT (ren 255) = 255 := natT_ren 255
  rw [← ren_255]
  refine (base_any (ren 255) 16 W (by rw [ren_255]; decide)).mono ?_
  rintro e W' ⟨r, er, rfl, hh, hb⟩
  refine ⟨?_, hb⟩
  rcases hh with ⟨h1, _⟩ | ⟨_, h1, _⟩ | ⟨_, _, h1, _⟩ | ⟨_, _, _, rfl, rfl⟩
  · exact absurd h.1 h1
  · omega
  · rw [n] at h1; omega
  · rw [h.2]
    show Ending.returned (.tuple #[.string (renB 16 255), .int .i64 0]) = _
    rw [renB_255]
set_option maxHeartbeats 1000000 in
theorem awake_any (W : World) : Calls Tryd.prog 12 #[] W fun e W' => e = .returned (.bool true) ∧ Below W.heap.size W W' := by
  go_enter Tryd.func12, Tryd.ntmps12
  go_wp2_with (first | (go_at_call 25; refine (div_7_2 _).mono ?_; rintro e w2 ⟨rfl, hb2⟩; have HB2 := Lib.hid hb2; clear hb2) | (go_at_call 53; refine (base_255 _).mono ?_; rintro e w3 ⟨rfl, hb3⟩; have HB3 := Lib.hid hb3; clear hb3))
  go_ret
  exact ⟨rfl, HB2.out.trans (HB3.out.mono HB2.out.size)⟩
end Go.Proofs.YtkpoegdcmnjedaaDoor
