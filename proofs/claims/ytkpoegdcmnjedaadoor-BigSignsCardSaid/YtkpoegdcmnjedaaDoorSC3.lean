import Derived.Test.YtkpoegdcmnjedaaDoorSB3
import Derived.Test.YtkpoegdcmnjedaaDoorRE2
namespace Go.Proofs.YtkpoegdcmnjedaaDoor
open Go.RowKit
set_option linter.unusedVariables false
set_option linter.unusedSimpArgs false

/-- a text is a number that is not too long. -/
noncomputable def validB (s : ByteArray) : Bool := @decide (IsNum s ∧ natT s < Lim) (Classical.propDecidable _)
theorem validB_iff {s : ByteArray} : validB s = true ↔ IsNum s ∧ natT s < Lim := by
  unfold validB
  rw [@decide_eq_true_eq _ (Classical.propDecidable _)]
theorem ref_valid_b (s : ByteArray) (W : World) (hs : s.size ≤ 2000000) : Calls Tryd.prog 16 #[.string s] W fun e W' => e = .returned (.bool (validB s)) ∧ Below W.heap.size W W' := by
  have h := @ref_valid_any s W hs (Classical.propDecidable _)
  refine h.mono ?_
  rintro e W' ⟨rfl, hb⟩
  refine ⟨?_, hb⟩
  unfold validB
  congr 2
  exact decide_eq_decide.2 Iff.rfl
/-- a row of texts. -/
def Txs (g : Nat) (ss : List ByteArray) (W : World) : Prop := g < W.heap.size ∧ ∀ i (h : i < ss.length), W.cell? ⟨g, i, none⟩ = some (.string ss[i])
theorem Txs.later {g : Nat} {ss : List ByteArray} {W W' : World} (h : Txs g ss W) (hb : Below W.heap.size W W') : Txs g ss W' :=
  ⟨Nat.lt_of_lt_of_le h.1 hb.size, fun i hi => cell_after hb (h.2 i hi)⟩
noncomputable def rightB (ss : List ByteArray) : Bool := ss.all fun s => validB s && decide (s.size ≤ 60)
set_option maxHeartbeats 1000000 in
theorem right_any (g cap : Nat) (ss : List ByteArray) (W : World) (h : Txs g ss W) (hl : ss.length ≤ 1000) (hz : ∀ s ∈ ss, s.size ≤ 2000000) :
    Calls Tryd.prog 57 #[.slice (some ⟨g, 0, none⟩) ss.length cap] W fun e W' => e = .returned (.bool (rightB ss)) ∧ Below W.heap.size W W' := by
  obtain ⟨r, HR⟩ : ∃ r, Hid (rightB ss = r) := ⟨_, Lib.hid rfl⟩
  rw [HR.out]
  have H := Lib.hid h
  have HZ := Lib.hid hz
  clear h hz
  go_enter Tryd.func57, Tryd.ntmps57
  go_wp2
  go_loopw [7] (fun iv wr => ∃ k : Nat, iv = .int .i64 k ∧ k ≤ ss.length ∧ Hid (Below W.heap.size W wr ∧ ∀ j (h : j < ss.length), j < k → (validB ss[j] && decide (ss[j].size ≤ 60)) = true)) (fun iv _ => ss.length - (intOf iv).toNat)
  case atStart => exact ⟨0, rfl, Nat.zero_le _, Lib.hid ⟨Below.refl _ _, fun j _ h => absurd h (Nat.not_lt_zero _)⟩⟩
  case round =>
    obtain ⟨k, rfl, hk, hp⟩ := hrel
    by_cases hlt : k < ss.length
    · have hcell := (H.out.later hp.out.1).2 k hlt
      obtain ⟨s, HS⟩ : ∃ s, Hid (ss[k] = s) := ⟨_, Lib.hid rfl⟩
      rw [HS.out] at hcell
      have hsz : s.size ≤ 2000000 := by rw [← HS.out]; exact HZ.out _ (List.getElem_mem hlt)
      obtain ⟨v, HV⟩ : ∃ v, Hid (validB s = v) := ⟨_, Lib.hid rfl⟩
      have HC : Hid (∀ w, Calls Tryd.prog 16 #[.string s] w fun e W' => e = .returned (.bool v) ∧ Below w.heap.size w W') := Lib.hid fun w => by rw [← HV.out]; exact ref_valid_b s w hsz
      have hbad : (validB ss[k] && decide (ss[k].size ≤ 60)) = false → false = r := fun h => by
        rw [← HR.out]; symm
        unfold rightB
        rw [List.all_eq_false]
        exact ⟨ss[k], List.getElem_mem hlt, by rw [h]; decide⟩
      rw [HS.out, HV.out] at hbad
      have HBAD := Lib.hid hbad
      clear hbad
      cases v
      · have hr : Hid (false = r) := Lib.hid (HBAD.out rfl)
        go_wp2_with (go_at_call 16; refine (HC.out _).mono ?_; rintro e w2 ⟨rfl, hb2⟩; have HB2 := Lib.hid hb2; clear hb2)
        go_ret
        exact ⟨by rw [← hr.out] <;> rfl, hp.out.1.trans (HB2.out.mono hp.out.1.size)⟩
      · by_cases h60 : s.size ≤ 60
        · have hd : decide ((60 : Int) < (s.size : Int)) = false := by rw [decide_eq_false_iff_not]; omega
          have HG : Hid (∀ j (h : j < ss.length), j < k + 1 → (validB ss[j] && decide (ss[j].size ≤ 60)) = true) := Lib.hid fun j h hj => by
            by_cases e : j = k
            · subst e; rw [HS.out, HV.out, decide_eq_true h60]; rfl
            · exact hp.out.2 j h (by omega)
          go_wp2_with (go_at_call 16; refine (HC.out _).mono ?_; rintro e w2 ⟨rfl, hb2⟩; have HB2 := Lib.hid hb2; clear hb2)
          go_roundw
          case rel => exact ⟨k + 1, by go_num, by omega, Lib.hid ⟨hp.out.1.trans (HB2.out.mono hp.out.1.size), HG.out⟩⟩
          case measure => simp [intOf] <;> omega
        · have hr : Hid (false = r) := Lib.hid (HBAD.out (by rw [decide_eq_false h60]; rfl))
          have h60' : 60 < s.size := by omega
          clear h60
          go_wp2_with (go_at_call 16; refine (HC.out _).mono ?_; rintro e w2 ⟨rfl, hb2⟩; have HB2 := Lib.hid hb2; clear hb2)
          go_ret
          exact ⟨by rw [← hr.out] <;> rfl, hp.out.1.trans (HB2.out.mono hp.out.1.size)⟩
    · obtain rfl : k = ss.length := by omega
      have hr : Hid (true = r) := Lib.hid (by
        rw [← HR.out]; symm
        unfold rightB
        rw [List.all_eq_true]
        intro s hs
        obtain ⟨i, hi, rfl⟩ := List.getElem_of_mem hs
        exact hp.out.2 i hi hi)
      go_wp2
      go_ret
      exact ⟨by rw [← hr.out] <;> rfl, hp.out.1⟩

theorem rd_lt {b : Nat} {s : ByteArray} : ∀ k, (∀ j, j < k → dvS s j < b) → rd b s k < b ^ k
  | 0, _ => by show 0 < 1; decide
  | k + 1, h => by
    have h1 := rd_lt k (fun j hj => h j (by omega))
    have h2 := h k (by omega)
    have h3 : (rd b s k + 1) * b ≤ b ^ k * b := Nat.mul_le_mul_right _ h1
    rw [Nat.add_mul, Nat.one_mul] at h3
    rw [Nat.pow_succ]
    show rd b s k * b + dvS s k < _
    omega
/-- a bound for numbers of at most 60 bytes. -/
def C60 : Nat := 16 ^ 60
theorem c60_1 : 8 * C60 < Lim := by unfold C60 Lim; decide +kernel
theorem c60_2 : C60 * (8 * C60) < Lim := by unfold C60 Lim; decide +kernel
theorem natT_small {s : ByteArray} (h : IsNum s) (hs : s.size ≤ 60) : natT s < C60 := by
  have h1 : natT s < pbs s ^ (pds s).size := rd_lt _ h.2
  have h2 : pbs s ≤ 16 := by
    rcases pbase_cases (pbody (ptext s)) with h | h | h | h <;> (unfold pbs; omega)
  have h3 : (pds s).size ≤ 60 := by
    have := ptext_size s
    have k1 : (pbody (ptext s)).size ≤ (ptext s).size := by
      unfold pbody; split
      · rw [ByteArray.size_extract]; omega
      · exact Nat.le_refl _
    have k2 : (pdig (pbody (ptext s))).size ≤ (pbody (ptext s)).size := by
      unfold pdig; split
      · exact Nat.le_refl _
      · rw [ByteArray.size_extract]; omega
    show (pdig (pbody (ptext s))).size ≤ 60
    omega
  have h4 : pbs s ^ (pds s).size ≤ 16 ^ (pds s).size := Nat.pow_le_pow_left h2 _
  have h5 : 16 ^ (pds s).size ≤ C60 := by
    unfold C60
    exact Nat.pow_le_pow_right (by decide) h3
  omega
/-- a text is this number. -/
structure Nu (s : ByteArray) (x : Int) : Prop where
  num : IsNum s
  val : valT s = x
  lim : x.natAbs < Lim
  siz : s.size ≤ 1000000
theorem Nu.nat {s : ByteArray} {x : Int} (h : Nu s x) : natT s < Lim := by rw [← valT_abs, h.val]; exact h.lim
theorem Nu.ren {x : Int} (h : x.natAbs < Lim) : Nu (ren x) x := ⟨(num_ren x).1, (num_ren x).2, h, Nat.le_trans (ren_size h) (by decide)⟩
theorem add_num {a b : ByteArray} {x y : Int} (ha : Nu a x) (hb : Nu b y) (h : (x + y).natAbs < Lim) (W : World) :
    Calls Tryd.prog 17 #[.string a, .string b] W fun e W' => e = .returned (.tuple #[.string (Go.Proofs.YtkpoegdcmnjedaaDoor.ren (x + y)), .int .i64 0]) ∧ Below W.heap.size W W' := by
  refine (add_any a b W ha.siz hb.siz).mono ?_
  rintro e W' ⟨r, er, rfl, hh, hb2⟩
  refine ⟨?_, hb2⟩
  have h1 := ha.nat
  have h2 := hb.nat
  rcases hh with ⟨h3, _⟩ | ⟨_, h3, _⟩ | ⟨_, _, _, hr, he⟩
  · exact absurd ⟨ha.num, hb.num⟩ h3
  · omega
  · rw [ha.val, hb.val] at hr he
    rw [hr, he, (told_small h).1, (told_small h).2]
theorem sub_num {a b : ByteArray} {x y : Int} (ha : Nu a x) (hb : Nu b y) (h : (x - y).natAbs < Lim) (W : World) :
    Calls Tryd.prog 19 #[.string a, .string b] W fun e W' => e = .returned (.tuple #[.string (Go.Proofs.YtkpoegdcmnjedaaDoor.ren (x - y)), .int .i64 0]) ∧ Below W.heap.size W W' := by
  refine (sub_any a b W ha.siz hb.siz).mono ?_
  rintro e W' ⟨r, er, rfl, hh, hb2⟩
  refine ⟨?_, hb2⟩
  have h1 := ha.nat
  have h2 := hb.nat
  rcases hh with ⟨h3, _⟩ | ⟨_, h3, _⟩ | ⟨_, _, _, hr, he⟩
  · exact absurd ⟨ha.num, hb.num⟩ h3
  · omega
  · rw [ha.val, hb.val] at hr he
    rw [hr, he, (told_small h).1, (told_small h).2]
theorem mul_num {a b : ByteArray} {x y : Int} (ha : Nu a x) (hb : Nu b y) (h : (x * y).natAbs < Lim) (W : World) :
    Calls Tryd.prog 23 #[.string a, .string b] W fun e W' => e = .returned (.tuple #[.string (Go.Proofs.YtkpoegdcmnjedaaDoor.ren (x * y)), .int .i64 0]) ∧ Below W.heap.size W W' := by
  refine (mul_any a b W ha.siz hb.siz).mono ?_
  rintro e W' ⟨r, er, rfl, hh, hb2⟩
  refine ⟨?_, hb2⟩
  have h1 := ha.nat
  have h2 := hb.nat
  rcases hh with ⟨h3, _⟩ | ⟨_, h3, _⟩ | ⟨_, _, _, hr, he⟩
  · exact absurd ⟨ha.num, hb.num⟩ h3
  · omega
  · rw [ha.val, hb.val] at hr he
    rw [hr, he, (told_small h).1, (told_small h).2]
theorem can_num {a : ByteArray} {x : Int} (ha : Nu a x) (W : World) :
    Calls Tryd.prog 13 #[.string a] W fun e W' => e = .returned (.tuple #[.string (Go.Proofs.YtkpoegdcmnjedaaDoor.ren x), .int .i64 0]) ∧ Below W.heap.size W W' := by
  refine (canonical_any a W ha.siz).mono ?_
  rintro e W' ⟨r, er, rfl, hh, hb2⟩
  refine ⟨?_, hb2⟩
  have h1 := ha.nat
  rcases hh with ⟨h3, _⟩ | ⟨_, h3, _⟩ | ⟨_, _, hr, he⟩
  · exact absurd ha.num h3
  · omega
  · rw [ha.val] at hr he
    rw [hr, he, (told_small ha.lim).1, (told_small ha.lim).2]
end Go.Proofs.YtkpoegdcmnjedaaDoor
namespace Go.Proofs.YtkpoegdcmnjedaaDoor
open Go.RowKit
set_option linter.unusedVariables false
set_option linter.unusedSimpArgs false

def longB (most : Nat) (ss : List ByteArray) : Bool := ss.any fun s => decide (most < s.size)
set_option maxHeartbeats 1000000 in
theorem long_any (most g cap : Nat) (ss : List ByteArray) (W : World) (h : Txs g ss W) (hl : ss.length ≤ 1000) (hz : ∀ s ∈ ss, s.size ≤ 9223372036854775807) (hm : most ≤ 1000000) :
    Calls Tryd.prog 11 #[.int .i64 most, .slice (some ⟨g, 0, none⟩) ss.length cap] W fun e W' => e = .returned (.bool (longB most ss)) ∧ W = W' := by
  obtain ⟨r, HR⟩ : ∃ r, Hid (longB most ss = r) := ⟨_, Lib.hid rfl⟩
  rw [HR.out]
  have H := Lib.hid h
  have HZ := Lib.hid hz
  clear h hz
  go_enter Tryd.func11, Tryd.ntmps11
  go_wp2
  go_loop [9] (fun iv => ∃ k : Nat, iv = .int .i64 k ∧ k ≤ ss.length ∧ Hid (∀ j (h : j < ss.length), j < k → decide (most < ss[j].size) = false)) (fun iv => ss.length - (intOf iv).toNat)
  case atStart => exact ⟨0, rfl, Nat.zero_le _, Lib.hid fun j _ h => absurd h (Nat.not_lt_zero _)⟩
  case round =>
    obtain ⟨k, rfl, hk, hp⟩ := hrel
    by_cases hlt : k < ss.length
    · have hcell := H.out.2 k hlt
      obtain ⟨s, HS⟩ : ∃ s, Hid (ss[k] = s) := ⟨_, Lib.hid rfl⟩
      rw [HS.out] at hcell
      have hsz : s.size ≤ 9223372036854775807 := by rw [← HS.out]; exact HZ.out _ (List.getElem_mem hlt)
      by_cases hb : most < s.size
      · have hr : Hid (true = r) := Lib.hid (by
          rw [← HR.out]; symm
          unfold longB
          rw [List.any_eq_true]
          exact ⟨ss[k], List.getElem_mem hlt, by rw [HS.out]; exact decide_eq_true hb⟩)
        go_wp2
        go_ret
        exact ⟨by rw [← hr.out] <;> rfl, rfl⟩
      · have hd : decide (most < s.size) = false := decide_eq_false hb
        have HG : Hid (∀ j (h : j < ss.length), j < k + 1 → decide (most < ss[j].size) = false) := Lib.hid fun j h hj => by
          by_cases e : j = k
          · subst e; rw [HS.out]; exact hd
          · exact hp.out j h (by omega)
        go_wp2
        go_round
        case rel => exact ⟨k + 1, by go_num, by omega, HG⟩
        case measure => simp [intOf] <;> omega
    · obtain rfl : k = ss.length := by omega
      have hr : Hid (false = r) := Lib.hid (by
        rw [← HR.out]; symm
        unfold longB
        rw [List.any_eq_false]
        intro s hs
        obtain ⟨i, hi, rfl⟩ := List.getElem_of_mem hs
        rw [hp.out i hi hi]; decide)
      go_wp2
      go_ret
      exact ⟨by rw [← hr.out] <;> rfl, rfl⟩
theorem OneQ.det {f : Int → Int} {s : ByteArray} {W W' W1 W1' : World} {r r' : ByteArray} {er er' : Int} (h : OneQ f s W (.returned (.tuple #[.string r, .int .i64 er])) W') (h' : OneQ f s W1 (.returned (.tuple #[.string r', .int .i64 er'])) W1') : r = r' ∧ er = er' := by
  obtain ⟨x, ex, e1, h1, _⟩ := h
  obtain ⟨y, ey, e2, h2, _⟩ := h'
  simp only [Ending.returned.injEq, Value.tuple.injEq, Array.mk.injEq, List.cons.injEq, Value.string.injEq, Value.int.injEq, and_true, true_and] at e1 e2
  obtain ⟨rfl, rfl⟩ := e1
  obtain ⟨rfl, rfl⟩ := e2
  rcases h1 with ⟨a1, b1, c1⟩ | ⟨a1, d1, b1, c1⟩ | ⟨a1, d1, b1, c1⟩ <;> rcases h2 with ⟨a2, b2, c2⟩ | ⟨a2, d2, b2, c2⟩ | ⟨a2, d2, b2, c2⟩ <;>
    first
    | exact absurd a2 a1
    | exact absurd a1 a2
    | (with_reducible exact ⟨b1.trans b2.symm, c1.trans c2.symm⟩)
    | omega
theorem TwoR.det {f : Int → Int → Int} {a b : ByteArray} {W W' W1 W1' : World} {r r' : ByteArray} {er er' : Int} (h : TwoR f a b W (.returned (.tuple #[.string r, .int .i64 er])) W') (h' : TwoR f a b W1 (.returned (.tuple #[.string r', .int .i64 er'])) W1') : r = r' ∧ er = er' := by
  obtain ⟨x, ex, e1, h1, _⟩ := h
  obtain ⟨y, ey, e2, h2, _⟩ := h'
  simp only [Ending.returned.injEq, Value.tuple.injEq, Array.mk.injEq, List.cons.injEq, Value.string.injEq, Value.int.injEq, and_true, true_and] at e1 e2
  obtain ⟨rfl, rfl⟩ := e1
  obtain ⟨rfl, rfl⟩ := e2
  rcases h1 with ⟨a1, b1, c1⟩ | ⟨a1, d1, b1, c1⟩ | ⟨a1, d1, d1', b1, c1⟩ <;> rcases h2 with ⟨a2, b2, c2⟩ | ⟨a2, d2, b2, c2⟩ | ⟨a2, d2, d2', b2, c2⟩ <;>
    first
    | exact absurd a2 a1
    | exact absurd a1 a2
    | (with_reducible exact ⟨b1.trans b2.symm, c1.trans c2.symm⟩)
    | omega
theorem CmpQ.det {a b : ByteArray} {W W' W1 W1' : World} {r r' : Int} {er er' : Int} (h : CmpQ a b W (.returned (.tuple #[.int .i64 r, .int .i64 er])) W') (h' : CmpQ a b W1 (.returned (.tuple #[.int .i64 r', .int .i64 er'])) W1') : r = r' ∧ er = er' := by
  obtain ⟨x, ex, e1, h1, _⟩ := h
  obtain ⟨y, ey, e2, h2, _⟩ := h'
  simp only [Ending.returned.injEq, Value.tuple.injEq, Array.mk.injEq, List.cons.injEq, Value.string.injEq, Value.int.injEq, and_true, true_and] at e1 e2
  obtain ⟨rfl, rfl⟩ := e1
  obtain ⟨rfl, rfl⟩ := e2
  rcases h1 with ⟨a1, b1, c1⟩ | ⟨a1, d1, b1, c1⟩ | ⟨a1, d1, d1', b1, c1⟩ <;> rcases h2 with ⟨a2, b2, c2⟩ | ⟨a2, d2, b2, c2⟩ | ⟨a2, d2, d2', b2, c2⟩ <;>
    first
    | exact absurd a2 a1
    | exact absurd a1 a2
    | (with_reducible exact ⟨b1.trans b2.symm, c1.trans c2.symm⟩)
    | omega
end Go.Proofs.YtkpoegdcmnjedaaDoor
