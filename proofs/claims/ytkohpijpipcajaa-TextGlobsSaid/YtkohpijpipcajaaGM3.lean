import Derived.Test.YtkohpijpipcajaaGM1
import Derived.Test.YtkohpijpipcajaaR3
import Derived.Deep.QuietTactic
import Derived.BigQuiet
import Derived.WalkLawsBesides
import Derived.Test.YtkohpijpipcajaaP1
import Derived.Test.YtkohpijpipcajaaO1
import Derived.OwnWalk
import Derived.Test.YtkohpijpipcajaaB1
namespace Go.Proofs.Ytkohpijpipcajaa
open Go.RowKit
set_option linter.unusedVariables false
set_option linter.unusedSimpArgs false

def inB (s : ByteArray) (c : Nat) : Bool := (membersF s).any fun m => m.val == c
theorem mem_spanG {a b c : Nat} (hb : b < 256) (hab : a ≤ b) : (spanG a b).any (fun m => m.val == c) = decide (a ≤ c ∧ c ≤ b) := by
  rw [Bool.eq_iff_iff, List.any_eq_true, decide_eq_true_iff]
  unfold spanG
  constructor
  · rintro ⟨m, hm, e⟩
    obtain ⟨d, hd, rfl⟩ := List.mem_map.1 hm
    rw [List.mem_range] at hd
    have h1 : (Fin.ofNat 256 (a + d)).val = a + d := by show (a + d) % 256 = _; exact Nat.mod_eq_of_lt (by omega)
    rw [h1, beq_iff_eq] at e
    omega
  · rintro ⟨h1, h2⟩
    refine ⟨Fin.ofNat 256 (a + (c - a)), List.mem_map.2 ⟨c - a, List.mem_range.2 (by omega), rfl⟩, ?_⟩
    rw [beq_iff_eq]
    show (a + (c - a)) % 256 = c
    rw [Nat.mod_eq_of_lt (by omega)]; omega

theorem drewN_more {w W : World} (h : ∃ n, W = w.drewN n) (m : Nat) : ∃ n, W.drewN m = w.drewN n := by
  obtain ⟨n, rfl⟩ := h
  exact ⟨n + m, by simp [World.drewN, Nat.add_assoc]⟩
set_option maxRecDepth 100000 in
set_option maxHeartbeats 4000000 in
theorem in_any (s : ByteArray) (c : Nat) (w : World) (hs : s.size ≤ 1000) (hc : c < 256) :
    Calls Try.prog 91 #[.string s, .int .u8 c] w fun e w' => e = .returned (.bool (inB s c)) ∧ ∃ n, w' = w.drewN n := by
  have hM : Hid ([] ++ memF s s.size 0 = membersF s) := Lib.hid rfl
  go_enter Try.func91, Try.ntmps91
  go_wp2
  go_loopw [5] (fun i wr => ∃ (k m : Nat) (pre : List (Fin 256)), i = .int .i64 k ∧ k ≤ s.size ∧ Hid (s.size - k ≤ m) ∧ Hid (pre ++ memF s m k = membersF s) ∧ Hid (pre.any (fun x => x.val == c) = false) ∧ Hid (∃ n, wr = w.drewN n)) (fun i _ => s.size - (intOf i).toNat)
  case atStart => exact ⟨0, s.size, [], rfl, Nat.zero_le _, Lib.hid (Nat.le_refl _), hM, Lib.hid rfl, Lib.hid ⟨0, rfl⟩⟩
  case round =>
    obtain ⟨k, m, pre, rfl, hk, hm, hpre, hno, hw⟩ := hrel
    by_cases hlt : k < s.size
    · have hx := byte_at s hlt
      have hX := byteN_lt s k
      obtain ⟨m', hm', hstep⟩ := memF_step hlt hm.out
      generalize hXe : byteN s k = X at hx hX hstep
      have r0 : (k : Int) < (s.size : Int) := by omega
      by_cases hrange : k + 2 < s.size ∧ byteN s (k + 1) = 45
      · obtain ⟨h2, h45⟩ := hrange
        have r2 : (k : Int) + 2 < (s.size : Int) := by omega
        have t1 : ((k : Int) + 1).toNat = k + 1 := by omega
        have t2 : ((k : Int) + 2).toNat = k + 2 := by omega
        have hx1 : ((s[k + 1]'(by omega)).toNat : Int) = 45 := by rw [byte_at s (by omega), h45]; rfl
        have hx2 := byte_at s h2
        have hZ := byteN_lt s (k + 2)
        obtain ⟨hs1, hs2⟩ := hiB_yes h2 h45
        rw [hs1, hs2] at hstep
        rw [hs2] at hm'
        have HM' := Lib.hid hm'
        generalize byteN s (k + 2) = Z at hx2 hZ hstep
        rcases Nat.le_total X Z with hXZ | hXZ
        · rw [spanF_le hXZ] at hstep
          have hmem := mem_spanG (a := X) (b := Z) (c := c) (by omega) hXZ
          have hmin : min (X : Int) (Z : Int) = X := by omega
          have hmax : max (X : Int) (Z : Int) = Z := by omega
          by_cases hin : X ≤ c ∧ c ≤ Z
          · have HE : Hid (inB s c = true) := Lib.hid (by unfold inB; rw [← hpre.out, hstep, List.any_append, List.any_append, hmem]; simp [hin])
            obtain ⟨g1, g2⟩ := hin
            have g1d : decide (X ≤ c) = true := by simpa using g1
            have g2d : decide (c ≤ Z) = true := by simpa using g2
            clear hs1 hs2 hstep hm' hmem hXe h45
            go_wp2
            go_quiet (fail)
            go_wp2
            go_ret
            exact ⟨by rw [HE.out]; rfl, drewN_more hw.out _⟩
          · have HNO : Hid ((pre ++ spanG X Z).any (fun x => x.val == c) = false) := Lib.hid (by rw [List.any_append, hno.out, hmem]; simp; omega)
            have HP2 : Hid ((pre ++ spanG X Z) ++ memF s m' (k + 3) = membersF s) := Lib.hid (by rw [List.append_assoc, ← hstep]; exact hpre.out)
            clear hs1 hs2 hstep hm' hmem hXe h45
            rcases (show c < X ∨ (X ≤ c ∧ Z < c) by omega) with g1 | ⟨g1, g2⟩
            · have g1d : decide (X ≤ c) = false := by simpa using g1
              clear hin
              go_wp2
              go_quiet (fail)
              go_wp2
              go_roundw
              case rel => exact ⟨k + 3, m', _, by go_num, by omega, HM', HP2, HNO, Lib.hid (drewN_more hw.out _)⟩
              case measure => simp [intOf]; omega
            · have g1d : decide (X ≤ c) = true := by simpa using g1
              have g2d : decide (c ≤ Z) = false := by simpa using g2
              clear hin
              go_wp2
              go_quiet (fail)
              go_wp2
              go_roundw
              case rel => exact ⟨k + 3, m', _, by go_num, by omega, HM', HP2, HNO, Lib.hid (drewN_more hw.out _)⟩
              case measure => simp [intOf]; omega
        · rw [spanF_ge hXZ] at hstep
          have hmem := mem_spanG (a := Z) (b := X) (c := c) (by omega) hXZ
          have hmin : min (X : Int) (Z : Int) = Z := by omega
          have hmax : max (X : Int) (Z : Int) = X := by omega
          by_cases hin : Z ≤ c ∧ c ≤ X
          · have HE : Hid (inB s c = true) := Lib.hid (by unfold inB; rw [← hpre.out, hstep, List.any_append, List.any_append, hmem]; simp [hin])
            obtain ⟨g1, g2⟩ := hin
            have g1d : decide (Z ≤ c) = true := by simpa using g1
            have g2d : decide (c ≤ X) = true := by simpa using g2
            clear hs1 hs2 hstep hm' hmem hXe h45
            go_wp2
            go_quiet (fail)
            go_wp2
            go_ret
            exact ⟨by rw [HE.out]; rfl, drewN_more hw.out _⟩
          · have HNO : Hid ((pre ++ spanG Z X).any (fun x => x.val == c) = false) := Lib.hid (by rw [List.any_append, hno.out, hmem]; simp; omega)
            have HP2 : Hid ((pre ++ spanG Z X) ++ memF s m' (k + 3) = membersF s) := Lib.hid (by rw [List.append_assoc, ← hstep]; exact hpre.out)
            clear hs1 hs2 hstep hm' hmem hXe h45
            rcases (show c < Z ∨ (Z ≤ c ∧ X < c) by omega) with g1 | ⟨g1, g2⟩
            · have g1d : decide (Z ≤ c) = false := by simpa using g1
              clear hin
              go_wp2
              go_quiet (fail)
              go_wp2
              go_roundw
              case rel => exact ⟨k + 3, m', _, by go_num, by omega, HM', HP2, HNO, Lib.hid (drewN_more hw.out _)⟩
              case measure => simp [intOf]; omega
            · have g1d : decide (Z ≤ c) = true := by simpa using g1
              have g2d : decide (c ≤ X) = false := by simpa using g2
              clear hin
              go_wp2
              go_quiet (fail)
              go_wp2
              go_roundw
              case rel => exact ⟨k + 3, m', _, by go_num, by omega, HM', HP2, HNO, Lib.hid (drewN_more hw.out _)⟩
              case measure => simp [intOf]; omega
      · obtain ⟨hs1, hs2⟩ := hiB_no hrange
        rw [hs1, hs2, hXe, spanF_le (Nat.le_refl _)] at hstep
        rw [hs2] at hm'
        have HM' := Lib.hid hm'
        have hmem := mem_spanG (a := X) (b := X) (c := c) hX (Nat.le_refl _)
        by_cases hcx : X = c
        · subst hcx
          have HE : Hid (inB s X = true) := Lib.hid (by unfold inB; rw [← hpre.out, hstep, List.any_append, List.any_append, hmem]; simp)
          clear hs1 hs2 hstep hm' hmem hXe
          rcases (show (s.size ≤ k + 2) ∨ (k + 2 < s.size ∧ byteN s (k + 1) ≠ 45) by omega) with h2 | ⟨h2, h45⟩
          · have r2 : (s.size : Int) ≤ (k : Int) + 2 := by omega
            clear hrange
            go_wp2
            go_ret
            exact ⟨by rw [HE.out]; rfl, hw.out⟩
          · have r2 : (k : Int) + 2 < (s.size : Int) := by omega
            have t1 : ((k : Int) + 1).toNat = k + 1 := by omega
            have hx1 := byte_at s (show k + 1 < s.size by omega)
            generalize byteN s (k + 1) = Y at hx1 h45 hrange
            have hb : ((Y : Int) == 45) = false := by rw [beq_eq_false_iff_ne]; omega
            clear h45 hrange
            go_wp2
            go_ret
            exact ⟨by rw [HE.out]; rfl, hw.out⟩
        · have HNO : Hid ((pre ++ spanG X X).any (fun x => x.val == c) = false) := Lib.hid (by rw [List.any_append, hno.out, hmem]; simp; omega)
          have HP2 : Hid ((pre ++ spanG X X) ++ memF s m' (k + 1) = membersF s) := Lib.hid (by rw [List.append_assoc, ← hstep]; exact hpre.out)
          have hbc : ((X : Int) == (c : Int)) = false := by rw [beq_eq_false_iff_ne]; omega
          have hbc2 : (X == c) = false := by rw [beq_eq_false_iff_ne]; omega
          clear hs1 hs2 hstep hm' hmem hXe hcx
          rcases (show (s.size ≤ k + 2) ∨ (k + 2 < s.size ∧ byteN s (k + 1) ≠ 45) by omega) with h2 | ⟨h2, h45⟩
          · have r2 : (s.size : Int) ≤ (k : Int) + 2 := by omega
            clear hrange
            go_wp2
            go_roundw
            case rel => exact ⟨k + 1, m', _, by go_num, by omega, HM', HP2, HNO, hw⟩
            case measure => simp [intOf]; omega
          · have r2 : (k : Int) + 2 < (s.size : Int) := by omega
            have t1 : ((k : Int) + 1).toNat = k + 1 := by omega
            have hx1 := byte_at s (show k + 1 < s.size by omega)
            generalize byteN s (k + 1) = Y at hx1 h45 hrange
            have hb : ((Y : Int) == 45) = false := by rw [beq_eq_false_iff_ne]; omega
            clear h45 hrange
            go_wp2
            go_roundw
            case rel => exact ⟨k + 1, m', _, by go_num, by omega, HM', HP2, HNO, hw⟩
            case measure => simp [intOf]; omega
    · have HE : Hid (inB s c = false) := Lib.hid (by have := hpre.out; rw [memF_stop (by omega), List.append_nil] at this; unfold inB; rw [← this]; exact hno.out)
      go_wp2
      go_ret
      exact ⟨by rw [HE.out]; rfl, hw.out⟩
end Go.Proofs.Ytkohpijpipcajaa

namespace Go.Proofs.Ytkohpijpipcajaa
open Go.RowKit
set_option linter.unusedVariables false
set_option linter.unusedSimpArgs false

/-- a part as the reference has it. -/
def cellsQ : RP → Array Value
  | .many => #[.bool true, .bool false, .bool false, .string ⟨#[]⟩, .int .u8 0, .bool false]
  | .any => #[.bool false, .bool true, .bool false, .string ⟨#[]⟩, .int .u8 0, .bool false]
  | .none => #[.bool false, .bool false, .bool true, .string ⟨#[]⟩, .int .u8 0, .bool false]
  | .set s => #[.bool false, .bool false, .bool false, .string s, .int .u8 0, .bool true]
  | .one c => #[.bool false, .bool false, .bool false, .string ⟨#[]⟩, .int .u8 (c : Nat), .bool false]
def okR : RP → Prop
  | .set s => s.size ≤ 1000
  | .one c => c < 256
  | _ => True

theorem put1_sym (f : Bool) {m c : Nat} (hm : m < 256) (hc : c < 256) : put1 f m c = (m == c || (f && (m == smN c || m == grN c))) := by
  unfold put1 smN grN
  cases f with
  | false => simp only [Bool.false_and, Bool.or_false]; rw [Bool.eq_iff_iff]; simp; omega
  | true =>
    simp only [Bool.true_and]
    rw [Bool.eq_iff_iff]
    simp only [Bool.or_eq_true, beq_iff_eq]
    split <;> split <;> split <;> split <;> omega
theorem anyPut_in (f : Bool) (s : ByteArray) {c : Nat} (hc : c < 256) : anyPut f (membersF s) c = (inB s c || (f && (inB s (smN c) || inB s (grN c)))) := by
  unfold anyPut inB
  rw [Bool.eq_iff_iff]
  simp only [List.any_eq_true, Bool.or_eq_true, Bool.and_eq_true]
  constructor
  · rintro ⟨m, hm, h⟩
    rw [put1_sym f m.isLt hc] at h
    simp only [Bool.or_eq_true, Bool.and_eq_true] at h
    rcases h with h | ⟨hf, h | h⟩
    · exact Or.inl ⟨m, hm, h⟩
    · exact Or.inr ⟨hf, Or.inl ⟨m, hm, h⟩⟩
    · exact Or.inr ⟨hf, Or.inr ⟨m, hm, h⟩⟩
  · intro h
    rcases h with ⟨m, hm, h⟩ | ⟨hf, ⟨m, hm, h⟩ | ⟨m, hm, h⟩⟩
    all_goals
      refine ⟨m, hm, ?_⟩
      rw [put1_sym f m.isLt hc]
      simp [h]
    all_goals simp [hf]
theorem put1_low (f : Bool) {x c : Nat} (hx : x < 256) (hc : c < 256) : put1 f x c = (x == c || (f && smN x == smN c)) := by
  unfold put1 smN grN
  cases f with
  | false => simp only [Bool.false_and, Bool.or_false]; rw [Bool.eq_iff_iff]; simp; omega
  | true =>
    simp only [Bool.true_and]
    rw [Bool.eq_iff_iff]
    simp only [Bool.or_eq_true, beq_iff_eq]
    split <;> split <;> (try split) <;> omega
theorem ref_small_nat (c : Nat) (w : World) (h : c ≤ 255) : Calls Try.prog 59 #[.int .u8 c] w fun e w' => e = .returned (.int .u8 (smN c : Nat)) ∧ w = w' := by
  rw [← sml_nat]; exact ref_small_any c w (by omega) (by omega)
theorem ref_great_nat (c : Nat) (w : World) (h : c ≤ 255) : Calls Try.prog 61 #[.int .u8 c] w fun e w' => e = .returned (.int .u8 (grN c : Nat)) ∧ w = w' := by
  rw [← grt_nat]; exact ref_great_any c w (by omega) (by omega)
theorem in_quiet (s : ByteArray) (c n : Nat) (v : Bool) (w : World) (hs : s.size ≤ 1000) (hc : c < 256) (hv : inB s c = v) : Calls Try.prog 91 #[.string s, .int .u8 c] (w.drewN n) fun e w' => e = .returned (.bool v) ∧ ∃ m, w' = (w.drewN n).drewN m := by
  subst hv; exact in_any s c _ hs hc

def TakesPost (v : Bool) (w : World) (e : Ending) (w' : World) : Prop := e = .returned (.bool v) ∧ Below w.heap.size w w'

set_option maxRecDepth 100000 in
set_option maxHeartbeats 4000000 in
theorem takes_set (s : ByteArray) (c : Nat) (f : Bool) (w : World) (hc : c < 256) (hs : s.size ≤ 1000) :
    Calls Try.prog 75 #[.agg (cellsQ (.set s)), .int .u8 c, .bool f] w (TakesPost (setOf f (.set s) c) w) := by
  have HV := Lib.hid (anyPut_in f s hc)
  have bA : Below w.heap.size w (w.alloc (Obj.cells (cellsQ (.set s)) 86)) := (Below.refl _ _).alloc (Nat.le_refl _) _
  have BA := Lib.hid bA
  clear bA
  have h1 := smN_lt (c := c) (by omega)
  have h2 := grN_lt (c := c) (by omega)
  have HS := Lib.hid (ref_small_nat c · (by omega))
  have HG := Lib.hid (ref_great_nat c · (by omega))
  generalize smN c = S at h1 HS HV
  generalize grN c = G at h2 HG HV
  unfold cellsQ
  cases f with
  | false =>
    cases e1 : inB s c with
    | _ =>
      rw [e1] at HV
      have E1 := Lib.hid e1
      clear e1
      go_enter Try.func75, Try.ntmps75
      go_wp2
      go_quiet ((go_at_call 91; exact Calls.quiet_of (in_quiet _ _ _ _ _ hs hc E1.out)))
      go_wp2
      go_ret
      exact ⟨by rw [show setOf false (.set s) c = anyPut false (membersF s) c from rfl, HV.out]; rfl, below_dn BA.out _⟩
  | true =>
    cases e1 : inB s c with
    | true =>
      rw [e1] at HV
      have E1 := Lib.hid e1
      clear e1
      go_enter Try.func75, Try.ntmps75
      go_wp2
      go_quiet ((go_at_call 91; exact Calls.quiet_of (in_quiet _ _ _ _ _ hs hc E1.out)))
      go_wp2
      go_ret
      exact ⟨by rw [show setOf true (.set s) c = anyPut true (membersF s) c from rfl, HV.out]; rfl, below_dn BA.out _⟩
    | false =>
      rw [e1] at HV
      have E1 := Lib.hid e1
      clear e1
      cases e2 : inB s S with
      | true =>
        rw [e2] at HV
        have E2 := Lib.hid e2
        have E3 := E2
        clear e2
        go_enter Try.func75, Try.ntmps75
        go_wp2
        go_quiet (((first | (go_at_call 59; exact Calls.quiet_of_same (turned (HS.out _))) | (go_at_call 61; exact Calls.quiet_of_same (turned (HG.out _))) | (go_at_call 91; exact Calls.quiet_of (in_quiet _ _ _ _ _ hs hc E1.out)) | (go_at_call 91; exact Calls.quiet_of (in_quiet _ _ _ _ _ hs (by omega) E2.out)) | (go_at_call 91; exact Calls.quiet_of (in_quiet _ _ _ _ _ hs (by omega) E3.out)))))
        go_wp2
        go_ret
        exact ⟨by rw [show setOf true (.set s) c = anyPut true (membersF s) c from rfl, HV.out]; rfl, below_dn BA.out _⟩
      | false =>
        rw [e2] at HV
        have E2 := Lib.hid e2
        clear e2
        cases e3 : inB s G with
        | _ =>
          rw [e3] at HV
          have E3 := Lib.hid e3
          clear e3
          go_enter Try.func75, Try.ntmps75
          go_wp2
          go_quiet (((first | (go_at_call 59; exact Calls.quiet_of_same (turned (HS.out _))) | (go_at_call 61; exact Calls.quiet_of_same (turned (HG.out _))) | (go_at_call 91; exact Calls.quiet_of (in_quiet _ _ _ _ _ hs hc E1.out)) | (go_at_call 91; exact Calls.quiet_of (in_quiet _ _ _ _ _ hs (by omega) E2.out)) | (go_at_call 91; exact Calls.quiet_of (in_quiet _ _ _ _ _ hs (by omega) E3.out)))))
          go_wp2
          go_ret
          exact ⟨by rw [show setOf true (.set s) c = anyPut true (membersF s) c from rfl, HV.out]; rfl, below_dn BA.out _⟩

set_option maxRecDepth 100000 in
set_option maxHeartbeats 4000000 in
theorem takes_one (x c : Nat) (f : Bool) (w : World) (hc : c < 256) (hx : x < 256) :
    Calls Try.prog 75 #[.agg (cellsQ (.one x)), .int .u8 c, .bool f] w (TakesPost (setOf f (.one x) c) w) := by
  have HV := Lib.hid (put1_low f hx hc)
  have bA : Below w.heap.size w (w.alloc (Obj.cells (cellsQ (.one x)) 86)) := (Below.refl _ _).alloc (Nat.le_refl _) _
  have BA := Lib.hid bA
  clear bA
  have h1 := smN_lt (c := c) (by omega)
  have h2 := smN_lt (c := x) (by omega)
  have HS := Lib.hid (ref_small_nat c · (by omega))
  have HG := Lib.hid (ref_small_nat x · (by omega))
  generalize smN c = S at h1 HS HV
  generalize smN x = G at h2 HG HV
  unfold cellsQ
  by_cases hxc : x = c
  · have hb : ((x : Int) == (c : Int)) = true := by simp [hxc]
    have hb2 : (x == c) = true := by simp [hxc]
    have HB2 := Lib.hid hb2
    cases f with
    | _ =>
      rw [hb2] at HV
      clear hxc hb2
      go_enter Try.func75, Try.ntmps75
      go_wp2
      first
        | go_quiet ((fail))
        | skip
      go_wp2
      go_ret
      first
        | exact ⟨by rw [show setOf _ (.one x) c = put1 _ x c from rfl, HV.out]; rfl, below_dn BA.out _⟩
        | exact ⟨by rw [show setOf _ (.one x) c = put1 _ x c from rfl, HV.out]; rfl, BA.out⟩
  · have hb : ((x : Int) == (c : Int)) = false := by rw [beq_eq_false_iff_ne]; omega
    have hb2 : (x == c) = false := by rw [beq_eq_false_iff_ne]; omega
    rw [hb2] at HV
    clear hxc
    cases f with
    | false =>
      go_enter Try.func75, Try.ntmps75
      go_wp2
      go_ret
      exact ⟨by rw [show setOf _ (.one x) c = put1 _ x c from rfl, HV.out]; rfl, BA.out⟩
    | true =>
      by_cases hGS : G = S
      · have hb3 : ((G : Int) == (S : Int)) = true := by simp [hGS]
        have hb4 : (G == S) = true := by simp [hGS]
        rw [hb4] at HV
        clear hGS
        go_enter Try.func75, Try.ntmps75
        go_wp2_with (first | (go_at_call 59; refine (HS.out _).mono ?_; rintro e w' ⟨rfl, rfl⟩) | (go_at_call 59; refine (HG.out _).mono ?_; rintro e w' ⟨rfl, rfl⟩))
        go_ret
        exact ⟨by rw [show setOf _ (.one x) c = put1 _ x c from rfl, HV.out]; rfl, BA.out⟩
      · have hb3 : ((G : Int) == (S : Int)) = false := by rw [beq_eq_false_iff_ne]; omega
        have hb4 : (G == S) = false := by rw [beq_eq_false_iff_ne]; omega
        rw [hb4] at HV
        clear hGS
        go_enter Try.func75, Try.ntmps75
        go_wp2_with (first | (go_at_call 59; refine (HS.out _).mono ?_; rintro e w' ⟨rfl, rfl⟩) | (go_at_call 59; refine (HG.out _).mono ?_; rintro e w' ⟨rfl, rfl⟩))
        go_ret
        exact ⟨by rw [show setOf _ (.one x) c = put1 _ x c from rfl, HV.out]; rfl, BA.out⟩

set_option maxRecDepth 100000 in
theorem takes_many (c : Nat) (f : Bool) (w : World) : Calls Try.prog 75 #[.agg (cellsQ .many), .int .u8 c, .bool f] w (TakesPost (setOf f .many c) w) := by
  have bA : Below w.heap.size w (w.alloc (Obj.cells (cellsQ .many) 86)) := (Below.refl _ _).alloc (Nat.le_refl _) _
  have BA := Lib.hid bA
  clear bA
  unfold cellsQ
  go_enter Try.func75, Try.ntmps75
  go_wp2
  go_ret
  exact ⟨rfl, BA.out⟩
set_option maxRecDepth 100000 in
theorem takes_anyp (c : Nat) (f : Bool) (w : World) : Calls Try.prog 75 #[.agg (cellsQ .any), .int .u8 c, .bool f] w (TakesPost (setOf f .any c) w) := by
  have bA : Below w.heap.size w (w.alloc (Obj.cells (cellsQ .any) 86)) := (Below.refl _ _).alloc (Nat.le_refl _) _
  have BA := Lib.hid bA
  clear bA
  unfold cellsQ
  go_enter Try.func75, Try.ntmps75
  go_wp2
  go_ret
  exact ⟨rfl, BA.out⟩
set_option maxRecDepth 100000 in
theorem takes_none (c : Nat) (f : Bool) (w : World) : Calls Try.prog 75 #[.agg (cellsQ .none), .int .u8 c, .bool f] w (TakesPost (setOf f .none c) w) := by
  have bA : Below w.heap.size w (w.alloc (Obj.cells (cellsQ .none) 86)) := (Below.refl _ _).alloc (Nat.le_refl _) _
  have BA := Lib.hid bA
  clear bA
  unfold cellsQ
  go_enter Try.func75, Try.ntmps75
  go_wp2
  go_ret
  exact ⟨rfl, BA.out⟩
theorem takes_any (r : RP) (c : Nat) (f : Bool) (w : World) (hc : c < 256) (hr : okR r) : Calls Try.prog 75 #[.agg (cellsQ r), .int .u8 c, .bool f] w (TakesPost (setOf f r c) w) := by
  cases r with
  | many => exact takes_many c f w
  | any => exact takes_anyp c f w
  | none => exact takes_none c f w
  | set s => exact takes_set s c f w hc hr
  | one x => exact takes_one x c f w hc hr
end Go.Proofs.Ytkohpijpipcajaa

namespace Go.Proofs.Ytkohpijpipcajaa
open Go.RowKit
set_option linter.unusedVariables false
set_option linter.unusedSimpArgs false

def cellsM (l : List RP) : List Value := l.flatMap fun r => (cellsQ r).toList
theorem cellsQ_size (r : RP) : (cellsQ r).size = 6 := by cases r <;> rfl
theorem cellsM_length : ∀ l : List RP, (cellsM l).length = 6 * l.length
  | [] => rfl
  | r :: l => by
    have := cellsM_length l
    unfold cellsM at this ⊢
    rw [List.flatMap_cons, List.length_append, this, Array.length_toList, cellsQ_size, List.length_cons]
    omega
theorem cellsM_at : ∀ (l : List RP) (q : Nat) (hq : q < l.length) (j : Nat), j < 6 → (cellsM l)[6 * q + j]? = (cellsQ l[q])[j]?
  | [], q, hq, _, _ => absurd hq (Nat.not_lt_zero q)
  | r :: l, q, hq, j, hj => by
    have e : cellsM (r :: l) = (cellsQ r).toList ++ cellsM l := rfl
    have hz : (cellsQ r).toList.length = 6 := by rw [Array.length_toList, cellsQ_size]
    rw [e]
    cases q with
    | zero => rw [List.getElem?_append_left (by rw [hz]; omega)]; simp
    | succ q =>
      rw [List.getElem?_append_right (by rw [hz]; omega), hz, show 6 * (q + 1) + j - 6 = 6 * q + j by omega]
      exact cellsM_at l q (by simpa using hq) j hj
theorem cellsM_snoc (l : List RP) (r : RP) : cellsM (l ++ [r]) = cellsM l ++ (cellsQ r).toList := by simp [cellsM]
/-- the reference's parts as cells. -/
def QAt (l : List RP) (ao : Option Addr) (W : World) : Prop := ∀ q (hq : q < l.length), ∃ g, ao = some ⟨g, 0, none⟩ ∧ ∀ j, j < 6 → W.cell? ⟨g, 6 * q + j, none⟩ = (cellsQ l[q])[j]?
theorem QAt.below {l : List RP} {ao : Option Addr} {w w' : World} (h : QAt l ao w) (hb : Below w.heap.size w w') : QAt l ao w' := fun q hq => by
  obtain ⟨g, e, h1⟩ := h q hq
  refine ⟨g, e, fun j hj => ?_⟩
  have hs : j < (cellsQ l[q]).size := by rw [cellsQ_size]; exact hj
  have := h1 j hj
  rw [Array.getElem?_eq_getElem hs] at this ⊢
  exact cell_later hb this
theorem own_QAt {W : World} {B : Nat} {v : Value} {L : List RP} (h : W.ownsRow B 86 6 v L.length (cellsM L)) : ∃ ao cap, v = .slice ao L.length cap ∧ QAt L ao W := by
  rcases h.2 with ⟨e, e0⟩ | ⟨g, cap, cur, e, hB, hg, _⟩
  · exact ⟨none, 0, by rw [e, e0], fun q hq => by omega⟩
  · refine ⟨some ⟨g, 0, none⟩, cap, e, fun q hq => ⟨g, rfl, fun j hj => ?_⟩⟩
    subst e
    rw [h.cellAt _ (by omega), cellsM_at L q hq j hj]
theorem cells86 : Try.prog.cellsOf 86 = 6 := by kernel_rfl
theorem info86 : (Try.prog.info? 86).map (fun i => (i.zero.map (fun z => decide (z.cells.size = 6)), i.size, i.bytes)) = some (some true, 6, 32) := by kernel_rfl
/-- where the reference finds the bracket. -/
theorem first_bracket {p : ByteArray} {k : Nat} (h : k < p.size) (e : byteN p k = 91) : firstP p ⟨#[93]⟩ ((k : Int) + 1) = if clo p k < 0 then -1 else (k : Int) + clo p k := by
  have key : ∀ j, j < p.size → (occ p ⟨#[93]⟩ j = true ↔ byteN p j = 93) := fun j hj => by
    have hx := byte_at p hj
    rw [occ_one hj, beq_iff_eq]
    constructor
    · intro e; rw [← e] at hx; have : (93 : UInt8).toNat = 93 := rfl; omega
    · intro e; exact (UInt8.toNat_inj.1 (by have : (93 : UInt8).toNat = 93 := rfl; omega))
  have hp : 0 < (⟨#[93]⟩ : ByteArray).size := by decide
  rcases clo_is h e with ⟨h1, hno⟩ | ⟨d, h1, h2, h3, h4, hno⟩
  · rw [h1, if_pos (by decide)]
    refine isFirst_one (firstP_is p ⟨#[93]⟩ _) (Or.inl ⟨rfl, Or.inr fun i hi => ?_⟩)
    cases hc : occ p ⟨#[93]⟩ i with
    | false => rfl
    | true =>
      have hin := occ_in hc hp
      have hl : i < p.size := by have : (⟨#[93]⟩ : ByteArray).size = 1 := rfl; omega
      exact absurd ((key i hl).1 hc) (hno i (by omega) hl)
  · rw [h1, if_neg (by omega)]
    refine isFirst_one (firstP_is p ⟨#[93]⟩ _) (Or.inr ⟨k + d, by omega, hp, ?_, by omega, (key _ h3).2 h4, fun j hj hxj => ?_⟩)
    · have : (⟨#[93]⟩ : ByteArray).size = 1 := rfl
      omega
    · cases hc : occ p ⟨#[93]⟩ j with
      | false => rfl
      | true => exact absurd ((key j (by omega)).1 hc) (hno j (by omega) (by omega))

def QInv (p : ByteArray) (w : World) (v i : Value) (wr : World) : Prop :=
  ∃ (k n : Nat) (R : List RP), i = .int .i64 k ∧ k ≤ p.size ∧ R.length ≤ k ∧ Hid (p.size - k ≤ n) ∧ Hid (R ++ prs p n k = prsL p) ∧ Hid (wr.ownsRow w.heap.size 86 6 v R.length (cellsM R)) ∧ Hid (Below w.heap.size w wr)
def RPartsPost (p : ByteArray) (w : World) (e : Ending) (w' : World) : Prop := ∃ ao cap, e = .returned (.slice ao (prsL p).length cap) ∧ QAt (prsL p) ao w' ∧ Below w.heap.size w w'

theorem wpList_appQ {ops : Array Oper} {rest : List Oper} {o : Oper} {a : Act} {Q : Exit → Act → World → Prop} (hgd : o.guard = none) (s x : Operand)
    (ho : o.op = .call { callee := .builtin .append, args := #[s, x], argTypes := #[82, 82] }) (β : Nat) (V : World) (r : RP)
    (v : Value) (n : Nat) (xs : List Value) (hs : a.eval s = v) (hx : a.eval x = .slice (some ⟨V.heap.size, 0, none⟩) 1 1) (hown : V.ownsRow β 86 6 v n xs) (hβ : β ≤ V.heap.size) (hn : n ≤ 200)
    (h : ∀ g c w', Hid (Below β V w') → Hid (w'.ownsRow β 86 6 (.slice (some ⟨g, 0, none⟩) (n + 1) c) (n + 1) (xs ++ (cellsQ r).toList)) → wpList Try.prog ops Q rest (a.put o.dst (.slice (some ⟨g, 0, none⟩) (n + 1) c)) w') :
    wpList Try.prog ops Q (o :: rest) a (V.alloc (Obj.cells (cellsQ r) 86)) := by
  obtain ⟨i0, hi, hinf⟩ := Option.map_eq_some_iff.1 info86
  simp only [Prod.mk.injEq] at hinf
  obtain ⟨hz0, hz1, hz2⟩ := hinf
  obtain ⟨z, hz, hzc⟩ := Option.map_eq_some_iff.1 hz0
  have hzc' : z.cells.size = 6 := by simpa using hzc
  have hx0 : (V.alloc (Obj.cells (cellsQ r) 86)).heap[V.heap.size]? = some (.cells (cellsQ r) 86 (0, 0)) := heap_alloc_new V _
  refine wpList_append_own _ hgd s x 82 ho β 86 i0 z 6 32 Try.underlying82 hi hz hz1 hz2 hzc' (by decide) _ _ _ hs (hown.alloc _) ⟨V.heap.size, 0, none⟩ 1 1 (cellsQ r).toList hx (by simp [cellsQ_size]) ?c1 ?c2 (by unfold maxLen; omega) (by omega) (by simp; omega) ?_
  case c1 =>
    intro j u hj
    have hadd : (⟨V.heap.size, 0, none⟩ : Addr).add j = ⟨V.heap.size, j, none⟩ := by unfold Addr.add; split <;> simp_all
    rw [hadd, cell_of_row _ _ _ _ _ _ hx0]
    simpa using hj
  case c2 =>
    intro u hu
    cases r <;> simp [cellsQ] at hu <;> (try (rcases hu with rfl | rfl | rfl | rfl | rfl | rfl)) <;> (try (rcases hu with rfl | rfl | rfl | rfl | rfl)) <;> (try (rcases hu with rfl | rfl | rfl | rfl)) <;> (try (rcases hu with rfl | rfl | rfl)) <;> (try (rcases hu with rfl | rfl)) <;> (try subst hu) <;> rfl
  intro v' w' hown' hg _
  have hb : Below β V w' := ((Below.refl β V).alloc hβ _).grown hg (by simp; omega) (fun k e => (hown.lt k e).1)
  obtain ⟨g, c, rfl⟩ : ∃ g c, v' = .slice (some ⟨g, 0, none⟩) (n + 1) c := by
    rcases hown'.2 with ⟨_, h0⟩ | ⟨g, cap, cur, hv, _⟩
    · omega
    · exact ⟨g, cap, hv⟩
  exact h g c w' (Lib.hid hb) (Lib.hid hown')

/-- a round's end: one part more. -/
theorem qinv_next {p : ByteArray} {w wr W1 : World} {k n n' st : Nat} {R : List RP} {r : RP} {v i : Value} (hR : R.length ≤ k) (hst : 1 ≤ st) (hk : k + st ≤ p.size) (hp : R ++ prs p n k = prsL p) (hs : prs p n k = r :: prs p n' (k + st)) (hn : p.size - (k + st) ≤ n')
    (hi : i = .int .i64 ((k + st : Nat) : Int)) (hown : W1.ownsRow w.heap.size 86 6 v (R.length + 1) (cellsM R ++ (cellsQ r).toList)) (hb : Below w.heap.size w wr) (hb1 : Below w.heap.size wr W1) : QInv p w v i W1 := by
  refine ⟨k + st, n', R ++ [r], hi, hk, by simp; omega, Lib.hid hn, Lib.hid (by rw [← hp, hs]; simp), Lib.hid ?_, Lib.hid (hb.trans hb1)⟩
  rw [List.length_append, cellsM_snoc]
  exact hown

set_option maxRecDepth 1000000 in
set_option maxHeartbeats 8000000 in
theorem ref_parts_any (p : ByteArray) (w : World) (hp : p.size ≤ 200) : Calls Try.prog 74 #[.string p] w (RPartsPost p w) := by
  have hst : QInv p w (.slice none 0 0) (.int .i64 0) w := ⟨0, p.size, [], rfl, Nat.zero_le _, Nat.le_refl _, Lib.hid (Nat.le_refl _), Lib.hid rfl, Lib.hid (World.ownsRow_nil _ _ _ _), Lib.hid (Below.refl _ _)⟩
  go_enter Try.func74, Try.ntmps74
  go_wp2
  go_loopw [3, 4] (fun v i wr => QInv p w v i wr) (fun _ i _ => p.size - (intOf i).toNat)
  case atStart => exact hst
  case round =>
    obtain ⟨k, n, R, rfl, hk, hR, HN, HP, HO, HB⟩ := hrel
    clear hst
    by_cases hlt : k < p.size
    · obtain ⟨n', rfl, hn'⟩ := prs_succ HN.out hlt
      have hx := byte_at p hlt
      have hX := byteN_lt p k
      have hRl : R.length ≤ 199 := by omega
      have HN2 := Lib.hid hn'
      by_cases h42 : byteN p k = 42
      · have hx' : ((p[k]'hlt).toNat : Int) = 42 := by rw [hx, h42]; rfl
        have HPS := Lib.hid (prs_many (n := n') hlt h42)
        clear hx hX h42 hn'
        have HK : Hid (k + 1 ≤ p.size) := Lib.hid hlt
        go_wp2_with (at_builtin; refine wpList_appQ rfl _ _ rfl w.heap.size wr (.many) u3 R.length (cellsM R) rfl rfl HO.out HB.out.size (by omega) ?_; intro g0 c0 W1 HB1 HO1)
        refine ⟨?_, ?measure⟩
        case measure => simp [intOf]; omega
        first | exact qinv_next (wr := wr) hR (by decide) HK.out HP.out HPS.out HN2.out (by go_num) HO1.out HB.out HB1.out | ((repeat apply Exists.intro); refine ⟨qinv_next (wr := wr) hR (by decide) HK.out HP.out HPS.out HN2.out (by go_num) HO1.out HB.out HB1.out, rfl⟩)
      · by_cases h63 : byteN p k = 63
        · have hx' : ((p[k]'hlt).toNat : Int) = 63 := by rw [hx, h63]; rfl
          have HPS := Lib.hid (prs_any (n := n') hlt h63)
          clear hx hX h42 h63 hn'
          have HK : Hid (k + 1 ≤ p.size) := Lib.hid hlt
          go_wp2_with (at_builtin; refine wpList_appQ rfl _ _ rfl w.heap.size wr (.any) u3 R.length (cellsM R) rfl rfl HO.out HB.out.size (by omega) ?_; intro g0 c0 W1 HB1 HO1)
          refine ⟨?_, ?measure⟩
          case measure => simp [intOf]; omega
          first | exact qinv_next (wr := wr) hR (by decide) HK.out HP.out HPS.out HN2.out (by go_num) HO1.out HB.out HB1.out | ((repeat apply Exists.intro); refine ⟨qinv_next (wr := wr) hR (by decide) HK.out HP.out HPS.out HN2.out (by go_num) HO1.out HB.out HB1.out, rfl⟩)
        · by_cases h91 : byteN p k = 91
          · have hx' : ((p[k]'hlt).toNat : Int) = 91 := by rw [hx, h91]; rfl
            have hfb := first_bracket hlt h91
            rcases clo_is hlt h91 with ⟨hc1, _⟩ | ⟨d, hc1, hd1, hd2, _, _⟩
            · have HPS := Lib.hid (prs_none (n := n') hlt h91 (by rw [hc1]; decide))
              rw [hc1, if_pos (by decide)] at hfb
              have HF : Hid (∀ W : World, Calls Try.prog 16 #[.string ⟨#[93]⟩, .string p, .int .i64 ((k : Int) + 1)] W fun e w' => e = .returned (.int .i64 (-1)) ∧ W = w') := Lib.hid fun W => by
                have := ref_first_val p ⟨#[93]⟩ ((k : Int) + 1) W (by omega) (by decide) (by omega) (by omega)
                rw [hfb] at this; exact this
              clear hx hX h42 h63 h91 hc1 hfb hn'
              go_wp2_with (first | (go_at_call 16; refine (HF.out _).mono ?_; rintro e w' ⟨rfl, rfl⟩) | (at_builtin; refine wpList_appQ rfl _ _ rfl w.heap.size wr (.none) u3 R.length (cellsM R) rfl rfl HO.out HB.out.size (by omega) ?_; intro g0 c0 W1 HB1 HO1))
              go_ret
              have hE : R ++ [RP.none] = prsL p := by rw [← HP.out, HPS.out]
              have ho := HO1.out
              rw [← cellsM_snoc, show R.length + 1 = (R ++ [RP.none]).length by simp] at ho
              obtain ⟨ao, cap, hv, hq⟩ := own_QAt ho
              rw [hE] at hv hq
              exact ⟨ao, cap, by rw [← hv, ← hE]; simp, hq, HB.out.trans HB1.out⟩
            · have HPS := Lib.hid (prs_set (n := n') hlt h91 hc1)
              rw [hc1, if_neg (by omega)] at hfb
              have HF : Hid (∀ W : World, Calls Try.prog 16 #[.string ⟨#[93]⟩, .string p, .int .i64 ((k : Int) + 1)] W fun e w' => e = .returned (.int .i64 ((k + d : Nat) : Int)) ∧ W = w') := Lib.hid fun W => by
                have := ref_first_val p ⟨#[93]⟩ ((k : Int) + 1) W (by omega) (by decide) (by omega) (by omega)
                rw [hfb, show (k : Int) + d = ((k + d : Nat) : Int) by omega] at this; exact this
              obtain ⟨E, hE⟩ : ∃ E, E = k + d := ⟨_, rfl⟩
              rw [← hE] at HF HPS
              have t1 : ((k : Int) + 1).toNat = k + 1 := by omega
              have t4 : (E : Int) ≤ (p.size : Int) := by omega
              have hsl : ∀ W : World, (Instr.slice 9 (Value.string p) (some (Value.int .i64 ((k : Int) + 1))) (some (Value.int .i64 (E : Int))) none).run Try.prog W = .ok (.string (p.extract (k + 1) E)) W := fun W => by
                rw [run_slice_string W 9 p .i64 .i64 _ _ Try.underlying9 (by omega) (by omega) (by omega), t1]
                rfl
              have t3 : (k : Int) + 1 ≤ (E : Int) := by omega
              have HK3 : Hid (k + (d + 1) ≤ p.size) := Lib.hid (by omega)
              have HN3 : Hid (p.size - (k + (d + 1)) ≤ n') := Lib.hid (by omega)
              have HI3 : Hid (Value.int .i64 ((E : Int) + 1) = Value.int .i64 ((k + (d + 1) : Nat) : Int)) := Lib.hid (by rw [show ((E : Int) + 1) = ((k + (d + 1) : Nat) : Int) by omega])
              have HPS2 : Hid (prs p (n' + 1) k = .set (p.extract (k + 1) E) :: prs p n' (k + (d + 1))) := Lib.hid (by rw [HPS.out, hE]; rfl)
              have hEk : k < E := by omega
              have hEp : E < p.size := by omega
              clear hx hX h42 h63 h91 hc1 hfb hn' HPS hE
              go_wp2_with (first | (go_at_call 16; refine (HF.out _).mono ?_; rintro e w' ⟨rfl, rfl⟩) | (at_builtin; refine wpList_appQ rfl _ _ rfl w.heap.size wr (.set (p.extract (k + 1) E)) u3 R.length (cellsM R) rfl rfl HO.out HB.out.size (by omega) ?_; intro g0 c0 W1 HB1 HO1))
              refine ⟨?_, ?measure⟩
              case measure => simp [intOf]; omega
              first | exact qinv_next (wr := wr) hR (Nat.succ_pos d) HK3.out HP.out HPS2.out HN3.out (HI3.out) HO1.out HB.out HB1.out | ((repeat apply Exists.intro); refine ⟨qinv_next (wr := wr) hR (Nat.succ_pos d) HK3.out HP.out HPS2.out HN3.out (HI3.out) HO1.out HB.out HB1.out, rfl⟩)
          · by_cases h92 : byteN p k = 92
            · have hx' : ((p[k]'hlt).toNat : Int) = 92 := by rw [hx, h92]; rfl
              by_cases hk1 : k + 1 < p.size
              · have HPS := Lib.hid (prs_esc (n := n') hk1 h92)
                have hx1 := byte_at p hk1
                have hX1 := byteN_lt p (k + 1)
                have q1 : (k : Int) + 1 < (p.size : Int) := by omega
                have q2 : ((k : Int) + 1).toNat = k + 1 := by omega
                generalize byteN p (k + 1) = C at hx1 hX1 HPS
                have HK3 : Hid (k + 2 ≤ p.size) := Lib.hid (by omega)
                have HN3 : Hid (p.size - (k + 2) ≤ n') := Lib.hid (by omega)
                have HI3 : Hid (Value.int .i64 ((k : Int) + 1 + 1) = Value.int .i64 ((k + 2 : Nat) : Int)) := Lib.hid (by rw [show ((k : Int) + 1 + 1) = ((k + 2 : Nat) : Int) by omega])
                clear hx hX h42 h63 h91 h92 hn'
                go_wp2_with (at_builtin; refine wpList_appQ rfl _ _ rfl w.heap.size wr (.one C) u3 R.length (cellsM R) rfl rfl HO.out HB.out.size (by omega) ?_; intro g0 c0 W1 HB1 HO1)
                refine ⟨?_, ?measure⟩
                case measure => simp [intOf]; omega
                first | exact qinv_next (wr := wr) hR (by decide) HK3.out HP.out HPS.out HN3.out (HI3.out) HO1.out HB.out HB1.out | ((repeat apply Exists.intro); refine ⟨qinv_next (wr := wr) hR (by decide) HK3.out HP.out HPS.out HN3.out (HI3.out) HO1.out HB.out HB1.out, rfl⟩)
              · have HPS := Lib.hid (prs_one (n := n') hlt h42 h63 h91 (fun h => hk1 h.2))
                have hkp' : (p.size : Int) ≤ (k : Int) + 1 := by omega
                rw [h92] at HPS
                have HK : Hid (k + 1 ≤ p.size) := Lib.hid hlt
                clear hx hX h42 h63 h91 h92 hn' hk1
                go_wp2_with (at_builtin; refine wpList_appQ rfl _ _ rfl w.heap.size wr (.one 92) u3 R.length (cellsM R) rfl rfl HO.out HB.out.size (by omega) ?_; intro g0 c0 W1 HB1 HO1)
                refine ⟨?_, ?measure⟩
                case measure => simp [intOf]; omega
                first | exact qinv_next (wr := wr) hR (by decide) HK.out HP.out HPS.out HN2.out (by go_num) HO1.out HB.out HB1.out | ((repeat apply Exists.intro); refine ⟨qinv_next (wr := wr) hR (by decide) HK.out HP.out HPS.out HN2.out (by go_num) HO1.out HB.out HB1.out, rfl⟩)
            · have HPS := Lib.hid (prs_one (n := n') hlt h42 h63 h91 (fun h => h92 h.1))
              have hd1 : (((byteN p k : Nat) : Int) == 42) = false := by rw [beq_eq_false_iff_ne]; omega
              have hd2 : (((byteN p k : Nat) : Int) == 63) = false := by rw [beq_eq_false_iff_ne]; omega
              have hd3 : (((byteN p k : Nat) : Int) == 91) = false := by rw [beq_eq_false_iff_ne]; omega
              have hd4 : (((byteN p k : Nat) : Int) == 92) = false := by rw [beq_eq_false_iff_ne]; omega
              have HK : Hid (k + 1 ≤ p.size) := Lib.hid hlt
              generalize byteN p k = C at hx hX HPS hd1 hd2 hd3 hd4
              clear h42 h63 h91 h92 hn'
              go_wp2_with (at_builtin; refine wpList_appQ rfl _ _ rfl w.heap.size wr (.one C) u3 R.length (cellsM R) rfl rfl HO.out HB.out.size (by omega) ?_; intro g0 c0 W1 HB1 HO1)
              refine ⟨?_, ?measure⟩
              case measure => simp [intOf]; omega
              first | exact qinv_next (wr := wr) hR (by decide) HK.out HP.out HPS.out HN2.out (by go_num) HO1.out HB.out HB1.out | ((repeat apply Exists.intro); refine ⟨qinv_next (wr := wr) hR (by decide) HK.out HP.out HPS.out HN2.out (by go_num) HO1.out HB.out HB1.out, rfl⟩)
    · have HE : Hid (R = prsL p) := Lib.hid (by have := HP.out; rw [prs_stop (by omega), List.append_nil] at this; exact this)
      go_wp2
      go_ret
      obtain ⟨ao, cap, hv, hq⟩ := own_QAt HO.out
      rw [HE.out] at hv hq
      exact ⟨ao, cap, by rw [← hv]; rfl, hq, HB.out⟩
theorem prs_ok (p : ByteArray) : ∀ n i, p.size ≤ 1000 → ∀ r ∈ prs p n i, okR r
  | 0, i, _ => fun r h => by cases h
  | n + 1, i, hp => by
    have h1 := prs_ok p n (i + 1) hp
    have h2 := prs_ok p n (i + 2) hp
    have h3 := prs_ok p n (i + (clo p i).toNat + 1) hp
    rw [prs]
    repeat' split
    all_goals intro r hr
    all_goals first | (cases hr; done) | skip
    all_goals rcases List.mem_cons.1 hr with rfl | hr
    all_goals first | exact trivial | exact h1 r hr | exact h2 r hr | exact h3 r hr | exact byteN_lt _ _ | (cases hr; done) | (show (p.extract _ _).size ≤ 1000; rw [ByteArray.size_extract]; omega)
end Go.Proofs.Ytkohpijpipcajaa
