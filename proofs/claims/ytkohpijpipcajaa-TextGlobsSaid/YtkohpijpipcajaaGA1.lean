import Derived.Test.YtkohpijpipcajaaE2
import Derived.Test.YtkohpijpipcajaaY1
namespace Go.Proofs.Ytkohpijpipcajaa
open Go.RowKit Go.Shelf
set_option linter.unusedVariables false
set_option linter.unusedSimpArgs false
attribute [local go_sem] Oper.semAt_some

def hiB (s : ByteArray) (i : Nat) : Nat := if i + 2 < s.size ∧ byteN s (i + 1) = 45 then byteN s (i + 2) else byteN s i
def stepB (s : ByteArray) (i : Nat) : Nat := if i + 2 < s.size ∧ byteN s (i + 1) = 45 then 3 else 1
def spanF (a b : Nat) : List (Fin 256) := (List.range (max a b - min a b + 1)).map fun d => Fin.ofNat 256 (min a b + d)
/-- the bytes of a set, from an index on. -/
def memF (s : ByteArray) : Nat → Nat → List (Fin 256)
  | 0, _ => []
  | n + 1, i => if i < s.size then spanF (byteN s i) (hiB s i) ++ memF s n (i + stepB s i) else []
def membersF (s : ByteArray) : List (Fin 256) := memF s s.size 0

/-- the bytes from one to another. -/
def spanG (a b : Nat) : List (Fin 256) := (List.range (b - a + 1)).map fun d => Fin.ofNat 256 (a + d)
theorem spanF_le {a b : Nat} (h : a ≤ b) : spanF a b = spanG a b := by
  unfold spanF spanG; rw [Nat.max_eq_right h, Nat.min_eq_left h]
theorem spanF_ge {a b : Nat} (h : b ≤ a) : spanF a b = spanG b a := by
  unfold spanF spanG; rw [Nat.max_eq_left h, Nat.min_eq_right h]
theorem spanG_length (a b : Nat) : (spanG a b).length = b - a + 1 := by simp [spanG]
theorem spanG_snoc {a b d : Nat} (h : d < b - a + 1) : (spanG a b).take (d + 1) = (spanG a b).take d ++ [Fin.ofNat 256 (a + d)] := by
  rw [List.take_succ_eq_append_getElem (by rw [spanG_length]; exact h)]
  simp [spanG]
theorem encB_of {x : Nat} (h : x < 256) : encB (Fin.ofNat 256 x) = #[.int .u8 ((x : Nat) : Int)] := by
  show #[Value.int .u8 (((x % 256 : Nat)) : Int)] = _
  rw [Nat.mod_eq_of_lt h]
theorem memF_stop {s : ByteArray} {n i : Nat} (h : s.size ≤ i) : memF s n i = [] := by
  cases n with
  | zero => rfl
  | succ n => rw [memF, if_neg (by omega)]
theorem memF_step {s : ByteArray} {n i : Nat} (h : i < s.size) (hn : s.size - i ≤ n) : ∃ n', s.size - (i + stepB s i) ≤ n' ∧ memF s n i = spanF (byteN s i) (hiB s i) ++ memF s n' (i + stepB s i) := by
  cases n with
  | zero => omega
  | succ n =>
    have : 1 ≤ stepB s i := by unfold stepB; split <;> omega
    exact ⟨n, by omega, by rw [memF, if_pos h]⟩
theorem hiB_yes {s : ByteArray} {i : Nat} (h : i + 2 < s.size) (h2 : byteN s (i + 1) = 45) : hiB s i = byteN s (i + 2) ∧ stepB s i = 3 := by
  unfold hiB stepB; rw [if_pos ⟨h, h2⟩, if_pos ⟨h, h2⟩]; exact ⟨rfl, rfl⟩
theorem hiB_no {s : ByteArray} {i : Nat} (h : ¬ (i + 2 < s.size ∧ byteN s (i + 1) = 45)) : hiB s i = byteN s i ∧ stepB s i = 1 := by
  unfold hiB stepB; rw [if_neg h, if_neg h]; exact ⟨rfl, rfl⟩
theorem byte_at (s : ByteArray) {k : Nat} (h : k < s.size) : ((s[k]).toNat : Int) = (byteN s k : Nat) := by rw [byte_num s h, byteN_int]

abbrev KpB (Bs : Nat) : World → World → Prop := fun A B => B.heap[Bs]? = A.heap[Bs]?

set_option maxRecDepth 100000 in
set_option maxHeartbeats 4000000 in
theorem members_gen (n : Nat) (hn : 1 ≤ n) (Bs : Nat) (s : ByteArray) (w : World) (hB : Bs < w.heap.size) (hs : s.size ≤ 1000)
    (hcell : w.cell? ⟨Bs, 0, none⟩ = some (.string s)) :
    SeqStopsK Fence.wide n Try.prog 104 #[.pointer (some ⟨Bs, 0, none⟩)] encB (KpB Bs) (fun xs => xs = membersF s) (fun _ => True) (membersF s).length w := fun l J Jx W hW hJ hJx hY h0 => by
  have g0 := Lib.hid ((hW.cell (p := ⟨Bs, 0, none⟩) hB).trans hcell)
  have hM : Hid ([] ++ memF s s.size 0 = membersF s) := Lib.hid rfl
  refine callsIn_of_wp Try.func104 rfl trivial ?_ rfl
  simp only [Try.ntmps104, List.size_toArray, List.length_cons, List.length_nil, Nat.reduceAdd, Nat.reduceSub, Array.replicate_succ, Array.replicate_zero, List.push_toArray, List.append_toArray, List.nil_append, List.cons_append]
  clear hcell
  gi_wp2
  gi_loopw [3] (fun i wr => ∃ (k m : Nat) (pre : List (Fin 256)), i = .int .i64 k ∧ k ≤ s.size ∧ Hid (s.size - k ≤ m) ∧ Hid (pre ++ memF s m k = membersF s) ∧ Hid (J pre wr) ∧ wr.cell? ⟨Bs, 0, none⟩ = some (.string s)) (fun i _ => s.size - (intOf i).toNat)
  case atStart => exact ⟨0, s.size, [], rfl, Nat.zero_le _, Lib.hid (Nat.le_refl _), hM, Lib.hid h0, g0.out⟩
  case round =>
    obtain ⟨k, m, pre, rfl, hk, hm, hpre, hj, hc⟩ := hrel
    by_cases hlt : k < s.size
    · have hx := byte_at s hlt
      have hX := byteN_lt s k
      obtain ⟨m', hm', hstep⟩ := memF_step hlt hm.out
      generalize hXe : byteN s k = X at hx hX hstep
      have r0 : (k : Int) < (s.size : Int) := by omega
      have HJQ : Hid (∀ nq, J pre (wr.drewN nq)) := Lib.hid fun nq => hJ pre wr _ none hj.out ⟨rfl, rfl, rfl, Nat.le_refl _, fun _ _ _ => rfl⟩ (fun r e => by cases e)
      by_cases h2 : k + 2 < s.size
      · have r2 : (k : Int) + 2 < (s.size : Int) := by omega
        have t1 : ((k : Int) + 1).toNat = k + 1 := by omega
        have t2 : ((k : Int) + 2).toNat = k + 2 := by omega
        have hx1 := byte_at s (show k + 1 < s.size by omega)
        have hx2 := byte_at s h2
        have hZ := byteN_lt s (k + 2)
        by_cases h45 : byteN s (k + 1) = 45
        · obtain ⟨hs1, hs2⟩ := hiB_yes h2 h45
          rw [hs1, hs2] at hstep
          rw [hs2] at hm'
          have HM' := Lib.hid hm'
          replace hx1 : ((s[k + 1]).toNat : Int) = 45 := by rw [hx1, h45]; rfl
          generalize byteN s (k + 2) = Z at hx2 hZ hstep
          by_cases hXZ : X ≤ Z
          · have hXd : decide (Z < X) = false := by simpa using hXZ
            have HSP : Hid (pre ++ (spanG X Z ++ memF s m' (k + 3)) = membersF s) := Lib.hid (by rw [← spanF_le hXZ, ← hstep]; exact hpre.out)
            clear hs1 hs2 hstep hm' h45 hXe
            gi_wp2
            gi_quiet (fail)
            all_goals gi_wp2
            have hj1 : Hid (J pre (wr.drewN nq)) := Lib.hid (HJQ.out nq)
            have hc1 : (wr.drewN nq).cell? ⟨Bs, 0, none⟩ = some (.string s) := hc
            gi_loopw [6] (fun c wr2 => ∃ d : Nat, c = .int .i64 ((X + d : Nat) : Int) ∧ X + d ≤ Z + 1 ∧ Hid (J (pre ++ (spanG X Z).take d) wr2) ∧ wr2.cell? ⟨Bs, 0, none⟩ = some (.string s)) (fun c _ => Z + 1 - (intOf c).toNat)
            case atStart => exact ⟨0, rfl, by omega, Lib.hid (by simpa using hj1.out), hc1⟩
            case round =>
              obtain ⟨d, rfl, hd, hjd, hcd⟩ := hrel
              by_cases hle : X + d ≤ Z
              · obtain ⟨f0, t0, a0, b0, hy0, hR0⟩ := hY (pre ++ (spanG X Z).take d) (Fin.ofNat 256 (X + d)) wr hjd.out (by
                  have := congrArg List.length HSP.out
                  rw [List.length_append, List.length_append, spanG_length] at this
                  rw [List.length_append, List.length_take, spanG_length]; omega)
                rw [encB_of (by omega)] at hy0
                obtain ⟨c, hcv⟩ : ∃ c, c = X + d := ⟨_, rfl⟩
                rw [← hcv] at hy0 hle hd ⊢
                have HCV := Lib.hid hcv
                clear hcv
                have hc255 : c ≤ 255 := by omega
                gi_wp2
                refine hR0.mono ?_
                rintro e W0 (⟨rfl, hJ0, hk0⟩ | ⟨rfl, hx0⟩)
                rotate_left
                · gi_wp2
                  refine bodyPost_ret (results_none rfl _ _ _) rfl ?_
                  exact ⟨⟨_, rfl⟩, .inr ⟨_, trivial, hx0⟩⟩
                have HJ0 := Lib.hid hJ0
                have hc0 : W0.cell? ⟨Bs, 0, none⟩ = some (.string s) := (World.cell?_of_block (a := ⟨Bs, 0, none⟩) hk0).trans hcd
                clear hy0 hR0 hJ0 hk0
                gi_wp2
                go_roundw
                case rel => exact ⟨d + 1, by rw [show X + (d + 1) = c + 1 by have := HCV.out; omega]; go_num, by have := HCV.out; omega, Lib.hid (by rw [spanG_snoc (by have := HCV.out; omega), ← List.append_assoc]; exact HJ0.out), hc0⟩
                case measure => simp [intOf]; omega
              · have HJE : Hid (J (pre ++ spanG X Z) wr) := Lib.hid (by
                  have := hjd.out
                  rw [List.take_of_length_le (by rw [spanG_length]; omega)] at this
                  exact this)
                have hgt : Z < X + d := by omega
                obtain ⟨c, hcv⟩ : ∃ c, c = X + d := ⟨_, rfl⟩
                rw [← hcv] at hgt hle ⊢
                clear hd hcv
                gi_wp2
                go_roundw
                case rel => exact ⟨k + 3, m', pre ++ spanG X Z, by go_num, by omega, HM', Lib.hid (by rw [List.append_assoc]; exact HSP.out), HJE, hcd⟩
                case measure => simp [intOf]; omega
          · have hXd : decide (Z < X) = true := by simp; omega
            have HSP : Hid (pre ++ (spanG Z X ++ memF s m' (k + 3)) = membersF s) := Lib.hid (by rw [← spanF_ge (by omega), ← hstep]; exact hpre.out)
            clear hs1 hs2 hstep hm' h45 hXe
            gi_wp2
            gi_quiet (fail)
            all_goals gi_wp2
            have hj1 : Hid (J pre (wr.drewN nq)) := Lib.hid (HJQ.out nq)
            have hc1 : (wr.drewN nq).cell? ⟨Bs, 0, none⟩ = some (.string s) := hc
            gi_loopw [6] (fun c wr2 => ∃ d : Nat, c = .int .i64 ((Z + d : Nat) : Int) ∧ Z + d ≤ X + 1 ∧ Hid (J (pre ++ (spanG Z X).take d) wr2) ∧ wr2.cell? ⟨Bs, 0, none⟩ = some (.string s)) (fun c _ => X + 1 - (intOf c).toNat)
            case atStart => exact ⟨0, rfl, by omega, Lib.hid (by simpa using hj1.out), hc1⟩
            case round =>
              obtain ⟨d, rfl, hd, hjd, hcd⟩ := hrel
              by_cases hle : Z + d ≤ X
              · obtain ⟨f0, t0, a0, b0, hy0, hR0⟩ := hY (pre ++ (spanG Z X).take d) (Fin.ofNat 256 (Z + d)) wr hjd.out (by
                  have := congrArg List.length HSP.out
                  rw [List.length_append, List.length_append, spanG_length] at this
                  rw [List.length_append, List.length_take, spanG_length]; omega)
                rw [encB_of (by omega)] at hy0
                obtain ⟨c, hcv⟩ : ∃ c, c = Z + d := ⟨_, rfl⟩
                rw [← hcv] at hy0 hle hd ⊢
                have HCV := Lib.hid hcv
                clear hcv
                have hc255 : c ≤ 255 := by omega
                gi_wp2
                refine hR0.mono ?_
                rintro e W0 (⟨rfl, hJ0, hk0⟩ | ⟨rfl, hx0⟩)
                rotate_left
                · gi_wp2
                  refine bodyPost_ret (results_none rfl _ _ _) rfl ?_
                  exact ⟨⟨_, rfl⟩, .inr ⟨_, trivial, hx0⟩⟩
                have HJ0 := Lib.hid hJ0
                have hc0 : W0.cell? ⟨Bs, 0, none⟩ = some (.string s) := (World.cell?_of_block (a := ⟨Bs, 0, none⟩) hk0).trans hcd
                clear hy0 hR0 hJ0 hk0
                gi_wp2
                go_roundw
                case rel => exact ⟨d + 1, by rw [show Z + (d + 1) = c + 1 by have := HCV.out; omega]; go_num, by have := HCV.out; omega, Lib.hid (by rw [spanG_snoc (by have := HCV.out; omega), ← List.append_assoc]; exact HJ0.out), hc0⟩
                case measure => simp [intOf]; omega
              · have HJE : Hid (J (pre ++ spanG Z X) wr) := Lib.hid (by
                  have := hjd.out
                  rw [List.take_of_length_le (by rw [spanG_length]; omega)] at this
                  exact this)
                have hgt : X < Z + d := by omega
                obtain ⟨c, hcv⟩ : ∃ c, c = Z + d := ⟨_, rfl⟩
                rw [← hcv] at hgt hle ⊢
                clear hd hcv
                gi_wp2
                go_roundw
                case rel => exact ⟨k + 3, m', pre ++ spanG Z X, by go_num, by omega, HM', Lib.hid (by rw [List.append_assoc]; exact HSP.out), HJE, hcd⟩
                case measure => simp [intOf]; omega
        · obtain ⟨hs1, hs2⟩ := hiB_no (s := s) (i := k) (fun h => h45 h.2)
          rw [hs1, hs2, hXe] at hstep
          rw [hs2] at hm'
          have HM' := Lib.hid hm'
          have HSP : Hid (pre ++ (spanG X X ++ memF s m' (k + 1)) = membersF s) := Lib.hid (by rw [← spanF_le (Nat.le_refl _), ← hstep]; exact hpre.out)
          generalize byteN s (k + 1) = Y at hx1 h45
          have hb : ((Y : Int) == 45) = false := by rw [beq_eq_false_iff_ne]; omega
          clear hs1 hs2 hstep hm' h45 hXe hx2 hZ
          gi_wp2
          gi_quiet (fail)
          all_goals gi_wp2
          have hj1 : Hid (J pre (wr.drewN nq)) := Lib.hid (HJQ.out nq)
          have hc1 : (wr.drewN nq).cell? ⟨Bs, 0, none⟩ = some (.string s) := hc
          gi_loopw [6] (fun c wr2 => ∃ d : Nat, c = .int .i64 ((X + d : Nat) : Int) ∧ X + d ≤ X + 1 ∧ Hid (J (pre ++ (spanG X X).take d) wr2) ∧ wr2.cell? ⟨Bs, 0, none⟩ = some (.string s)) (fun c _ => X + 1 - (intOf c).toNat)
          case atStart => exact ⟨0, rfl, by omega, Lib.hid (by simpa using hj1.out), hc1⟩
          case round =>
            obtain ⟨d, rfl, hd, hjd, hcd⟩ := hrel
            by_cases hle : X + d ≤ X
            · obtain ⟨f0, t0, a0, b0, hy0, hR0⟩ := hY (pre ++ (spanG X X).take d) (Fin.ofNat 256 (X + d)) wr hjd.out (by
                have := congrArg List.length HSP.out
                rw [List.length_append, List.length_append, spanG_length] at this
                rw [List.length_append, List.length_take, spanG_length]; omega)
              rw [encB_of (by omega)] at hy0
              obtain ⟨c, hcv⟩ : ∃ c, c = X + d := ⟨_, rfl⟩
              rw [← hcv] at hy0 hle hd ⊢
              have HCV := Lib.hid hcv
              clear hcv
              have hc255 : c ≤ 255 := by omega
              gi_wp2
              refine hR0.mono ?_
              rintro e W0 (⟨rfl, hJ0, hk0⟩ | ⟨rfl, hx0⟩)
              rotate_left
              · gi_wp2
                refine bodyPost_ret (results_none rfl _ _ _) rfl ?_
                exact ⟨⟨_, rfl⟩, .inr ⟨_, trivial, hx0⟩⟩
              have HJ0 := Lib.hid hJ0
              have hc0 : W0.cell? ⟨Bs, 0, none⟩ = some (.string s) := (World.cell?_of_block (a := ⟨Bs, 0, none⟩) hk0).trans hcd
              clear hy0 hR0 hJ0 hk0
              gi_wp2
              go_roundw
              case rel => exact ⟨d + 1, by rw [show X + (d + 1) = c + 1 by have := HCV.out; omega]; go_num, by have := HCV.out; omega, Lib.hid (by rw [spanG_snoc (by have := HCV.out; omega), ← List.append_assoc]; exact HJ0.out), hc0⟩
              case measure => simp [intOf]; omega
            · have HJE : Hid (J (pre ++ spanG X X) wr) := Lib.hid (by
                have := hjd.out
                rw [List.take_of_length_le (by rw [spanG_length]; omega)] at this
                exact this)
              have hgt : X < X + d := by omega
              obtain ⟨c, hcv⟩ : ∃ c, c = X + d := ⟨_, rfl⟩
              rw [← hcv] at hgt hle ⊢
              clear hd hcv
              gi_wp2
              go_roundw
              case rel => exact ⟨k + 1, m', pre ++ spanG X X, by go_num, by omega, HM', Lib.hid (by rw [List.append_assoc]; exact HSP.out), HJE, hcd⟩
              case measure => simp [intOf]; omega
      · obtain ⟨hs1, hs2⟩ := hiB_no (s := s) (i := k) (fun h => h2 h.1)
        rw [hs1, hs2, hXe] at hstep
        rw [hs2] at hm'
        have HM' := Lib.hid hm'
        have r2 : (s.size : Int) ≤ (k : Int) + 2 := by omega
        have HSP : Hid (pre ++ (spanG X X ++ memF s m' (k + 1)) = membersF s) := Lib.hid (by rw [← spanF_le (Nat.le_refl _), ← hstep]; exact hpre.out)
        clear hs1 hs2 hstep hm' hXe
        gi_wp2
        gi_quiet (fail)
        all_goals gi_wp2
        have hj1 : Hid (J pre (wr.drewN nq)) := Lib.hid (HJQ.out nq)
        have hc1 : (wr.drewN nq).cell? ⟨Bs, 0, none⟩ = some (.string s) := hc
        gi_loopw [6] (fun c wr2 => ∃ d : Nat, c = .int .i64 ((X + d : Nat) : Int) ∧ X + d ≤ X + 1 ∧ Hid (J (pre ++ (spanG X X).take d) wr2) ∧ wr2.cell? ⟨Bs, 0, none⟩ = some (.string s)) (fun c _ => X + 1 - (intOf c).toNat)
        case atStart => exact ⟨0, rfl, by omega, Lib.hid (by simpa using hj1.out), hc1⟩
        case round =>
          obtain ⟨d, rfl, hd, hjd, hcd⟩ := hrel
          by_cases hle : X + d ≤ X
          · obtain ⟨f0, t0, a0, b0, hy0, hR0⟩ := hY (pre ++ (spanG X X).take d) (Fin.ofNat 256 (X + d)) wr hjd.out (by
              have := congrArg List.length HSP.out
              rw [List.length_append, List.length_append, spanG_length] at this
              rw [List.length_append, List.length_take, spanG_length]; omega)
            rw [encB_of (by omega)] at hy0
            obtain ⟨c, hcv⟩ : ∃ c, c = X + d := ⟨_, rfl⟩
            rw [← hcv] at hy0 hle hd ⊢
            have HCV := Lib.hid hcv
            clear hcv
            have hc255 : c ≤ 255 := by omega
            gi_wp2
            refine hR0.mono ?_
            rintro e W0 (⟨rfl, hJ0, hk0⟩ | ⟨rfl, hx0⟩)
            rotate_left
            · gi_wp2
              refine bodyPost_ret (results_none rfl _ _ _) rfl ?_
              exact ⟨⟨_, rfl⟩, .inr ⟨_, trivial, hx0⟩⟩
            have HJ0 := Lib.hid hJ0
            have hc0 : W0.cell? ⟨Bs, 0, none⟩ = some (.string s) := (World.cell?_of_block (a := ⟨Bs, 0, none⟩) hk0).trans hcd
            clear hy0 hR0 hJ0 hk0
            gi_wp2
            go_roundw
            case rel => exact ⟨d + 1, by rw [show X + (d + 1) = c + 1 by have := HCV.out; omega]; go_num, by have := HCV.out; omega, Lib.hid (by rw [spanG_snoc (by have := HCV.out; omega), ← List.append_assoc]; exact HJ0.out), hc0⟩
            case measure => simp [intOf]; omega
          · have HJE : Hid (J (pre ++ spanG X X) wr) := Lib.hid (by
              have := hjd.out
              rw [List.take_of_length_le (by rw [spanG_length]; omega)] at this
              exact this)
            have hgt : X < X + d := by omega
            obtain ⟨c, hcv⟩ : ∃ c, c = X + d := ⟨_, rfl⟩
            rw [← hcv] at hgt hle ⊢
            clear hd hcv
            gi_wp2
            go_roundw
            case rel => exact ⟨k + 1, m', pre ++ spanG X X, by go_num, by omega, HM', Lib.hid (by rw [List.append_assoc]; exact HSP.out), HJE, hcd⟩
            case measure => simp [intOf]; omega
    · have HE : Hid (pre = membersF s) := Lib.hid (by have := hpre.out; rw [memF_stop (by omega), List.append_nil] at this; exact this)
      gi_wp2
      go_end0
      exact ⟨⟨_, rfl⟩, .inl ⟨_, HE.out, hj.out⟩⟩
end Go.Proofs.Ytkohpijpipcajaa
