import Derived.Test.YtkohpijpipcajaaGM1
import Derived.LoopTactic
import Derived.Deep.QuietTactic
import Derived.BigQuiet
namespace Go.Proofs.Ytkohpijpipcajaa
open Go.RowKit
set_option linter.unusedVariables false
set_option linter.unusedSimpArgs false

/-- what the walk has captured. -/
structure GlobG (nb sb lb wb : Nat) (s : ByteArray) (L : List RP) (f : Bool) (ao : Option Addr) (cap : Nat) (W : World) : Prop where
  n : W.cell? ⟨nb, 0, none⟩ = some (.func (.func 72) #[] #[.pointer (some ⟨lb, 0, none⟩)])
  s : W.cell? ⟨sb, 0, none⟩ = some (.string s)
  l : W.cell? ⟨lb, 0, none⟩ = some (.slice ao L.length cap)
  k : W.cell? ⟨wb, 0, none⟩ = some (.func (.func 73) #[] #[.pointer (some ⟨nb, 0, none⟩), .pointer (some ⟨sb, 0, none⟩), .pointer (some ⟨lb, 0, none⟩), .pointer (some ⟨wb, 0, none⟩)])
  p : PAt L f ao W
theorem GlobG.below {nb sb lb wb : Nat} {s : ByteArray} {L : List RP} {f : Bool} {ao : Option Addr} {cap : Nat} {W W' : World} (h : GlobG nb sb lb wb s L f ao cap W) (hb : Below W.heap.size W W') : GlobG nb sb lb wb s L f ao cap W' :=
  ⟨cell_later hb h.n, cell_later hb h.s, cell_later hb h.l, cell_later hb h.k, h.p.below hb⟩
def manyAt (L : List RP) (q : Nat) : Bool := match L[q]? with | some r => isMany r | none => false
theorem PAt.many {L : List RP} {f : Bool} {ao : Option Addr} {W : World} (h : PAt L f ao W) {q : Nat} (hq : q < L.length) : ∃ g, ao = some ⟨g, 0, none⟩ ∧ W.cell? ⟨g, q * 257, none⟩ = some (.bool (manyAt L q)) := by
  obtain ⟨g, e, h1, _⟩ := h q hq
  refine ⟨g, e, ?_⟩
  rw [Nat.mul_comm, h1]
  simp [manyAt, List.getElem?_eq_getElem hq]

/-- the end of a stretch. -/
def EndOf (L : List RP) (i e : Nat) : Prop := i ≤ e ∧ e ≤ L.length ∧ (∀ q, i ≤ q → q < e → manyAt L q = false) ∧ (e < L.length → manyAt L e = true)
def NextPost (L : List RP) (i : Nat) (w : World) (e : Ending) (w' : World) : Prop := ∃ en : Nat, e = .returned (.int .i64 en) ∧ w = w' ∧ EndOf L i en

set_option maxRecDepth 100000 in
theorem next_any (L : List RP) (f : Bool) (ao : Option Addr) (cap lb i : Nat) (w : World) (hl : w.cell? ⟨lb, 0, none⟩ = some (.slice ao L.length cap)) (hp : PAt L f ao w) (hi : i ≤ L.length) (hL : L.length ≤ 1000) :
    Calls Try.prog 72 #[.int .i64 i, .pointer (some ⟨lb, 0, none⟩)] w (NextPost L i w) := by
  have HP := Lib.hid hp
  clear hp
  go_enter Try.func72, Try.ntmps72
  go_wp2
  go_loop [0] (fun t => ∃ k : Nat, t = .int .i64 k ∧ i ≤ k ∧ k ≤ L.length ∧ Hid (∀ q, i ≤ q → q < k → manyAt L q = false)) (fun t => L.length - (intOf t).toNat)
  case atStart => exact ⟨i, rfl, Nat.le_refl _, hi, Lib.hid fun q h1 h2 => by omega⟩
  case round =>
    obtain ⟨k, rfl, hik, hk, hno⟩ := hrel
    by_cases hlt : k < L.length
    · obtain ⟨g, rfl, hc⟩ := HP.out.many hlt
      cases hm : manyAt L k with
      | true =>
        rw [hm] at hc
        have HM := Lib.hid hm
        clear hm
        go_wp2
        go_ret
        exact ⟨k, rfl, rfl, hik, hk, hno.out, fun _ => HM.out⟩
      | false =>
        rw [hm] at hc
        have HM := Lib.hid hm
        clear hm
        go_wp2
        go_round
        case rel => exact ⟨k + 1, by go_num, by omega, by omega, Lib.hid fun q h1 h2 => by
          by_cases e : q = k
          · rw [e]; exact HM.out
          · exact hno.out q h1 (by omega)⟩
        case measure => simp [intOf]; omega
    · go_wp2
      go_ret
      exact ⟨k, rfl, rfl, hik, hk, hno.out, fun h => absurd h hlt⟩
end Go.Proofs.Ytkohpijpipcajaa

namespace Go.Proofs.Ytkohpijpipcajaa
open Go.RowKit
set_option linter.unusedVariables false
set_option linter.unusedSimpArgs false

def takesAt (L : List RP) (f : Bool) (q c : Nat) : Bool := match L[q]? with | some r => setOf f r c | none => false
theorem PAt.takes {L : List RP} {f : Bool} {ao : Option Addr} {W : World} (h : PAt L f ao W) {q : Nat} (hq : q < L.length) : ∃ g, ao = some ⟨g, 0, none⟩ ∧ ∀ c, c < 256 → W.cell? ⟨g, q * 257 + 1 + c, none⟩ = some (.bool (takesAt L f q c)) := by
  obtain ⟨g, e, _, h2⟩ := h q hq
  refine ⟨g, e, fun c hc => ?_⟩
  rw [Nat.mul_comm, h2 c hc]
  simp [takesAt, List.getElem?_eq_getElem hq]

/-- the parts from one on match the bytes from one on. -/
inductive Mt (L : List RP) (f : Bool) (s : ByteArray) : Nat → Nat → Prop where
  | done : Mt L f s L.length s.size
  | skip {k i : Nat} : manyAt L k = true → Mt L f s (k + 1) i → Mt L f s k i
  | eat {k i : Nat} : manyAt L k = true → i < s.size → Mt L f s k (i + 1) → Mt L f s k i
  | one {k i : Nat} : k < L.length → manyAt L k = false → i < s.size → takesAt L f k (byteN s i) = true → Mt L f s (k + 1) (i + 1) → Mt L f s k i

theorem manyAt_lt {L : List RP} {k : Nat} (h : manyAt L k = true) : k < L.length := by
  rcases Nat.lt_or_ge k L.length with h1 | h1
  · exact h1
  · unfold manyAt at h
    rw [List.getElem?_eq_none h1] at h
    cases h
variable {L : List RP} {f : Bool} {s : ByteArray}
theorem Mt.le {k i : Nat} (h : Mt L f s k i) : k ≤ L.length ∧ i ≤ s.size := by
  induction h with
  | done => exact ⟨Nat.le_refl _, Nat.le_refl _⟩
  | skip hm _ ih => exact ⟨Nat.le_of_lt (manyAt_lt hm), ih.2⟩
  | eat hm hi _ ih => exact ⟨ih.1, Nat.le_of_lt hi⟩
  | one hk _ hi _ _ ih => exact ⟨Nat.le_of_lt hk, Nat.le_of_lt hi⟩
theorem mt_end {i : Nat} : Mt L f s L.length i ↔ i = s.size := by
  constructor
  · intro h
    generalize hk : L.length = k at h
    cases h with
    | done => rfl
    | skip hm _ => have := manyAt_lt hm; omega
    | eat hm _ _ => have := manyAt_lt hm; omega
    | one hk' _ _ _ _ => omega
  · rintro rfl; exact .done
theorem mt_one {k i : Nat} (hk : k < L.length) (hm : manyAt L k = false) : Mt L f s k i ↔ i < s.size ∧ takesAt L f k (byteN s i) = true ∧ Mt L f s (k + 1) (i + 1) := by
  constructor
  · intro h
    cases h with
    | done => omega
    | skip hm' _ => rw [hm] at hm'; cases hm'
    | eat hm' _ _ => rw [hm] at hm'; cases hm'
    | one _ _ hi ht h => exact ⟨hi, ht, h⟩
  · rintro ⟨hi, ht, h⟩; exact .one hk hm hi ht h
/-- behind a star, the parts from one on match somewhere. -/
def FM (L : List RP) (f : Bool) (s : ByteArray) (k i : Nat) : Prop := ∃ j, i ≤ j ∧ Mt L f s k j
theorem mt_many {k i : Nat} (hm : manyAt L k = true) : Mt L f s k i ↔ FM L f s (k + 1) i := by
  constructor
  · intro h
    induction h with
    | done => have := manyAt_lt hm; omega
    | skip _ h _ => exact ⟨_, Nat.le_refl _, h⟩
    | eat _ _ _ ih => obtain ⟨j, hj, h⟩ := ih hm; exact ⟨j, by omega, h⟩
    | one _ hm' _ _ _ _ => rw [hm] at hm'; cases hm'
  · rintro ⟨j, hj, h⟩
    have hjs := h.le.2
    obtain ⟨d, rfl⟩ : ∃ d, j = i + d := ⟨j - i, by omega⟩
    induction d generalizing i with
    | zero => exact .skip hm h
    | succ d ih => exact .eat hm (by omega) (ih (by omega) (by rw [show i + 1 + d = i + (d + 1) by omega]; exact h) (by omega))
theorem FM.mono {k i j : Nat} (h : FM L f s k j) (hij : i ≤ j) : FM L f s k i := by
  obtain ⟨m, hm, hM⟩ := h
  exact ⟨m, by omega, hM⟩
/-- a stretch lies at a place. -/
def SegM (L : List RP) (f : Bool) (s : ByteArray) (i e t : Nat) : Prop := ∀ q, q < e - i → t + q < s.size ∧ takesAt L f (i + q) (byteN s (t + q)) = true
theorem mt_seg {i e t : Nat} (h : EndOf L i e) : Mt L f s i t ↔ SegM L f s i e t ∧ Mt L f s e (t + (e - i)) := by
  obtain ⟨h1, h2, h3, h4⟩ := h
  obtain ⟨d, rfl⟩ : ∃ d, e = i + d := ⟨e - i, by omega⟩
  induction d generalizing i t with
  | zero => constructor
            · intro h; exact ⟨fun q hq => by omega, by simpa using h⟩
            · intro h; simpa using h.2
  | succ d ih =>
    have hm := h3 i (Nat.le_refl _) (by omega)
    rw [mt_one (by omega) hm, ih (i := i + 1) (t := t + 1) (by omega) (by omega) (fun q a b => h3 q (by omega) (by omega)) (fun h => by rw [show i + 1 + d = i + (d + 1) by omega]; exact h4 (by omega))]
    rw [show i + 1 + d = i + (d + 1) by omega, show t + 1 + (i + (d + 1) - (i + 1)) = t + (i + (d + 1) - i) by omega]
    constructor
    · rintro ⟨a, b, c, d1⟩
      refine ⟨fun q hq => ?_, d1⟩
      cases q with
      | zero => exact ⟨a, b⟩
      | succ q =>
        have := c q (by omega)
        rw [show i + 1 + q = i + (q + 1) by omega, show t + 1 + q = t + (q + 1) by omega] at this
        exact this
    · rintro ⟨c, d1⟩
      have h0 := c 0 (by omega)
      refine ⟨h0.1, h0.2, fun q hq => ?_, d1⟩
      have := c (q + 1) (by omega)
      rw [show i + (q + 1) = i + 1 + q by omega, show t + (q + 1) = t + 1 + q by omega] at this
      exact this
/-- what the walk tells. -/
def WalkP (L : List RP) (f : Bool) (s : ByteArray) (i t : Nat) : Prop := if i = 0 then Mt L f s 0 0 else FM L f s i t

/-- a stretch up to the end, behind a star. -/
theorem walk_last {i t : Nat} (hi : 0 < i) (h : EndOf L i L.length) : WalkP L f s i t ↔ t + (L.length - i) ≤ s.size ∧ SegM L f s i L.length (s.size - (L.length - i)) := by
  unfold WalkP
  rw [if_neg (by omega)]
  constructor
  · rintro ⟨j, hj, hM⟩
    rw [mt_seg h, mt_end] at hM
    have : s.size - (L.length - i) = j := by omega
    rw [this]
    exact ⟨by omega, hM.1⟩
  · rintro ⟨h1, h2⟩
    refine ⟨s.size - (L.length - i), by omega, ?_⟩
    rw [mt_seg h, mt_end]
    exact ⟨h2, by omega⟩
/-- the stretch lies nowhere. -/
theorem walk_none {i e t : Nat} (hi : 0 < i) (h : EndOf L i e) (hno : ∀ j, t ≤ j → j + (e - i) ≤ s.size → ¬ SegM L f s i e j) : ¬ WalkP L f s i t := by
  unfold WalkP
  rw [if_neg (by omega)]
  rintro ⟨j, hj, hM⟩
  have hle := hM.le.2
  rw [mt_seg h] at hM
  exact hno j hj hM.2.le.2 hM.1
/-- the first place of the stretch serves. -/
theorem walk_first {i e t t0 : Nat} (hi : 0 < i) (h : EndOf L i e) (he : e < L.length) (ht : t ≤ t0) (hS : SegM L f s i e t0) (hno : ∀ j, t ≤ j → j < t0 → ¬ SegM L f s i e j) : WalkP L f s i t ↔ FM L f s (e + 1) (t0 + (e - i)) := by
  have hm := h.2.2.2 he
  unfold WalkP
  rw [if_neg (by omega)]
  constructor
  · rintro ⟨j, hj, hM⟩
    rw [mt_seg h, mt_many hm] at hM
    have : t0 ≤ j := by
      rcases Nat.lt_or_ge j t0 with h1 | h1
      · exact absurd hM.1 (hno j hj h1)
      · exact h1
    exact hM.2.mono (by omega)
  · intro h2
    refine ⟨t0, ht, ?_⟩
    rw [mt_seg h, mt_many hm]
    exact ⟨hS, h2⟩
theorem walk_head {e : Nat} (h : EndOf L 0 e) : WalkP L f s 0 0 ↔ SegM L f s 0 e 0 ∧ Mt L f s e e := by
  unfold WalkP
  rw [if_pos rfl, mt_seg h]
  simp
end Go.Proofs.Ytkohpijpipcajaa

namespace Go.Proofs.Ytkohpijpipcajaa
open Go.RowKit
set_option linter.unusedVariables false
set_option linter.unusedSimpArgs false

/-- what a walk leaves. -/
def WPost (p : Prop) (w : World) (e : Ending) (w' : World) : Prop := ∃ b : Bool, e = .returned (.bool b) ∧ (b = true ↔ p) ∧ Below w.heap.size w w'

set_option maxRecDepth 1000000 in
set_option maxHeartbeats 16000000 in
theorem walk_any (nb sb lb wb : Nat) (s : ByteArray) (L : List RP) (f : Bool) (ao : Option Addr) (cap : Nat) (hL : L.length ≤ 1000) (hs : s.size ≤ 1000) :
    ∀ (m i t : Nat) (w : World), L.length - i ≤ m → i ≤ L.length → (i = 0 → t = 0) → t ≤ s.size → GlobG nb sb lb wb s L f ao cap w →
    Calls Try.prog 73 #[.int .i64 i, .int .i64 t, .pointer (some ⟨nb, 0, none⟩), .pointer (some ⟨sb, 0, none⟩), .pointer (some ⟨lb, 0, none⟩), .pointer (some ⟨wb, 0, none⟩)] w (WPost (WalkP L f s i t) w) := by
  intro m
  induction m using Nat.strongRecOn with
  | _ m ih =>
  intro i t w hm hi h0 ht hG
  have G := Lib.hid hG
  have IH := Lib.hid ih
  obtain ⟨hn, hsb, hl, hk, hp⟩ := hG
  have HP := Lib.hid hp
  have H0 := Lib.hid h0
  have HM := Lib.hid hm
  clear ih hp hk h0 hm
  by_cases hfree : 0 < i
  · have hfd : decide ((0 : Int) < (i : Int)) = true := by simpa using hfree
    go_enter Try.func73, Try.ntmps73
    go_wp2
    go_step3
    go_wp2_with (go_at_call 72; refine (next_any L f ao cap lb i _ hl HP.out hi hL).mono ?_; rintro e w' ⟨en, rfl, rfl, hE⟩)
    have HE := Lib.hid hE
    obtain ⟨he1, he2, _, _⟩ := hE
    clear hn hsb hl
    go_step3
    go_wp2
    by_cases hel : en = L.length
    · subst hel
      go_loopw [11] (fun u wr => ∃ x : Nat, u = .int .i64 x ∧ x = t ∧ Hid (Below w.heap.size w wr)) (fun u _ => s.size + 1 - (intOf u).toNat)
      case atStart => exact ⟨t, rfl, rfl, Lib.hid (Below.refl _ _)⟩
      case round =>
        obtain ⟨x, rfl, rfl, hb⟩ := hrel
        obtain ⟨_, hsb, hl, _, hp⟩ := G.out.below hb.out
        by_cases hfit : x + (L.length - i) ≤ s.size
        · have c0 : (x : Int) + (L.length : Int) - (i : Int) ≤ (s.size : Int) := by omega
          obtain ⟨X, hX⟩ : ∃ X : Nat, X = s.size - (L.length - i) := ⟨_, rfl⟩
          have hXi : (s.size : Int) - ((L.length : Int) - (i : Int)) = (X : Int) := by omega
          have hXs : X + (L.length - i) = s.size := by omega
          have HX := Lib.hid hX
          clear hX hp
          go_wp2
          go_loopw [45] (fun u wr => ∃ k : Nat, u = .int .i64 k ∧ k ≤ L.length - i ∧ Hid (∀ q, q < k → X + q < s.size ∧ takesAt L f (i + q) (byteN s (X + q)) = true) ∧ Hid (Below w.heap.size w wr)) (fun u _ => L.length - i - (intOf u).toNat)
          case atStart => exact ⟨0, rfl, Nat.zero_le _, Lib.hid fun q h => by omega, hb⟩
          case round =>
            obtain ⟨k, rfl, hk1, hok, hb2⟩ := hrel
            obtain ⟨_, hsb, hl, hkw, hp⟩ := G.out.below hb2.out
            by_cases hkl : k < L.length - i
            · have c1 : (k : Int) < (L.length : Int) - (i : Int) := by omega
              have hxs : X + k < s.size := by omega
              have hlq : i + k < L.length := by omega
              obtain ⟨g, rfl, hcells⟩ := hp.takes hlq
              have hC := byteN_lt s (X + k)
              have hxb := byte_at s hxs
              have hcell := hcells _ hC
              cases hv : takesAt L f (i + k) (byteN s (X + k)) with
              | true =>
                rw [hv] at hcell
                have HOK2 : Hid (∀ q, q < k + 1 → X + q < s.size ∧ takesAt L f (i + q) (byteN s (X + q)) = true) := Lib.hid fun q hq => by
                  by_cases e : q = k
                  · rw [e]; exact ⟨hxs, hv⟩
                  · exact hok.out q (by omega)
                generalize byteN s (X + k) = C at hC hxb hcell
                clear hv hp hcells
                have s1 : IntKind.i64.wrap ((i : Int) + k) = (i : Int) + k := IntWalk.i64_in _ (by omega)
                have s2 : IntKind.i64.wrap ((X : Int) + k) = (X : Int) + k := IntWalk.i64_in _ (by omega)
                have s3 : ((i : Int) + k).toNat = i + k := by omega
                have s4 : ((X : Int) + k).toNat = X + k := by omega
                have s5 : (0 : Int) ≤ (i : Int) + k := by omega
                have s6 : (0 : Int) ≤ (X : Int) + k := by omega
                have s7 : (i : Int) + k < (L.length : Int) := by omega
                have s8 : (X : Int) + k < (s.size : Int) := by omega
                go_wp2
                go_quiet (fail)
                clear s1 s2 s3 s4 s5 s6 s7 s8
                go_wp2
                go_roundw
                case rel => exact ⟨k + 1, by go_num, by omega, HOK2, Lib.hid (below_dn hb2.out _)⟩
                case measure => simp [intOf]; omega
              | false =>
                rw [hv] at hcell
                have HBAD : Hid (¬ SegM L f s i L.length X) := Lib.hid fun h => by
                  have := (h k hkl).2
                  rw [hv] at this; cases this
                generalize byteN s (X + k) = C at hC hxb hcell
                clear hv hp hcells
                have s1 : IntKind.i64.wrap ((i : Int) + k) = (i : Int) + k := IntWalk.i64_in _ (by omega)
                have s2 : IntKind.i64.wrap ((X : Int) + k) = (X : Int) + k := IntWalk.i64_in _ (by omega)
                have s3 : ((i : Int) + k).toNat = i + k := by omega
                have s4 : ((X : Int) + k).toNat = X + k := by omega
                have s5 : (0 : Int) ≤ (i : Int) + k := by omega
                have s6 : (0 : Int) ≤ (X : Int) + k := by omega
                have s7 : (i : Int) + k < (L.length : Int) := by omega
                have s8 : (X : Int) + k < (s.size : Int) := by omega
                go_wp2
                go_quiet (fail)
                clear s1 s2 s3 s4 s5 s6 s7 s8
                have HW : Hid (¬ WalkP L f s i x) := Lib.hid fun h => HBAD.out (by have := ((walk_last hfree HE.out).1 h).2; rw [← HX.out] at this; exact this)
                go_wp2
                rw [Exit.noGoto_ret]
                go_ret
                exact ⟨false, rfl, ⟨(fun h => by cases h), fun h => absurd h HW.out⟩, below_dn hb2.out _⟩
            · have hSeg : Hid (SegM L f s i L.length X) := Lib.hid fun q hq => hok.out q (by omega)
              have HW : Hid (WalkP L f s i x) := Lib.hid ((walk_last hfree HE.out).2 ⟨hfit, by rw [← HX.out]; exact hSeg.out⟩)
              have c1 : (L.length : Int) - (i : Int) ≤ (k : Int) := by omega
              have c2 : (X : Int) + (L.length : Int) - (i : Int) = (s.size : Int) := by omega
              clear hp
              go_wp2
              rw [Exit.noGoto_ret]
              go_ret
              exact ⟨true, rfl, ⟨fun _ => HW.out, fun _ => rfl⟩, hb2.out⟩
        · have c0 : (s.size : Int) < (x : Int) + (L.length : Int) - (i : Int) := by omega
          have HW : Hid (¬ WalkP L f s i x) := Lib.hid fun h => hfit ((walk_last hfree HE.out).1 h).1
          clear hp
          go_wp2
          rw [Exit.noGoto_ret]
          go_ret
          exact ⟨false, rfl, ⟨(fun h => by cases h), fun h => absurd h HW.out⟩, hb.out⟩
    · have hel2 : en < L.length := by omega
      have hed : ((en : Int) == (L.length : Int)) = false := by rw [beq_eq_false_iff_ne]; omega
      clear hel
      go_loopw [11] (fun u wr => ∃ x : Nat, u = .int .i64 x ∧ t ≤ x ∧ x ≤ s.size + 1 ∧ Hid (∀ j, t ≤ j → j < x → ¬ SegM L f s i en j) ∧ Hid (Below w.heap.size w wr)) (fun u _ => s.size + 1 - (intOf u).toNat)
      case atStart => exact ⟨t, rfl, Nat.le_refl _, by omega, Lib.hid fun j h1 h2 => by omega, Lib.hid (Below.refl _ _)⟩
      case round =>
        obtain ⟨x, rfl, hx1, hx2, hno, hb⟩ := hrel
        obtain ⟨_, hsb, hl, _, hp⟩ := G.out.below hb.out
        by_cases hfit : x + (en - i) ≤ s.size
        · have c0 : (x : Int) + (en : Int) - (i : Int) ≤ (s.size : Int) := by omega
          clear hp
          go_wp2
          go_loopw [45] (fun u wr => ∃ k : Nat, u = .int .i64 k ∧ k ≤ en - i ∧ Hid (∀ q, q < k → x + q < s.size ∧ takesAt L f (i + q) (byteN s (x + q)) = true) ∧ Hid (Below w.heap.size w wr)) (fun u _ => en - i - (intOf u).toNat)
          case atStart => exact ⟨0, rfl, Nat.zero_le _, Lib.hid fun q h => by omega, hb⟩
          case round =>
            obtain ⟨k, rfl, hk1, hok, hb2⟩ := hrel
            obtain ⟨_, hsb, hl, hkw, hp⟩ := G.out.below hb2.out
            by_cases hkl : k < en - i
            · have c1 : (k : Int) < (en : Int) - (i : Int) := by omega
              have hxs : x + k < s.size := by omega
              have hlq : i + k < L.length := by omega
              obtain ⟨g, rfl, hcells⟩ := hp.takes hlq
              have hC := byteN_lt s (x + k)
              have hxb := byte_at s hxs
              have hcell := hcells _ hC
              cases hv : takesAt L f (i + k) (byteN s (x + k)) with
              | true =>
                rw [hv] at hcell
                have HOK2 : Hid (∀ q, q < k + 1 → x + q < s.size ∧ takesAt L f (i + q) (byteN s (x + q)) = true) := Lib.hid fun q hq => by
                  by_cases e : q = k
                  · rw [e]; exact ⟨hxs, hv⟩
                  · exact hok.out q (by omega)
                generalize byteN s (x + k) = C at hC hxb hcell
                clear hv hp hcells
                have s1 : IntKind.i64.wrap ((i : Int) + k) = (i : Int) + k := IntWalk.i64_in _ (by omega)
                have s2 : IntKind.i64.wrap ((x : Int) + k) = (x : Int) + k := IntWalk.i64_in _ (by omega)
                have s3 : ((i : Int) + k).toNat = i + k := by omega
                have s4 : ((x : Int) + k).toNat = x + k := by omega
                have s5 : (0 : Int) ≤ (i : Int) + k := by omega
                have s6 : (0 : Int) ≤ (x : Int) + k := by omega
                have s7 : (i : Int) + k < (L.length : Int) := by omega
                have s8 : (x : Int) + k < (s.size : Int) := by omega
                go_wp2
                go_quiet (fail)
                clear s1 s2 s3 s4 s5 s6 s7 s8
                go_wp2
                go_roundw
                case rel => exact ⟨k + 1, by go_num, by omega, HOK2, Lib.hid (below_dn hb2.out _)⟩
                case measure => simp [intOf]; omega
              | false =>
                rw [hv] at hcell
                have HBAD : Hid (¬ SegM L f s i en x) := Lib.hid fun h => by
                  have := (h k hkl).2
                  rw [hv] at this; cases this
                generalize byteN s (x + k) = C at hC hxb hcell
                clear hv hp hcells
                have s1 : IntKind.i64.wrap ((i : Int) + k) = (i : Int) + k := IntWalk.i64_in _ (by omega)
                have s2 : IntKind.i64.wrap ((x : Int) + k) = (x : Int) + k := IntWalk.i64_in _ (by omega)
                have s3 : ((i : Int) + k).toNat = i + k := by omega
                have s4 : ((x : Int) + k).toNat = x + k := by omega
                have s5 : (0 : Int) ≤ (i : Int) + k := by omega
                have s6 : (0 : Int) ≤ (x : Int) + k := by omega
                have s7 : (i : Int) + k < (L.length : Int) := by omega
                have s8 : (x : Int) + k < (s.size : Int) := by omega
                go_wp2
                go_quiet (fail)
                clear s1 s2 s3 s4 s5 s6 s7 s8
                go_wp2
                go_roundw
                case rel => exact ⟨x + 1, by go_num, by omega, by omega, Lib.hid fun j h1 h2 => by
                  by_cases e : j = x
                  · rw [e]; exact HBAD.out
                  · exact hno.out j h1 (by omega), Lib.hid (below_dn hb2.out _)⟩
                case measure => simp [intOf]; omega
            · have hSeg : Hid (SegM L f s i en x) := Lib.hid fun q hq => hok.out q (by omega)
              have HWF := Lib.hid (walk_first hfree HE.out hel2 hx1 hSeg.out hno.out)
              have c1 : (en : Int) - (i : Int) ≤ (k : Int) := by omega
              have HCALL : Hid (∀ W : World, GlobG nb sb lb wb s L f ao cap W → Calls Try.prog 73 #[.int .i64 ((en : Int) + 1), .int .i64 ((x : Int) + en - i), .pointer (some ⟨nb, 0, none⟩), .pointer (some ⟨sb, 0, none⟩), .pointer (some ⟨lb, 0, none⟩), .pointer (some ⟨wb, 0, none⟩)] W (WPost (WalkP L f s (en + 1) (x + (en - i))) W)) := Lib.hid fun W hW => by
                have := IH.out (L.length - (en + 1)) (by have := HM.out; omega) (en + 1) (x + (en - i)) W (Nat.le_refl _) hel2 (fun h => by omega) hfit hW
                rw [show ((en : Int) + 1) = ((en + 1 : Nat) : Int) by omega, show ((x : Int) + en - i) = ((x + (en - i) : Nat) : Int) by omega]
                exact this
              have HG2 := Lib.hid (G.out.below hb2.out)
              clear hp
              go_wp2_with fail
              refine (HCALL.out _ HG2.out).mono ?_
              rintro e W3 ⟨b, rfl, hbb, hb3⟩
              have HBB := Lib.hid hbb
              have HB3 := Lib.hid (hb2.out.trans (hb3.mono hb2.out.size))
              clear hbb hb3
              go_wp2
              rw [Exit.noGoto_ret]
              go_ret
              refine ⟨b, rfl, HBB.out.trans ?_, HB3.out⟩
              rw [HWF.out]
              unfold WalkP
              rw [if_neg (by omega)]
        · have c0 : (s.size : Int) < (x : Int) + (en : Int) - (i : Int) := by omega
          have HW : Hid (¬ WalkP L f s i t) := Lib.hid (walk_none hfree HE.out fun j h1 h2 => hno.out j h1 (by omega))
          clear hp
          go_wp2
          rw [Exit.noGoto_ret]
          go_ret
          exact ⟨false, rfl, ⟨(fun h => by cases h), fun h => absurd h HW.out⟩, hb.out⟩
  · obtain rfl : i = 0 := by omega
    obtain rfl : t = 0 := H0.out rfl
    have hfd : decide ((0 : Int) < ((0 : Nat) : Int)) = false := rfl
    go_enter Try.func73, Try.ntmps73
    go_wp2
    go_step3
    go_wp2_with (go_at_call 72; refine (next_any L f ao cap lb 0 _ hl HP.out hi hL).mono ?_; rintro e w' ⟨en, rfl, rfl, hE⟩)
    have HE := Lib.hid hE
    obtain ⟨he1, he2, _, _⟩ := hE
    clear hn hsb hl hfree
    go_step3
    go_wp2
    go_loopw [11] (fun u wr => u = .int .i64 0 ∧ Hid (Below w.heap.size w wr)) (fun u _ => s.size + 1 - (intOf u).toNat)
    case atStart => exact ⟨rfl, Lib.hid (Below.refl _ _)⟩
    case round =>
      obtain ⟨rfl, hb⟩ := hrel
      obtain ⟨_, hsb, hl, _, hp⟩ := G.out.below hb.out
      by_cases hfit : en ≤ s.size
      · have c0 : (en : Int) ≤ (s.size : Int) := by omega
        clear hp
        by_cases hel : en = L.length
        · subst hel
          go_wp2
          go_loopw [45] (fun u wr => ∃ k : Nat, u = .int .i64 k ∧ k ≤ L.length ∧ Hid (∀ q, q < k → 0 + q < s.size ∧ takesAt L f (0 + q) (byteN s (0 + q)) = true) ∧ Hid (Below w.heap.size w wr)) (fun u _ => L.length - (intOf u).toNat)
          case atStart => exact ⟨0, rfl, Nat.zero_le _, Lib.hid fun q h => by omega, hb⟩
          case round =>
            obtain ⟨k, rfl, hk1, hok, hb2⟩ := hrel
            obtain ⟨_, hsb, hl, hkw, hp⟩ := G.out.below hb2.out
            by_cases hkl : k < L.length
            · have hxs : k < s.size := by omega
              have hlq : k < L.length := by omega
              obtain ⟨g, rfl, hcells⟩ := hp.takes hlq
              have hC := byteN_lt s k
              have hxb := byte_at s hxs
              have hcell := hcells _ hC
              cases hv : takesAt L f k (byteN s k) with
              | true =>
                rw [hv] at hcell
                have HOK2 : Hid (∀ q, q < k + 1 → 0 + q < s.size ∧ takesAt L f (0 + q) (byteN s (0 + q)) = true) := Lib.hid fun q hq => by
                  by_cases e : q = k
                  · rw [e, Nat.zero_add]; exact ⟨hxs, hv⟩
                  · exact hok.out q (by omega)
                generalize byteN s k = C at hC hxb hcell
                clear hv hp hcells
                go_wp2
                go_quiet (fail)
                go_wp2
                go_roundw
                case rel => exact ⟨k + 1, by go_num, by omega, HOK2, Lib.hid (below_dn hb2.out _)⟩
                case measure => simp [intOf]; omega
              | false =>
                rw [hv] at hcell
                have HBAD : Hid (¬ WalkP L f s 0 0) := Lib.hid fun h => by
                  have := (((walk_head HE.out).1 h).1 k hkl).2
                  rw [Nat.zero_add, hv] at this; cases this
                generalize byteN s k = C at hC hxb hcell
                clear hv hp hcells
                go_wp2
                go_quiet (fail)
                go_wp2
                rw [Exit.noGoto_ret]
                go_ret
                exact ⟨false, rfl, ⟨(fun h => by cases h), fun h => absurd h HBAD.out⟩, below_dn hb2.out _⟩
            · have hSeg : Hid (SegM L f s 0 L.length 0) := Lib.hid fun q hq => hok.out q (by omega)
              have c1 : (L.length : Int) ≤ (k : Int) := by omega
              clear hp
              by_cases hlen : L.length = s.size
              · have HW : Hid (WalkP L f s 0 0) := Lib.hid ((walk_head HE.out).2 ⟨hSeg.out, mt_end.2 hlen⟩)
                have hle : ((L.length : Int) == (s.size : Int)) = true := by simp [hlen]
                have hle2 : (L.length == s.size) = true := by simp [hlen]
                clear hlen
                go_wp2
                rw [Exit.noGoto_ret]
                go_ret
                exact ⟨true, rfl, ⟨fun _ => HW.out, fun _ => rfl⟩, hb2.out⟩
              · have HW : Hid (¬ WalkP L f s 0 0) := Lib.hid fun h => hlen (mt_end.1 ((walk_head HE.out).1 h).2)
                have hle : ((L.length : Int) == (s.size : Int)) = false := by rw [beq_eq_false_iff_ne]; omega
                have hle2 : (L.length == s.size) = false := by rw [beq_eq_false_iff_ne]; omega
                clear hlen
                go_wp2
                rw [Exit.noGoto_ret]
                go_ret
                exact ⟨false, rfl, ⟨(fun h => by cases h), fun h => absurd h HW.out⟩, hb2.out⟩
        · have hel2 : en < L.length := by omega
          have hed : ((en : Int) == (L.length : Int)) = false := by rw [beq_eq_false_iff_ne]; omega
          have hed2 : (en == L.length) = false := by rw [beq_eq_false_iff_ne]; omega
          clear hel
          go_wp2
          go_loopw [45] (fun u wr => ∃ k : Nat, u = .int .i64 k ∧ k ≤ en ∧ Hid (∀ q, q < k → 0 + q < s.size ∧ takesAt L f (0 + q) (byteN s (0 + q)) = true) ∧ Hid (Below w.heap.size w wr)) (fun u _ => en - (intOf u).toNat)
          case atStart => exact ⟨0, rfl, Nat.zero_le _, Lib.hid fun q h => by omega, hb⟩
          case round =>
            obtain ⟨k, rfl, hk1, hok, hb2⟩ := hrel
            obtain ⟨_, hsb, hl, hkw, hp⟩ := G.out.below hb2.out
            by_cases hkl : k < en
            · have hxs : k < s.size := by omega
              have hlq : k < L.length := by omega
              obtain ⟨g, rfl, hcells⟩ := hp.takes hlq
              have hC := byteN_lt s k
              have hxb := byte_at s hxs
              have hcell := hcells _ hC
              cases hv : takesAt L f k (byteN s k) with
              | true =>
                rw [hv] at hcell
                have HOK2 : Hid (∀ q, q < k + 1 → 0 + q < s.size ∧ takesAt L f (0 + q) (byteN s (0 + q)) = true) := Lib.hid fun q hq => by
                  by_cases e : q = k
                  · rw [e, Nat.zero_add]; exact ⟨hxs, hv⟩
                  · exact hok.out q (by omega)
                generalize byteN s k = C at hC hxb hcell
                clear hv hp hcells
                go_wp2
                go_quiet (fail)
                go_wp2
                go_roundw
                case rel => exact ⟨k + 1, by go_num, by omega, HOK2, Lib.hid (below_dn hb2.out _)⟩
                case measure => simp [intOf]; omega
              | false =>
                rw [hv] at hcell
                have HBAD : Hid (¬ WalkP L f s 0 0) := Lib.hid fun h => by
                  have := (((walk_head HE.out).1 h).1 k hkl).2
                  rw [Nat.zero_add, hv] at this; cases this
                generalize byteN s k = C at hC hxb hcell
                clear hv hp hcells
                go_wp2
                go_quiet (fail)
                go_wp2
                rw [Exit.noGoto_ret]
                go_ret
                exact ⟨false, rfl, ⟨(fun h => by cases h), fun h => absurd h HBAD.out⟩, below_dn hb2.out _⟩
            · have hSeg : Hid (SegM L f s 0 en 0) := Lib.hid fun q hq => hok.out q (by omega)
              have HWF : Hid (WalkP L f s 0 0 ↔ FM L f s (en + 1) en) := Lib.hid (by rw [walk_head HE.out, mt_many (HE.out.2.2.2 hel2)]; exact ⟨fun h => h.2, fun h => ⟨hSeg.out, h⟩⟩)
              have c1 : (en : Int) ≤ (k : Int) := by omega
              have HCALL : Hid (∀ W : World, GlobG nb sb lb wb s L f ao cap W → Calls Try.prog 73 #[.int .i64 ((en : Int) + 1), .int .i64 (en : Int), .pointer (some ⟨nb, 0, none⟩), .pointer (some ⟨sb, 0, none⟩), .pointer (some ⟨lb, 0, none⟩), .pointer (some ⟨wb, 0, none⟩)] W (WPost (WalkP L f s (en + 1) en) W)) := Lib.hid fun W hW => by
                have := IH.out (L.length - (en + 1)) (by have := HM.out; omega) (en + 1) en W (Nat.le_refl _) hel2 (fun h => by omega) hfit hW
                rw [show ((en : Int) + 1) = ((en + 1 : Nat) : Int) by omega]
                exact this
              have HG2 := Lib.hid (G.out.below hb2.out)
              clear hp
              go_wp2_with fail
              refine (HCALL.out _ HG2.out).mono ?_
              rintro e W3 ⟨b, rfl, hbb, hb3⟩
              have HBB := Lib.hid hbb
              have HB3 := Lib.hid (hb2.out.trans (hb3.mono hb2.out.size))
              clear hbb hb3
              go_wp2
              rw [Exit.noGoto_ret]
              go_ret
              refine ⟨b, rfl, HBB.out.trans ?_, HB3.out⟩
              rw [HWF.out]
              unfold WalkP
              rw [if_neg (by omega)]
      · have c0 : (s.size : Int) < (en : Int) := by omega
        have HW : Hid (¬ WalkP L f s 0 0) := Lib.hid fun h => hfit ((walk_head HE.out).1 h).2.le.2
        clear hp
        go_wp2
        rw [Exit.noGoto_ret]
        go_ret
        exact ⟨false, rfl, ⟨(fun h => by cases h), fun h => absurd h HW.out⟩, hb.out⟩
end Go.Proofs.Ytkohpijpipcajaa
