import Derived.Test.YtkohpijpipcajaaGM2
import Derived.Test.YtkohpijpipcajaaGM3
import Derived.Test.YtkohpijpipcajaaGB4
import Derived.Deep.RegionHeld3
import Derived.Laws.NewBlocks
import Derived.Laws.MakeOwn
namespace Go.Proofs.Ytkohpijpipcajaa
open Go.RowKit
set_option linter.unusedVariables false
set_option linter.unusedSimpArgs false

/-- the first parts match the first bytes. -/
inductive Pre (L : List RP) (f : Bool) (s : ByteArray) : Nat → Nat → Prop where
  | nil : Pre L f s 0 0
  | skip {k i : Nat} : Pre L f s k i → manyAt L k = true → Pre L f s (k + 1) i
  | eat {k i : Nat} : Pre L f s k i → manyAt L k = true → i < s.size → Pre L f s k (i + 1)
  | one {k i : Nat} : Pre L f s k i → takesAt L f k (byteN s i) = true → i < s.size → Pre L f s (k + 1) (i + 1)
variable {L : List RP} {f : Bool} {s : ByteArray}
theorem takesAt_lt {k c : Nat} (h : takesAt L f k c = true) : k < L.length := by
  rcases Nat.lt_or_ge k L.length with h1 | h1
  · exact h1
  · unfold takesAt at h
    rw [List.getElem?_eq_none h1] at h
    cases h
theorem takesAt_not_many {k c : Nat} (h : takesAt L f k c = true) : manyAt L k = false := by
  have hk := takesAt_lt h
  unfold takesAt at h
  unfold manyAt
  rw [List.getElem?_eq_getElem hk] at h ⊢
  simp only at h ⊢
  cases e : L[k] <;> rw [e] at h <;> first | rfl | (simp [setOf] at h)
theorem pre_mt {k i : Nat} (h : Pre L f s k i) : Mt L f s k i → Mt L f s 0 0 := by
  induction h with
  | nil => exact id
  | skip _ hm ih => exact fun h => ih (.skip hm h)
  | eat _ hm hi ih => exact fun h => ih (.eat hm hi h)
  | one _ ht hi ih => exact fun h => ih (.one (takesAt_lt ht) (takesAt_not_many ht) hi ht h)
theorem mt_pre {k i : Nat} (h : Mt L f s k i) : Pre L f s k i → Pre L f s L.length s.size := by
  induction h with
  | done => exact id
  | skip hm _ ih => exact fun h => ih (.skip h hm)
  | eat hm hi _ ih => exact fun h => ih (.eat h hm hi)
  | one _ _ hi ht _ ih => exact fun h => ih (.one h ht hi)
theorem mt_iff_pre : Mt L f s 0 0 ↔ Pre L f s L.length s.size := ⟨fun h => mt_pre h .nil, fun h => pre_mt h .done⟩

/-- by a byte, or at the beginning. -/
def Pa (L : List RP) (f : Bool) (s : ByteArray) (j i : Nat) : Prop :=
  (j = 0 ∧ i = 0) ∨ ∃ i', i = i' + 1 ∧ i' < s.size ∧ ((manyAt L j = true ∧ Pre L f s j i') ∨ ∃ j', j = j' + 1 ∧ takesAt L f j' (byteN s i') = true ∧ Pre L f s j' i')
theorem pre_iff {j i : Nat} : Pre L f s j i ↔ Pa L f s j i ∨ ∃ j', j = j' + 1 ∧ manyAt L j' = true ∧ Pre L f s j' i := by
  constructor
  · intro h
    cases h with
    | nil => exact Or.inl (Or.inl ⟨rfl, rfl⟩)
    | skip h hm => exact Or.inr ⟨_, rfl, hm, h⟩
    | eat h hm hi => exact Or.inl (Or.inr ⟨_, rfl, hi, Or.inl ⟨hm, h⟩⟩)
    | one h ht hi => exact Or.inl (Or.inr ⟨_, rfl, hi, Or.inr ⟨_, rfl, ht, h⟩⟩)
  · rintro ((⟨rfl, rfl⟩ | ⟨i', rfl, hi, ⟨hm, h⟩ | ⟨j', rfl, ht, h⟩⟩) | ⟨j', rfl, hm, h⟩)
    · exact .nil
    · exact .eat h hm hi
    · exact .one h ht hi
    · exact .skip h hm
theorem pa_zero {j : Nat} : Pa L f s j 0 ↔ j = 0 := by
  constructor
  · rintro (⟨h, _⟩ | ⟨i', h, _⟩)
    · exact h
    · omega
  · rintro rfl; exact Or.inl ⟨rfl, rfl⟩
theorem pa_succ {j i : Nat} (hi : i < s.size) : Pa L f s j (i + 1) ↔ (manyAt L j = true ∧ Pre L f s j i) ∨ ∃ j', j = j' + 1 ∧ takesAt L f j' (byteN s i) = true ∧ Pre L f s j' i := by
  constructor
  · rintro (⟨_, h⟩ | ⟨i', h, _, h2⟩)
    · omega
    · obtain rfl : i = i' := by omega
      exact h2
  · intro h; exact Or.inr ⟨i, rfl, hi, h⟩

/-- a row of answers. -/
def boolsA (h : Nat → Bool) (n : Nat) : Array Value := (Array.range n).map fun k => .bool (h k)
theorem boolsA_size (h : Nat → Bool) (n : Nat) : (boolsA h n).size = n := by simp [boolsA]
theorem boolsA_at (h : Nat → Bool) {n k : Nat} (hk : k < n) : (boolsA h n)[k]? = some (.bool (h k)) := by simp [boolsA, Array.getElem?_range, hk]
def setB (h : Nat → Bool) (k : Nat) : Nat → Bool := fun j => h j || j == k
theorem boolsA_set (h : Nat → Bool) (n k : Nat) : (boolsA h n).setIfInBounds k (.bool true) = boolsA (setB h k) n := by
  apply Array.ext (by simp [boolsA])
  intro i h1 h2
  have hi : i < n := by simpa [boolsA] using h1
  by_cases e : i = k
  · subst e
    rw [Array.getElem_setIfInBounds_self]
    simp [boolsA, setB]
  · rw [Array.getElem_setIfInBounds_ne (by simp [boolsA]; exact hi) (fun x => e x.symm)]
    simp [boolsA, setB, e]
theorem boolsA_no (n : Nat) : Array.replicate n (Value.bool false) = boolsA (fun _ => false) n := by
  apply Array.ext (by simp [boolsA])
  intro i h1 h2
  simp [boolsA]
end Go.Proofs.Ytkohpijpipcajaa

namespace Go.Proofs.Ytkohpijpipcajaa
open Go.RowKit
set_option linter.unusedVariables false
set_option linter.unusedSimpArgs false

variable {L : List RP} {f : Bool} {s : ByteArray}
def CloR (L : List RP) (f : Bool) (s : ByteArray) (N k i : Nat) (h : Nat → Bool) : Prop := ∀ j, j < N → (j ≤ k → (h j = true ↔ Pre L f s j i)) ∧ (k < j → (h j = true ↔ Pa L f s j i))
theorem clo_start {N i : Nat} {h : Nat → Bool} (hr : ∀ j, j < N → (h j = true ↔ Pa L f s j i)) : CloR L f s N 0 i h := fun j hj =>
  ⟨fun h0 => by
    obtain rfl : j = 0 := by omega
    rw [hr 0 hj, pre_iff]
    constructor
    · exact Or.inl
    · rintro (h | ⟨j', e, _⟩)
      · exact h
      · omega, fun _ => hr j hj⟩
theorem clo_step {N k i : Nat} {h h' : Nat → Bool} (hr : CloR L f s N k i h) (hk : k + 1 < N) (hh : ∀ j, h' j = (h j || (j == k + 1 && (h k && manyAt L k)))) : CloR L f s N (k + 1) i h' := fun j hj => by
  have hk0 := (hr k (by omega)).1 (Nat.le_refl _)
  by_cases e : j = k + 1
  · subst e
    refine ⟨fun _ => ?_, fun h => by omega⟩
    rw [hh, pre_iff, ← (hr (k + 1) hj).2 (Nat.lt_succ_self _)]
    simp only [BEq.rfl, Bool.true_and, Bool.or_eq_true, Bool.and_eq_true, hk0]
    constructor
    · rintro (h | ⟨h1, h2⟩)
      · exact Or.inl h
      · exact Or.inr ⟨k, rfl, h2, h1⟩
    · rintro (h | ⟨k', e, h2, h1⟩)
      · exact Or.inl h
      · obtain rfl : k = k' := by omega
        exact Or.inr ⟨h1, h2⟩
  · have e2 : h' j = h j := by rw [hh, beq_eq_false_iff_ne.2 e]; simp
    rw [e2]
    exact ⟨fun h => (hr j hj).1 (by omega), fun h => (hr j hj).2 (by omega)⟩
def NxtR (L : List RP) (f : Bool) (s : ByteArray) (N k i : Nat) (h : Nat → Bool) : Prop :=
  ∀ j, j < N → (j < k → (h j = true ↔ Pa L f s j (i + 1))) ∧ (j = k → (h j = true ↔ ∃ j', j = j' + 1 ∧ takesAt L f j' (byteN s i) = true ∧ Pre L f s j' i)) ∧ (k < j → h j = false)
theorem nxt_start {N i : Nat} : NxtR L f s N 0 i (fun _ => false) := fun j hj => ⟨fun h => by omega, fun h => ⟨(fun h => by cases h), fun ⟨j', e, _⟩ => by omega⟩, fun _ => rfl⟩
theorem nxt_step {N k i : Nat} {h h3 h3' : Nat → Bool} (hp : ∀ j, j < N → (h j = true ↔ Pre L f s j i)) (hr : NxtR L f s N k i h3) (hi : i < s.size) (hk : k + 1 < N)
    (hh : ∀ j, h3' j = (h3 j || (j == k && (h k && manyAt L k)) || (j == k + 1 && (h k && takesAt L f k (byteN s i))))) : NxtR L f s N (k + 1) i h3' := fun j hj => by
  have hk0 := hp k (by omega)
  refine ⟨fun hlt => ?_, fun e => ?_, fun hgt => ?_⟩
  · by_cases e : j = k
    · subst e
      rw [hh, beq_eq_false_iff_ne.2 (show j ≠ j + 1 by omega), pa_succ hi]
      simp only [BEq.rfl, Bool.true_and, Bool.false_and, Bool.or_false, Bool.or_eq_true, Bool.and_eq_true, hk0, (hr j hj).2.1 rfl]
      constructor
      · rintro (h | ⟨h1, h2⟩)
        · exact Or.inr h
        · exact Or.inl ⟨h2, h1⟩
      · rintro (⟨h1, h2⟩ | h)
        · exact Or.inr ⟨h2, h1⟩
        · exact Or.inl h
    · rw [hh, beq_eq_false_iff_ne.2 e, beq_eq_false_iff_ne.2 (show j ≠ k + 1 by omega)]
      simpa using (hr j hj).1 (by omega)
  · subst e
    rw [hh, beq_eq_false_iff_ne.2 (show k + 1 ≠ k by omega), (hr (k + 1) hj).2.2 (Nat.lt_succ_self _)]
    simp only [BEq.rfl, Bool.true_and, Bool.false_and, Bool.or_false, Bool.false_or, Bool.and_eq_true, hk0]
    constructor
    · rintro ⟨h1, h2⟩; exact ⟨k, rfl, h2, h1⟩
    · rintro ⟨j', e, h2, h1⟩
      obtain rfl : k = j' := by omega
      exact ⟨h1, h2⟩
  · rw [hh, beq_eq_false_iff_ne.2 (show j ≠ k by omega), beq_eq_false_iff_ne.2 (show j ≠ k + 1 by omega), (hr j hj).2.2 (by omega)]
    simp
theorem nxt_end {N i : Nat} {h : Nat → Bool} (hi : i < s.size) (hN : N = L.length + 1) (hr : NxtR L f s N L.length i h) : ∀ j, j < N → (h j = true ↔ Pa L f s j (i + 1)) := fun j hj => by
  by_cases e : j = L.length
  · subst e
    rw [(hr _ hj).2.1 rfl, pa_succ hi]
    constructor
    · exact Or.inr
    · rintro (⟨h, _⟩ | h)
      · exact absurd (manyAt_lt h) (Nat.lt_irrefl _)
      · exact h
  · exact (hr j hj).1 (by omega)

theorem QAt.many {ao : Option Addr} {W : World} (h : QAt L ao W) {q : Nat} (hq : q < L.length) : ∃ g, ao = some ⟨g, 0, none⟩ ∧ W.cell? ⟨g, q * 6, none⟩ = some (.bool (manyAt L q)) := by
  obtain ⟨g, e, h1⟩ := h q hq
  refine ⟨g, e, ?_⟩
  have := h1 0 (by omega)
  rw [Nat.add_zero, Nat.mul_comm] at this
  rw [this]
  simp only [manyAt, List.getElem?_eq_getElem hq]
  cases L[q] <;> rfl
theorem info4 : (Try.prog.info? 4).map (fun i => (i.zero, i.size, i.bytes)) = some (some (.bool false), 1, 1) := by kernel_rfl
set_option maxRecDepth 100000 in
theorem make_bools (n : Nat) (W : World) (hn : n ≤ 1000) : (Instr.makeSlice 84 (.int .i64 (n : Int)) (.int .i64 (n : Int))).run Try.prog W = .ok (.slice (some ⟨W.heap.size, 0, none⟩) n n) (W.alloc (.cells (boolsA (fun _ => false) n) 4)) := by
  obtain ⟨i, hi, hinf⟩ := Option.map_eq_some_iff.1 info4
  simp only [Prod.mk.injEq] at hinf
  obtain ⟨hz, hz1, hz2⟩ := hinf
  rw [run_makeSlice W 84 4 i (.bool false) Try.underlying84 hi hz .i64 .i64 n n (by omega) (Int.le_refl _) (by rw [hz1]; omega) (by rw [hz2]; omega) (by omega)]
  have e : madeCells (Value.bool false).cells ((n : Int).toNat * i.size) = boolsA (fun _ => false) n := by
    rw [Int.toNat_natCast, hz1, Nat.mul_one, ← boolsA_no]
    unfold madeCells
    apply Array.ext (by simp)
    intro i h1 h2
    simp [Value.cells, Nat.mod_one]
  rw [e, Int.toNat_natCast]
end Go.Proofs.Ytkohpijpipcajaa

namespace Go.Proofs.Ytkohpijpipcajaa
open Go.RowKit
set_option linter.unusedVariables false
set_option linter.unusedSimpArgs false

/-- the box of a part, while nothing but new memory is made. -/
def Box6 (b k gb : Nat) (m0 a0 n0 : Bool) (s0 : ByteArray) (o0 : Int) (i0 : Bool) (V w' : World) : Prop := (w'.cell? ⟨b, k, none⟩ = some (.bool true) ∧ w'.cell? ⟨gb, 0, none⟩ = some (.bool m0) ∧ w'.cell? ⟨gb, 1, none⟩ = some (.bool a0) ∧ w'.cell? ⟨gb, 2, none⟩ = some (.bool n0) ∧ w'.cell? ⟨gb, 3, none⟩ = some (.string s0) ∧ w'.cell? ⟨gb, 4, none⟩ = some (.int .u8 o0) ∧ w'.cell? ⟨gb, 5, none⟩ = some (.bool i0) ∧ Below V.heap.size V w')
theorem Box6.later {b k gb : Nat} {m0 a0 n0 : Bool} {s0 : ByteArray} {o0 : Int} {i0 : Bool} {V u u' : World} (h : Box6 b k gb m0 a0 n0 s0 o0 i0 V u) (hb : Below u.heap.size u u') : Box6 b k gb m0 a0 n0 s0 o0 i0 V u' := by
  obtain ⟨hk, h0, h1, h2, h3, h4, h5, h6⟩ := h
  exact ⟨cell_later hb hk, cell_later hb h0, cell_later hb h1, cell_later hb h2, cell_later hb h3, cell_later hb h4, cell_later hb h5, h6.trans (hb.mono h6.size)⟩
theorem box6_new {b k : Nat} {m0 a0 n0 : Bool} {s0 : ByteArray} {o0 : Int} {i0 : Bool} {wr V : World} (hb : Below (wr.heap.size + 1) (wr.alloc (Obj.cells #[.bool m0, .bool a0, .bool n0, .string s0, .int .u8 o0, .bool i0] 86)) V) (hk : V.cell? ⟨b, k, none⟩ = some (.bool true)) : Box6 b k wr.heap.size m0 a0 n0 s0 o0 i0 V V.drew := by
  have hn := heap_alloc_new wr (Obj.cells #[.bool m0, .bool a0, .bool n0, .string s0, .int .u8 o0, .bool i0] 86)
  have k' : ∀ j, V.drew.cell? ⟨wr.heap.size, j, none⟩ = (#[Value.bool m0, .bool a0, .bool n0, .string s0, .int .u8 o0, .bool i0] : Array Value)[j]? := fun j => (hb.cell (p := ⟨wr.heap.size, j, none⟩) (Nat.lt_succ_self _)).trans (cell_of_row _ _ _ _ _ _ hn)
  exact ⟨hk, k' 0, k' 1, k' 2, k' 3, k' 4, k' 5, (Below.refl _ _).drew⟩
theorem row_set {b N k : Nat} {h : Nat → Bool} {w : World} (hr : w.heap[b]? = some (.cells (boolsA h N) 4 (0, 0))) : (w.setCell ⟨b, k, none⟩ (.bool true)).heap[b]? = some (.cells (boolsA (setB h k) N) 4 (0, 0)) := by
  rw [setCell_eq_setRow w b k _ 4 (0, 0) _ hr, setRow_heap w b _ _ 4 (0, 0) hr, boolsA_set]

theorem box6_set {b b2 k : Nat} {m0 a0 n0 : Bool} {s0 : ByteArray} {o0 : Int} {i0 : Bool} {wr : World} {v : Value} (hb : b < wr.heap.size) (hne : b ≠ b2) (hk : wr.cell? ⟨b, k, none⟩ = some (.bool true)) :
    Box6 b k wr.heap.size m0 a0 n0 s0 o0 i0 ((wr.setCell ⟨b2, k, none⟩ v).alloc (Obj.cells #[.bool m0, .bool a0, .bool n0, .string s0, .int .u8 o0, .bool i0] 86)) ((wr.setCell ⟨b2, k, none⟩ v).alloc (Obj.cells #[.bool m0, .bool a0, .bool n0, .string s0, .int .u8 o0, .bool i0] 86)).drew := by
  have hz : (wr.setCell ⟨b2, k, none⟩ v).heap.size = wr.heap.size := by simp
  have := box6_new (b := b) (k := k) (wr := wr.setCell ⟨b2, k, none⟩ v) (m0 := m0) (a0 := a0) (n0 := n0) (s0 := s0) (o0 := o0) (i0 := i0) (Below.refl _ _)
    ((World.cell?_of_block (w := wr) ((heap_alloc_old _ _ (by rw [hz]; exact hb)).trans (heap_setCell_other _ _ _ _ (by simpa using hne)))).trans hk)
  rwa [hz] at this

set_option maxRecDepth 1000000 in
set_option maxHeartbeats 8000000 in
theorem ref_glob_any (p s : ByteArray) (f : Bool) (w : World) (hp : p.size ≤ 200) (hs : s.size ≤ 1000) : Calls Try.prog 46 #[.string p, .string s, .bool f] w (WPost (GlobP p f s) w) := by
  have HPL := Lib.hid (prs_length p p.size 0)
  have HOK := Lib.hid (prs_ok p p.size 0 (by omega))
  go_enter Try.func46, Try.ntmps46
  go_wp2_with fail
  refine (ref_parts_any p _ hp).mono ?_
  rintro e w1 ⟨ao, cap, rfl, hq, hb⟩
  have HQ := Lib.hid hq
  have HB := Lib.hid hb
  have hlen : (prsL p).length ≤ 200 := by have := HPL.out; unfold prsL; omega
  have HOK2 : Hid (∀ r ∈ prsL p, okR r) := HOK
  clear hq hb
  have HG : Hid (GlobP p f s ↔ Mt (prsL p) f s 0 0) := Lib.hid Iff.rfl
  generalize prsL p = L at HQ hlen HOK2 HG
  obtain ⟨N, hN⟩ : ∃ N, N = L.length + 1 := ⟨_, rfl⟩
  have hNi : (L.length : Int) + 1 = (N : Int) := by omega
  have hmk : ∀ W : World, (Instr.makeSlice 84 (.int .i64 (N : Int)) (.int .i64 (N : Int))).run Try.prog W = .ok (.slice (some ⟨W.heap.size, 0, none⟩) N N) (W.alloc (.cells (boolsA (fun _ => false) N) 4)) := fun W => make_bools N W (by omega)
  have HN := Lib.hid hN
  have hN0 : (0 : Int) < (N : Int) := by omega
  clear hN
  have hn0 := heap_alloc_new w1 (.cells ((boolsA (fun _ => false) N).setIfInBounds 0 (.bool true)) 4)
  have hb0 : Below w1.heap.size w1 (w1.alloc (.cells ((boolsA (fun _ => false) N).setIfInBounds 0 (.bool true)) 4)) := (Below.refl _ _).alloc (Nat.le_refl _) _
  rw [boolsA_set] at hn0
  have HR0 : Hid ((w1.alloc (.cells ((boolsA (fun _ => false) N).setIfInBounds 0 (.bool true)) 4)).heap[w1.heap.size]? = some (.cells (boolsA (setB (fun _ => false) 0) N) 4 (0, 0))) := Lib.hid (by rw [boolsA_set]; exact hn0)
  have HB0 := Lib.hid hb0
  clear hn0 hb0
  have hn0 := heap_alloc_new w1 (.cells (boolsA (fun _ => false) N) 4)
  have hc0 := (cell_of_row _ _ 0 _ _ _ hn0).trans (boolsA_at (fun _ => false) (show 0 < N by have := HN.out; omega))
  have hf0 := frozen_of_row _ _ 0 _ _ hn0
  clear hn0
  go_wp2
  clear hc0 hf0
  generalize w1.alloc (.cells ((boolsA (fun _ => false) N).setIfInBounds 0 (.bool true)) 4) = W0 at HR0 HB0 ⊢
  go_loopw [8, 9] (fun v i wr => ∃ (n b : Nat) (h : Nat → Bool), v = .slice (some ⟨b, 0, none⟩) N N ∧ i = .int .i64 n ∧ n ≤ s.size ∧ w1.heap.size ≤ b ∧ Hid (∀ j, j < N → (h j = true ↔ Pa L f s j n)) ∧ Hid (wr.heap[b]? = some (.cells (boolsA h N) 4 (0, 0))) ∧ Hid (Below w1.heap.size w1 wr)) (fun _ i _ => s.size - (intOf i).toNat)
  case atStart => exact ⟨0, w1.heap.size, _, rfl, rfl, Nat.zero_le _, Nat.le_refl _, Lib.hid fun j hj => by rw [pa_zero]; simp [setB], HR0, HB0⟩
  case round =>
    obtain ⟨n, b, h, rfl, rfl, hn, hbw, HPA, HR, HBW⟩ := hrel
    go_wp2
    go_loopw [26] (fun u wr => ∃ (k : Nat) (h2 : Nat → Bool), u = .int .i64 k ∧ k ≤ L.length ∧ Hid (CloR L f s N k n h2) ∧ Hid (wr.heap[b]? = some (.cells (boolsA h2 N) 4 (0, 0))) ∧ Hid (Below w1.heap.size w1 wr)) (fun u _ => L.length - (intOf u).toNat)
    case atStart => exact ⟨0, h, rfl, Nat.zero_le _, Lib.hid (clo_start HPA.out), HR, HBW⟩
    case round =>
      obtain ⟨k, h2, rfl, hk, HC, HR2, HB2⟩ := hrel
      by_cases hlt : k < L.length
      · have hkN : k + 1 < N := by have := HN.out; omega
        have c1 : (k : Int) < (N : Int) := by omega
        have c2 : (k : Int) + 1 < (N : Int) := by omega
        have c3 : ((k : Int) + 1).toNat = k + 1 := by omega
        obtain ⟨g, rfl, hcm⟩ := (HQ.out.below HB2.out).many hlt
        have hck := (cell_of_row _ _ k _ _ _ HR2.out).trans (boolsA_at h2 (show k < N by omega))
        cases ehk : h2 k with
        | false =>
          rw [ehk] at hck
          have HC2 := Lib.hid (clo_step HC.out hkN (h' := h2) fun j => by simp [ehk])
          clear ehk hcm
          go_wp2
          go_roundw
          case rel => exact ⟨k + 1, h2, by go_num, by omega, HC2, HR2, HB2⟩
          case measure => simp [intOf]; omega
        | true =>
          rw [ehk] at hck
          cases em : manyAt L k with
          | false =>
            rw [em] at hcm
            have HC2 := Lib.hid (clo_step HC.out hkN (h' := h2) fun j => by simp [ehk, em])
            clear ehk em
            go_wp2
            go_roundw
            case rel => exact ⟨k + 1, h2, by go_num, by omega, HC2, HR2, HB2⟩
            case measure => simp [intOf]; omega
          | true =>
            rw [em] at hcm
            have HC2 := Lib.hid (clo_step HC.out hkN (h' := setB h2 (k + 1)) fun j => by simp [ehk, em, setB])
            obtain ⟨v1, hv1⟩ : ∃ v1, v1 = Value.bool (h2 (k + 1)) := ⟨_, rfl⟩
            have hck1 := (cell_of_row _ _ (k + 1) _ _ _ HR2.out).trans (boolsA_at h2 hkN)
            rw [← hv1] at hck1
            have hfz := frozen_of_row _ _ (k + 1) _ _ HR2.out
            have HR3 := Lib.hid (row_set (k := k + 1) HR2.out)
            have HB3 : Hid (Below w1.heap.size w1 (wr.setCell ⟨b, k + 1, none⟩ (.bool true))) := Lib.hid (HB2.out.setCell hbw _)
            clear ehk em hv1
            go_wp2
            go_roundw
            case rel => exact ⟨k + 1, _, by go_num, by omega, HC2, HR3, HB3⟩
            case measure => simp [intOf]; omega
      · obtain rfl : k = L.length := by omega
        have HP2 : Hid (∀ j, j < N → (h2 j = true ↔ Pre L f s j n)) := Lib.hid fun j hj => (HC.out j hj).1 (by have := HN.out; omega)
        have hlN : L.length < N := by have := HN.out; omega
        by_cases hend : n = s.size
        · have hcl := (cell_of_row _ _ L.length _ _ _ HR2.out).trans (boolsA_at h2 hlN)
          have hres : Hid (h2 L.length = true ↔ Mt L f s 0 0) := Lib.hid (by rw [HP2.out _ hlN, hend, mt_iff_pre])
          generalize h2 L.length = r at hcl hres
          have c1 : (L.length : Int) < (N : Int) := by omega
          have hend2 : ((n : Int) == (s.size : Int)) = true := by simp [hend]
          have hend3 : (n == s.size) = true := by simp [hend]
          clear hend
          go_wp2
          go_ret
          exact ⟨r, rfl, hres.out.trans HG.out.symm, HB.out.trans (HB2.out.mono HB.out.size)⟩
        · have hend2 : ((n : Int) == (s.size : Int)) = false := by rw [beq_eq_false_iff_ne]; omega
          have hend3 : (n == s.size) = false := by rw [beq_eq_false_iff_ne]; omega
          have hlt2 : n < s.size := by omega
          clear hend
          have hn2 := heap_alloc_new wr (.cells (boolsA (fun _ => false) N) 4)
          have hbA : Below wr.heap.size wr (wr.alloc (.cells (boolsA (fun _ => false) N) 4)) := (Below.refl _ _).alloc (Nat.le_refl _) _
          have hlb : b < wr.heap.size := lt_of_block HR2.out
          have HRb := Lib.hid ((hbA.block b hlb).trans HR2.out)
          have HBA : Hid (Below w1.heap.size w1 (wr.alloc (.cells (boolsA (fun _ => false) N) 4))) := Lib.hid (HB2.out.trans (hbA.mono HB2.out.size))
          have HR3 := Lib.hid hn2
          have hw1 : w1.heap.size ≤ wr.heap.size := HB2.out.size
          clear hn2 hbA
          go_wp2
          generalize wr.alloc (.cells (boolsA (fun _ => false) N) 4) = W2 at HRb HBA HR3 ⊢
          generalize wr.heap.size = b2 at hlb HR3 hw1 ⊢
          have hne : b ≠ b2 := by omega
          clear HR2 HB2 hlb
          go_loopw [55] (fun u wr => ∃ (k : Nat) (h3 : Nat → Bool), u = .int .i64 k ∧ k ≤ L.length ∧ Hid (NxtR L f s N k n h3) ∧ Hid (wr.heap[b2]? = some (.cells (boolsA h3 N) 4 (0, 0))) ∧ Hid (wr.heap[b]? = some (.cells (boolsA h2 N) 4 (0, 0))) ∧ Hid (Below w1.heap.size w1 wr)) (fun u _ => L.length - (intOf u).toNat)
          case atStart => exact ⟨0, _, rfl, Nat.zero_le _, Lib.hid nxt_start, HR3, HRb, HBA⟩
          case round =>
            obtain ⟨k, h3, rfl, hk, HX, HRX, HRB, HBX⟩ := hrel
            by_cases hlt : k < L.length
            · have hkN : k + 1 < N := by omega
              have c1 : (k : Int) < (N : Int) := by omega
              have c2 : (k : Int) + 1 < (N : Int) := by omega
              have c3 : ((k : Int) + 1).toNat = k + 1 := by omega
              have hx := byte_at s hlt2
              have hC := byteN_lt s n
              obtain ⟨g, rfl, hcs⟩ := (HQ.out.below HBX.out) k hlt
              obtain ⟨m0, a0, n0, s0, o0, i0, hcq, hm0⟩ : ∃ (m0 a0 n0 : Bool) (s0 : ByteArray) (o0 : Int) (i0 : Bool), cellsQ L[k] = #[.bool m0, .bool a0, .bool n0, .string s0, .int .u8 o0, .bool i0] ∧ m0 = manyAt L k := by
                have e : manyAt L k = isMany L[k] := by simp [manyAt, List.getElem?_eq_getElem hlt]
                rw [e]
                cases L[k] <;> exact ⟨_, _, _, _, _, _, rfl, rfl⟩
              have HT := Lib.hid (fun (W : World) (hW : True) => takes_any L[k] (byteN s n) f W hC (HOK2.out _ (List.getElem_mem hlt)))
              have htk : setOf f L[k] (byteN s n) = takesAt L f k (byteN s n) := by simp [takesAt, List.getElem?_eq_getElem hlt]
              rw [hcq, htk] at HT
              rw [hcq] at hcs
              have q0 := hcs 0 (by omega)
              have q1 := hcs 1 (by omega)
              have q2 := hcs 2 (by omega)
              have q3 := hcs 3 (by omega)
              have q4 := hcs 4 (by omega)
              have q5 := hcs 5 (by omega)
              rw [Nat.mul_comm] at q0 q1 q2 q3 q4 q5
              simp only [Nat.add_zero, List.getElem?_toArray, List.getElem?_cons_zero, List.getElem?_cons_succ] at q0 q1 q2 q3 q4 q5
              have hlb : b < wr.heap.size := lt_of_block HRB.out
              have hlb2 : b2 < wr.heap.size := lt_of_block HRX.out
              have hck := (cell_of_row _ _ k _ _ _ HRB.out).trans (boolsA_at h2 (show k < N by omega))
              clear hcs hcq htk
              cases ehk : h2 k with
              | false =>
                rw [ehk] at hck
                have HX2 := Lib.hid (nxt_step (h3' := h3) HP2.out HX.out hlt2 hkN fun j => by simp [ehk])
                generalize byteN s n = C at hx hC HT
                have HS := Lib.hid (show Below wr.heap.size wr (wr.alloc (Obj.cells #[.bool m0, .bool a0, .bool n0, .string s0, .int .u8 o0, .bool i0] 86)) from (Below.refl _ _).alloc (Nat.le_refl _) _)
                clear ehk hm0
                go_wp2
                go_quiet (fail)
                go_wp2
                go_roundw
                case rel => exact ⟨k + 1, h3, by go_num, by omega, HX2, Lib.hid ((HS.out.block b2 hlb2).trans HRX.out), Lib.hid ((HS.out.block b hlb).trans HRB.out), Lib.hid (below_dn (HBX.out.trans (HS.out.mono HBX.out.size)) _)⟩
                case measure => simp [intOf]; omega
              | true =>
                rw [ehk] at hck
                have hbS : Below wr.heap.size wr (wr.alloc (Obj.cells #[.bool m0, .bool a0, .bool n0, .string s0, .int .u8 o0, .bool i0] 86)) := (Below.refl _ _).alloc (Nat.le_refl _) _
                cases em : manyAt L k with
                | true =>
                  rw [em] at hm0
                  subst hm0
                  have et : takesAt L f k (byteN s n) = false := by
                    cases e : takesAt L f k (byteN s n) with
                    | false => rfl
                    | true => have := takesAt_not_many e; rw [em] at this; cases this
                  have HX2 := Lib.hid (nxt_step (h3' := setB h3 k) HP2.out HX.out hlt2 hkN fun j => by simp [ehk, em, et, setB])
                  rw [et] at HT
                  generalize byteN s n = C at hx hC HT
                  have hckx := (cell_of_row _ _ k _ _ _ HRX.out).trans (boolsA_at h3 (show k < N by omega))
                  obtain ⟨v0, hv0⟩ : ∃ v0, v0 = Value.bool (h3 k) := ⟨_, rfl⟩
                  rw [← hv0] at hckx
                  have hfzx := frozen_of_row _ _ k _ _ HRX.out
                  have F1 := Lib.hid (box6_set (m0 := true) (a0 := a0) (n0 := n0) (s0 := s0) (o0 := o0) (i0 := i0) (v := .bool true) hlb hne hck)
                  have hz0 : (wr.setCell ⟨b2, k, none⟩ (.bool true)).heap.size = wr.heap.size := by simp
                  have HRXV : Hid (((wr.setCell ⟨b2, k, none⟩ (.bool true)).alloc (Obj.cells #[.bool true, .bool a0, .bool n0, .string s0, .int .u8 o0, .bool i0] 86)).heap[b2]? = some (.cells (boolsA (setB h3 k) N) 4 (0, 0))) := Lib.hid ((heap_alloc_old _ _ (by rw [hz0]; exact hlb2)).trans (row_set (k := k) HRX.out))
                  have HRBV : Hid (((wr.setCell ⟨b2, k, none⟩ (.bool true)).alloc (Obj.cells #[.bool true, .bool a0, .bool n0, .string s0, .int .u8 o0, .bool i0] 86)).heap[b]? = some (.cells (boolsA h2 N) 4 (0, 0))) := Lib.hid ((heap_alloc_old _ _ (by rw [hz0]; exact hlb)).trans ((heap_setCell_other _ _ _ _ (by simpa using hne)).trans HRB.out))
                  have HBXV : Hid (Below w1.heap.size w1 ((wr.setCell ⟨b2, k, none⟩ (.bool true)).alloc (Obj.cells #[.bool true, .bool a0, .bool n0, .string s0, .int .u8 o0, .bool i0] 86))) := Lib.hid ((HBX.out.setCell hw1 _).alloc (by rw [hz0]; exact HBX.out.size) _)
                  clear hz0
                  clear ehk em et hbS hv0
                  go_wp2
                  obtain ⟨V, hV⟩ : ∃ V, V = (wr.setCell ⟨b2, k, none⟩ (.bool true)).alloc (Obj.cells #[.bool true, .bool a0, .bool n0, .string s0, .int .u8 o0, .bool i0] 86) := ⟨_, rfl⟩
                  rw [← hV] at F1 HRXV HRBV HBXV ⊢
                  have hVs : wr.heap.size < V.heap.size := by rw [hV]; simp
                  clear hV hckx hfzx
                  go_region_held3 (fun w' => (w'.cell? ⟨b, k, none⟩ = some (.bool true) ∧ w'.cell? ⟨wr.heap.size, 0, none⟩ = some (.bool true) ∧ w'.cell? ⟨wr.heap.size, 1, none⟩ = some (.bool a0) ∧ w'.cell? ⟨wr.heap.size, 2, none⟩ = some (.bool n0) ∧ w'.cell? ⟨wr.heap.size, 3, none⟩ = some (.string s0) ∧ w'.cell? ⟨wr.heap.size, 4, none⟩ = some (.int .u8 o0) ∧ w'.cell? ⟨wr.heap.size, 5, none⟩ = some (.bool i0) ∧ Below V.heap.size V w')) (first | exact F1.out | exact F1.out.later hb5) (first | (go_at_call 75; refine (HT.out _ trivial).mono ?_; rintro e w5 ⟨rfl, hb5⟩))
                  all_goals
                    have HB5 := Lib.hid (F1.out.later hb5).2.2.2.2.2.2.2
                    have HRX5 := Lib.hid ((HB5.out.block b2 (Nat.lt_trans hlb2 hVs)).trans HRXV.out)
                    have HRB5 := Lib.hid ((HB5.out.block b (Nat.lt_trans hlb hVs)).trans HRBV.out)
                    have HBX5 := Lib.hid (HBXV.out.trans (HB5.out.mono HBXV.out.size))
                    clear hb5
                    go_wp2
                    go_roundw
                    case rel => exact ⟨k + 1, _, by go_num, by omega, HX2, HRX5, HRB5, HBX5⟩
                    case measure => simp [intOf]; omega
                | false =>
                  rw [em] at hm0
                  subst hm0
                  cases et : takesAt L f k (byteN s n) with
                  | false =>
                    have HX2 := Lib.hid (nxt_step (h3' := h3) HP2.out HX.out hlt2 hkN fun j => by simp [ehk, em, et])
                    rw [et] at HT
                    generalize byteN s n = C at hx hC HT
                    have HV := Lib.hid (show Below (wr.heap.size + 1) (wr.alloc (Obj.cells #[.bool false, .bool a0, .bool n0, .string s0, .int .u8 o0, .bool i0] 86)) (wr.alloc (Obj.cells #[.bool false, .bool a0, .bool n0, .string s0, .int .u8 o0, .bool i0] 86)) from Below.refl _ _)
                    have HS := Lib.hid hbS
                    clear ehk em et hbS
                    go_wp2
                    obtain ⟨V, hV⟩ : ∃ V, V = wr.alloc (Obj.cells #[.bool false, .bool a0, .bool n0, .string s0, .int .u8 o0, .bool i0] 86) := ⟨_, rfl⟩
                    rw [← hV] at HV HS ⊢
                    have F0 := Lib.hid (box6_new (b := b) (k := k) (V := V) (by rw [← hV]; exact HV.out) ((HS.out.cell (p := ⟨b, k, none⟩) hlb).trans hck))
                    have hVs : wr.heap.size < V.heap.size := by rw [hV]; simp
                    clear hV
                    go_region_held3 (fun w' => (w'.cell? ⟨b, k, none⟩ = some (.bool true) ∧ w'.cell? ⟨wr.heap.size, 0, none⟩ = some (.bool false) ∧ w'.cell? ⟨wr.heap.size, 1, none⟩ = some (.bool a0) ∧ w'.cell? ⟨wr.heap.size, 2, none⟩ = some (.bool n0) ∧ w'.cell? ⟨wr.heap.size, 3, none⟩ = some (.string s0) ∧ w'.cell? ⟨wr.heap.size, 4, none⟩ = some (.int .u8 o0) ∧ w'.cell? ⟨wr.heap.size, 5, none⟩ = some (.bool i0) ∧ Below V.heap.size V w')) (first | exact F0.out | exact F0.out.later hb5) (first | (go_at_call 75; refine (HT.out _ trivial).mono ?_; rintro e w5 ⟨rfl, hb5⟩))
                    all_goals
                      have HB5 := Lib.hid (F0.out.later hb5).2.2.2.2.2.2.2
                      have HRX5 := Lib.hid ((HB5.out.block b2 (Nat.lt_trans hlb2 hVs)).trans ((HS.out.block b2 hlb2).trans HRX.out))
                      have HRB5 := Lib.hid ((HB5.out.block b (Nat.lt_trans hlb hVs)).trans ((HS.out.block b hlb).trans HRB.out))
                      have HBX5 := Lib.hid (HBX.out.trans ((HS.out.trans (HB5.out.mono (Nat.le_of_lt hVs))).mono HBX.out.size))
                      clear hb5
                      go_wp2
                      go_roundw
                      case rel => exact ⟨k + 1, h3, by go_num, by omega, HX2, HRX5, HRB5, HBX5⟩
                      case measure => simp [intOf]; omega
                  | true =>
                    have HX2 := Lib.hid (nxt_step (h3' := setB h3 (k + 1)) HP2.out HX.out hlt2 hkN fun j => by simp [ehk, em, et, setB])
                    rw [et] at HT
                    generalize byteN s n = C at hx hC HT
                    have HV := Lib.hid (show Below (wr.heap.size + 1) (wr.alloc (Obj.cells #[.bool false, .bool a0, .bool n0, .string s0, .int .u8 o0, .bool i0] 86)) (wr.alloc (Obj.cells #[.bool false, .bool a0, .bool n0, .string s0, .int .u8 o0, .bool i0] 86)) from Below.refl _ _)
                    have HS := Lib.hid hbS
                    clear ehk em et hbS
                    go_wp2
                    obtain ⟨V, hV⟩ : ∃ V, V = wr.alloc (Obj.cells #[.bool false, .bool a0, .bool n0, .string s0, .int .u8 o0, .bool i0] 86) := ⟨_, rfl⟩
                    rw [← hV] at HV HS ⊢
                    have F0 := Lib.hid (box6_new (b := b) (k := k) (V := V) (by rw [← hV]; exact HV.out) ((HS.out.cell (p := ⟨b, k, none⟩) hlb).trans hck))
                    have hVs : wr.heap.size < V.heap.size := by rw [hV]; simp
                    clear hV
                    go_region_held3 (fun w' => (w'.cell? ⟨b, k, none⟩ = some (.bool true) ∧ w'.cell? ⟨wr.heap.size, 0, none⟩ = some (.bool false) ∧ w'.cell? ⟨wr.heap.size, 1, none⟩ = some (.bool a0) ∧ w'.cell? ⟨wr.heap.size, 2, none⟩ = some (.bool n0) ∧ w'.cell? ⟨wr.heap.size, 3, none⟩ = some (.string s0) ∧ w'.cell? ⟨wr.heap.size, 4, none⟩ = some (.int .u8 o0) ∧ w'.cell? ⟨wr.heap.size, 5, none⟩ = some (.bool i0) ∧ Below V.heap.size V w')) (first | exact F0.out | exact F0.out.later hb5) (first | (go_at_call 75; refine (HT.out _ trivial).mono ?_; rintro e w5 ⟨rfl, hb5⟩))
                    all_goals
                      have HB5 := Lib.hid (F0.out.later hb5).2.2.2.2.2.2.2
                      have HRX5 := Lib.hid ((HB5.out.block b2 (Nat.lt_trans hlb2 hVs)).trans ((HS.out.block b2 hlb2).trans HRX.out))
                      have HRB5 := Lib.hid ((HB5.out.block b (Nat.lt_trans hlb hVs)).trans ((HS.out.block b hlb).trans HRB.out))
                      have HBX5 := Lib.hid (HBX.out.trans ((HS.out.trans (HB5.out.mono (Nat.le_of_lt hVs))).mono HBX.out.size))
                      clear hb5
                      obtain ⟨v1, hv1⟩ : ∃ v1, v1 = Value.bool (h3 (k + 1)) := ⟨_, rfl⟩
                      have hck1 := (cell_of_row _ _ (k + 1) _ _ _ HRX5.out).trans (boolsA_at h3 hkN)
                      rw [← hv1] at hck1
                      have hfz := frozen_of_row _ _ (k + 1) _ _ HRX5.out
                      have HRX6 := Lib.hid (row_set (k := k + 1) HRX5.out)
                      have HRB6 : Hid ((w5.setCell ⟨b2, k + 1, none⟩ (.bool true)).heap[b]? = some (.cells (boolsA h2 N) 4 (0, 0))) := Lib.hid ((heap_setCell_other _ _ _ _ (by simpa using hne)).trans HRB5.out)
                      have HBX6 : Hid (Below w1.heap.size w1 (w5.setCell ⟨b2, k + 1, none⟩ (.bool true))) := Lib.hid (HBX5.out.setCell hw1 _)
                      clear hv1
                      go_wp2
                      go_roundw
                      case rel => exact ⟨k + 1, _, by go_num, by omega, HX2, HRX6, HRB6, HBX6⟩
                      case measure => simp [intOf]; omega
            · obtain rfl : k = L.length := by omega
              have HPA2 := Lib.hid (nxt_end hlt2 HN.out HX.out)
              go_wp2
              go_roundw
              case rel => exact ⟨n + 1, b2, h3, rfl, by go_num, by omega, hw1, HPA2, HRX, HBX⟩
              case measure => simp [intOf]; omega
end Go.Proofs.Ytkohpijpipcajaa
