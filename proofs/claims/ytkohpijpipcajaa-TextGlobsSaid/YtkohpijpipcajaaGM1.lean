import Derived.Test.YtkohpijpipcajaaE1
import Derived.Test.YtkohpijpipcajaaA1
import Derived.Deep.RegionWith
import Derived.Laws.AppendOwn
import Derived.Test.YtkohpijpipcajaaGA1
import Derived.Test.YtkohpijpipcajaaE4
import Derived.Test.YtkohpijpipcajaaU1
import Derived.Test.YtkohpijpipcajaaE3
namespace Go.Proofs.Ytkohpijpipcajaa
open Go.RowKit
set_option linter.unusedVariables false
set_option linter.unusedSimpArgs false

/-- a part's cells: whether it is many, and its set. -/
def cellsP (many : Bool) (h : Nat → Bool) : Array Value := (Array.range 257).map fun j => .bool (if j = 0 then many else h (j - 1))
theorem cellsP_size (m : Bool) (h : Nat → Bool) : (cellsP m h).size = 257 := by simp [cellsP]
theorem cellsP_zero (m : Bool) (h : Nat → Bool) : (cellsP m h)[0]? = some (.bool m) := by simp [cellsP]
theorem cellsP_at (m : Bool) (h : Nat → Bool) {c : Nat} (hc : c < 256) : (cellsP m h)[1 + c]? = some (.bool (h c)) := by
  simp [cellsP, Array.getElem?_range, show 1 + c < 257 by omega]
theorem cellsP_one (m : Bool) (h : Nat → Bool) : (cellsP m h).all (·.oneCell') = true := by
  rw [Array.all_eq_true]
  intro i hi
  simp [cellsP, Value.oneCell']
theorem cellsP_congr {m : Bool} {h h' : Nat → Bool} (e : ∀ c, c < 256 → h c = h' c) : cellsP m h = cellsP m h' := by
  unfold cellsP
  apply Array.ext (by simp)
  intro i h1 h2
  have hi : i < 257 := by simpa using h1
  simp only [Array.getElem_map, Array.getElem_range]
  by_cases e0 : i = 0
  · rw [if_pos e0, if_pos e0]
  · rw [if_neg e0, if_neg e0, e (i - 1) (by omega)]
theorem cellsP_set (m : Bool) (h : Nat → Bool) {c : Nat} (hc : c < 256) : (cellsP m h).setIfInBounds (1 + c) (.bool true) = cellsP m (fun x => h x || x == c) := by
  apply Array.ext (by simp [cellsP])
  intro i h1 h2
  have hi : i < 257 := by simpa [cellsP] using h1
  by_cases e : i = 1 + c
  · subst e
    rw [Array.getElem_setIfInBounds_self]
    simp [cellsP]
  · rw [Array.getElem_setIfInBounds_ne (by simp [cellsP]; exact hi) (fun x => e x.symm)]
    simp only [cellsP, Array.getElem_map, Array.getElem_range]
    by_cases e0 : i = 0
    · rw [if_pos e0, if_pos e0]
    · rw [if_neg e0, if_neg e0]
      have : (i - 1 == c) = false := by rw [beq_eq_false_iff_ne]; omega
      rw [this, Bool.or_false]
theorem zero_cellsP : Try.zeroCells79 = cellsP false (fun _ => false) := by
  rw [zc79]
  apply Array.ext (by simp [cellsP])
  intro i h1 h2
  simp [cellsP]
theorem cellsP_many (m m' : Bool) (h : Nat → Bool) : (cellsP m h).setIfInBounds 0 (.bool m') = cellsP m' h := by
  apply Array.ext (by simp [cellsP])
  intro i h1 h2
  have hi : i < 257 := by simpa [cellsP] using h1
  by_cases e : i = 0
  · subst e
    rw [Array.getElem_setIfInBounds_self]
    simp [cellsP]
  · rw [Array.getElem_setIfInBounds_ne (by simp [cellsP]; exact hi) (fun x => e x.symm)]
    simp only [cellsP, Array.getElem_map, Array.getElem_range]
    rw [if_neg e, if_neg e]

def smN (c : Nat) : Nat := if 65 ≤ c ∧ c ≤ 90 then c + 32 else c
def grN (c : Nat) : Nat := if 97 ≤ c ∧ c ≤ 122 then c - 32 else c
theorem sml_nat {c : Nat} : sml (c : Int) = (smN c : Nat) := by unfold sml smN; split <;> (split <;> omega)
theorem grt_nat {c : Nat} : grt (c : Int) = (grN c : Nat) := by unfold grt grN; split <;> (split <;> omega)
theorem smN_lt {c : Nat} (h : c ≤ 255) : smN c ≤ 255 := by unfold smN; split <;> omega
theorem grN_lt {c : Nat} (h : c ≤ 255) : grN c ≤ 255 := by unfold grN; split <;> omega
/-- does a member of a set take a byte? -/
def put1 (f : Bool) (c x : Nat) : Bool := x == c || (f && (x == smN c || x == grN c))

theorem small_nat (c : Nat) (w : World) (h : c ≤ 255) : Calls Try.prog 58 #[.int .u8 c] w fun e w' => e = .returned (.int .u8 (smN c : Nat)) ∧ w = w' := by
  rw [← sml_nat]; exact small_any c w (by omega) (by omega)
theorem great_nat (c : Nat) (w : World) (h : c ≤ 255) : Calls Try.prog 60 #[.int .u8 c] w fun e w' => e = .returned (.int .u8 (grN c : Nat)) ∧ w = w' := by
  rw [← grt_nat]; exact great_any c w (by omega) (by omega)

/-- what put leaves. -/
def PutPost (g : Nat) (cs : Array Value) (w : World) (e : Ending) (w' : World) : Prop := e = .returned (.tuple #[]) ∧ w.grownBy w' (some g) ∧ w'.heap[g]? = some (.cells cs 79 (0, 0)) ∧ w'.heap.size = w.heap.size

theorem put_no (g fb c : Nat) (m : Bool) (h : Nat → Bool) (w : World) (hc : c ≤ 255) (hr : w.heap[g]? = some (.cells (cellsP m h) 79 (0, 0))) (h3 : w.cell? ⟨fb, 0, none⟩ = some (.bool false)) (hne : g ≠ fb) :
    Calls Try.prog 89 #[.int .u8 c, .pointer (some ⟨g, 0, none⟩), .pointer (some ⟨fb, 0, none⟩)] w (PutPost g (cellsP m (fun x => h x || put1 false c x)) w) := by
  refine (put_c g fb c (.bool (h c)) w hc ((cell_of_row _ _ _ _ _ _ hr).trans (cellsP_at m h (by omega))) (frozen_of_row _ _ _ _ _ hr) h3 hne).mono ?_
  rintro e w' ⟨rfl, rfl⟩
  refine ⟨rfl, ⟨rfl, rfl, rfl, by simp, fun k _ hk => heap_setCell_other _ _ _ _ (fun e => hk (by simp at e; rw [e]))⟩, ?_⟩
  refine ⟨?_, by simp⟩
  rw [setCell_eq_setRow w g (1 + c) _ 79 (0, 0) _ hr, setRow_heap w g _ _ 79 (0, 0) hr, cellsP_set m h (by omega)]
  simp [put1]

set_option maxRecDepth 100000 in
theorem put_end {g c S G : Nat} {m : Bool} {h : Nat → Bool} {w V : World} (hS : S < 256) (hG : G < 256) (q : w.grownBy V (some g)) (qs : V.heap.size = w.heap.size) (r : V.heap[g]? = some (.cells (cellsP m (fun x => h x || x == c)) 79 (0, 0)))
    (hp : ∀ x, put1 true c x = (x == c || (true && (x == S || x == G)))) :
    PutPost g (cellsP m (fun x => h x || put1 true c x)) w (.returned (.tuple #[])) ((V.setCell ⟨g, 1 + S, none⟩ (.bool true)).setCell ⟨g, 1 + G, none⟩ (.bool true)).drew := by
  have hz : ((V.setCell ⟨g, 1 + S, none⟩ (.bool true)).setCell ⟨g, 1 + G, none⟩ (.bool true)).heap.size = V.heap.size := by simp
  have r1 : (V.setCell ⟨g, 1 + S, none⟩ (.bool true)).heap[g]? = some (.cells (cellsP m (fun x => (h x || x == c) || x == S)) 79 (0, 0)) := by
    rw [setCell_eq_setRow V g (1 + S) _ 79 (0, 0) _ r, setRow_heap V g _ _ 79 (0, 0) r, cellsP_set m _ hS]
  have r2 : ((V.setCell ⟨g, 1 + S, none⟩ (.bool true)).setCell ⟨g, 1 + G, none⟩ (.bool true)).heap[g]? = some (.cells (cellsP m (fun x => ((h x || x == c) || x == S) || x == G)) 79 (0, 0)) := by
    rw [setCell_eq_setRow _ g (1 + G) _ 79 (0, 0) _ r1, setRow_heap _ g _ _ 79 (0, 0) r1, cellsP_set m _ hG]
  refine ⟨rfl, ⟨q.os, q.tape, q.output, Nat.le_trans q.size (Nat.le_of_eq hz.symm), fun k hk hne => ?_⟩, ?_, hz.trans qs⟩
  · have hne' : k ≠ g := fun e => hne (by rw [e])
    show ((V.setCell ⟨g, 1 + S, none⟩ (.bool true)).setCell ⟨g, 1 + G, none⟩ (.bool true)).heap[k]? = _
    rw [heap_setCell_other _ _ _ _ (by simpa using hne'), heap_setCell_other _ _ _ _ (by simpa using hne')]
    exact q.block k hk hne
  · show ((V.setCell ⟨g, 1 + S, none⟩ (.bool true)).setCell ⟨g, 1 + G, none⟩ (.bool true)).heap[g]? = _
    rw [r2, cellsP_congr (h' := fun x => h x || put1 true c x) (fun x _ => by rw [hp x, Bool.true_and, Bool.or_assoc, Bool.or_assoc])]
set_option maxRecDepth 100000 in
set_option maxHeartbeats 4000000 in
theorem put_yes (g fb c : Nat) (m : Bool) (h : Nat → Bool) (w : World) (hc : c ≤ 255) (hr : w.heap[g]? = some (.cells (cellsP m h) 79 (0, 0))) (h3 : w.cell? ⟨fb, 0, none⟩ = some (.bool true)) (hne : g ≠ fb) :
    Calls Try.prog 89 #[.int .u8 c, .pointer (some ⟨g, 0, none⟩), .pointer (some ⟨fb, 0, none⟩)] w (PutPost g (cellsP m (fun x => h x || put1 true c x)) w) := by
  have hs := smN_lt hc
  have hg := grN_lt hc
  have HS := Lib.hid (small_nat c · hc)
  have HG := Lib.hid (great_nat c · hc)
  generalize hSe : smN c = S at hs HS
  generalize hGe : grN c = G at hg HG
  have HSe := Lib.hid hSe
  have HGe := Lib.hid hGe
  clear hSe hGe
  obtain ⟨v, hv⟩ : ∃ v, v = Value.bool (h c) := ⟨_, rfl⟩
  have h1 : w.cell? ⟨g, 1 + c, none⟩ = some v := by rw [hv]; exact (cell_of_row _ _ _ _ _ _ hr).trans (cellsP_at m h (by omega))
  have h2 : w.frozen? ⟨g, 1 + c, none⟩ = false := frozen_of_row _ _ _ _ _ hr
  have R := Lib.hid hr
  clear hr hv
  go_enter Try.func89, Try.ntmps89
  go_wp2
  have r1 : (w.setCell ⟨g, 1 + c, none⟩ (.bool true)).heap[g]? = some (.cells (cellsP m (fun x => h x || x == c)) 79 (0, 0)) := by
    rw [setCell_eq_setRow w g (1 + c) _ 79 (0, 0) _ R.out, setRow_heap w g _ _ 79 (0, 0) R.out, cellsP_set m h (by omega)]
  have q1 : w.grownBy (w.setCell ⟨g, 1 + c, none⟩ (.bool true)) (some g) := ⟨rfl, rfl, rfl, by simp, fun k _ hk => heap_setCell_other _ _ _ _ (fun e => hk (by simp at e; rw [e]))⟩
  have q2 : (w.setCell ⟨g, 1 + c, none⟩ (.bool true)).heap.size = w.heap.size := by simp
  generalize w.setCell ⟨g, 1 + c, none⟩ (.bool true) = V at r1 q1 q2 ⊢
  obtain ⟨v1, hv1⟩ : ∃ v, v = Value.bool (h S || S == c) := ⟨_, rfl⟩
  have k1 : V.cell? ⟨g, 1 + S, none⟩ = some v1 := by rw [hv1]; exact (cell_of_row _ _ _ _ _ _ r1).trans (cellsP_at m _ (by omega))
  have k2 : V.frozen? ⟨g, 1 + S, none⟩ = false := frozen_of_row _ _ _ _ _ r1
  obtain ⟨v2, hv2⟩ : ∃ v, v = Value.bool (h G || G == c) := ⟨_, rfl⟩
  have k3 : V.cell? ⟨g, 1 + G, none⟩ = some v2 := by rw [hv2]; exact (cell_of_row _ _ _ _ _ _ r1).trans (cellsP_at m _ (by omega))
  have k4 : V.frozen? ⟨g, 1 + G, none⟩ = false := frozen_of_row _ _ _ _ _ r1
  have R1 := Lib.hid r1
  have Q1 := Lib.hid q1
  have Q2 := Lib.hid q2
  clear r1 q1 q2 h1 h2 h3 hv1 hv2
  by_cases hSG : S = G
  · subst hSG
    go_region_with (first | (go_at_call 58; refine (HS.out _).mono ?_; rintro e w' ⟨rfl, rfl⟩) | (go_at_call 60; refine (HG.out _).mono ?_; rintro e w' ⟨rfl, rfl⟩))
    all_goals (go_end0; exact put_end (by omega) (by omega) Q1.out Q2.out R1.out fun x => by rw [← HSe.out, put1, HGe.out, ← HSe.out])
  · have hne1 : G ≠ S := fun e => hSG e.symm
    go_region_with (first | (go_at_call 58; refine (HS.out _).mono ?_; rintro e w' ⟨rfl, rfl⟩) | (go_at_call 60; refine (HG.out _).mono ?_; rintro e w' ⟨rfl, rfl⟩))
    all_goals (go_end0; exact put_end (by omega) (by omega) Q1.out Q2.out R1.out fun x => by rw [← HSe.out, ← HGe.out]; rfl)
theorem put_any (f : Bool) (g fb c : Nat) (m : Bool) (h : Nat → Bool) (w : World) (hc : c ≤ 255) (hr : w.heap[g]? = some (.cells (cellsP m h) 79 (0, 0))) (h3 : w.cell? ⟨fb, 0, none⟩ = some (.bool f)) (hne : g ≠ fb) :
    Calls Try.prog 89 #[.int .u8 c, .pointer (some ⟨g, 0, none⟩), .pointer (some ⟨fb, 0, none⟩)] w (PutPost g (cellsP m (fun x => h x || put1 f c x)) w) := by
  cases f with
  | false => exact put_no g fb c m h w hc hr h3 hne
  | true => exact put_yes g fb c m h w hc hr h3 hne
end Go.Proofs.Ytkohpijpipcajaa

namespace Go.Proofs.Ytkohpijpipcajaa
open Go.RowKit Go.Shelf
set_option linter.unusedVariables false
set_option linter.unusedSimpArgs false

/-- a part of a pattern. -/
inductive RP where
  | many
  | any
  | none
  | set (s : ByteArray)
  | one (c : Nat)
def isMany : RP → Bool
  | .many => true
  | _ => false
def isNone : RP → Bool
  | .none => true
  | _ => false
def anyPut (f : Bool) (l : List (Fin 256)) (x : Nat) : Bool := l.any fun m => put1 f m.val x
def setOf (f : Bool) : RP → Nat → Bool
  | .any => fun _ => true
  | .set s => anyPut f (membersF s)
  | .one c => put1 f c
  | _ => fun _ => false
/-- where a set ends, counted from its bracket. -/
def clo (p : ByteArray) (i : Nat) : Int := Lib.indexByte (p.extract i p.size).data.toList 93
def prs (p : ByteArray) : Nat → Nat → List RP
  | 0, _ => []
  | n + 1, i =>
    if i < p.size then
      (if byteN p i = 42 then .many :: prs p n (i + 1)
       else if byteN p i = 63 then .any :: prs p n (i + 1)
       else if byteN p i = 91 then (if clo p i < 0 then [.none] else .set (p.extract (i + 1) (i + (clo p i).toNat)) :: prs p n (i + (clo p i).toNat + 1))
       else if byteN p i = 92 ∧ i + 1 < p.size then .one (byteN p (i + 1)) :: prs p n (i + 2)
       else .one (byteN p i) :: prs p n (i + 1))
    else []
def prsL (p : ByteArray) : List RP := prs p p.size 0
def cellsR (f : Bool) (r : RP) : Array Value := cellsP (isMany r) (setOf f r)
def cellsL (f : Bool) (l : List RP) : List Value := l.flatMap fun r => (cellsR f r).toList

theorem prs_stop {p : ByteArray} {n i : Nat} (h : p.size ≤ i) : prs p n i = [] := by
  cases n with
  | zero => rfl
  | succ n => rw [prs, if_neg (by omega)]
theorem prs_succ {p : ByteArray} {n i : Nat} (hn : p.size - i ≤ n) (h : i < p.size) : ∃ n', n = n' + 1 ∧ p.size - (i + 1) ≤ n' := ⟨n - 1, by omega, by omega⟩
theorem prs_many {p : ByteArray} {n i : Nat} (h : i < p.size) (e : byteN p i = 42) : prs p (n + 1) i = .many :: prs p n (i + 1) := by
  rw [prs, if_pos h, if_pos e]
theorem prs_any {p : ByteArray} {n i : Nat} (h : i < p.size) (e : byteN p i = 63) : prs p (n + 1) i = .any :: prs p n (i + 1) := by
  rw [prs, if_pos h, if_neg (by omega), if_pos e]
theorem prs_none {p : ByteArray} {n i : Nat} (h : i < p.size) (e : byteN p i = 91) (hc : clo p i < 0) : prs p (n + 1) i = [.none] := by
  rw [prs, if_pos h, if_neg (by omega), if_neg (by omega), if_pos e, if_pos hc]
theorem prs_set {p : ByteArray} {n i d : Nat} (h : i < p.size) (e : byteN p i = 91) (hc : clo p i = d) : prs p (n + 1) i = .set (p.extract (i + 1) (i + d)) :: prs p n (i + d + 1) := by
  rw [prs, if_pos h, if_neg (by omega), if_neg (by omega), if_pos e, hc, if_neg (by omega)]
  rfl
theorem prs_esc {p : ByteArray} {n i : Nat} (h : i + 1 < p.size) (e : byteN p i = 92) : prs p (n + 1) i = .one (byteN p (i + 1)) :: prs p n (i + 2) := by
  rw [prs, if_pos (by omega), if_neg (by omega), if_neg (by omega), if_neg (by omega), if_pos ⟨e, h⟩]
theorem prs_one {p : ByteArray} {n i : Nat} (h : i < p.size) (e1 : byteN p i ≠ 42) (e2 : byteN p i ≠ 63) (e3 : byteN p i ≠ 91) (e4 : ¬ (byteN p i = 92 ∧ i + 1 < p.size)) : prs p (n + 1) i = .one (byteN p i) :: prs p n (i + 1) := by
  rw [prs, if_pos h, if_neg e1, if_neg e2, if_neg e3, if_neg e4]

/-- where the first byte of a kind is. -/
theorem first_is (s : ByteArray) (b : UInt8) : (Lib.indexByte s.data.toList b = -1 ∧ ∀ j, j < s.size → byteN s j ≠ b.toNat) ∨
    (∃ i : Nat, Lib.indexByte s.data.toList b = i ∧ i < s.size ∧ byteN s i = b.toNat ∧ ∀ j, j < i → byteN s j ≠ b.toNat) := by
  have hf := first_index (s := s) (t := ⟨#[b]⟩) (x := 0) (f := 0) (by decide) (Nat.zero_le _) (by show 0 < 1; omega)
  rw [extract_whole, show (⟨#[b]⟩ : ByteArray).data.toList = [b] from rfl, Lib.index_one] at hf
  have key : ∀ j, j < s.size → (occ s ⟨#[b]⟩ j = true ↔ byteN s j = b.toNat) := fun j hj => by
    have hx := byte_at s hj
    rw [occ_one hj, beq_iff_eq]
    constructor
    · intro e; rw [e]; omega
    · intro e; exact (UInt8.toNat_inj.1 (by omega))
  rcases hf with ⟨e, k⟩ | ⟨i, e, hi, k⟩
  · refine Or.inl ⟨e, fun j hj he => ?_⟩
    rcases k with ⟨_, h | h⟩ | ⟨i, h, _⟩
    · have h1 : (1 : Nat) = 0 := h
      omega
    · have := h j (by omega)
      rw [(key j hj).2 he] at this
      cases this
    · omega
  · rcases k with ⟨h, _⟩ | ⟨j, h, h0, h1, h2, h3, h4⟩
    · omega
    · have hj1 : j + 1 ≤ s.size := h1
      obtain rfl : i = j := by omega
      refine Or.inr ⟨i, e, by omega, (key i (by omega)).1 h3, fun j hj he => ?_⟩
      have := h4 j hj (by omega)
      rw [(key j (by omega)).2 he] at this
      cases this
theorem byteN_extract {s : ByteArray} {a b j : Nat} (hb : b ≤ s.size) (hj : a + j < b) : byteN (s.extract a b) j = byteN s (a + j) := by
  unfold byteN; rw [numsB_extract hb hj]
theorem clo_is {p : ByteArray} {i : Nat} (h : i < p.size) (e : byteN p i = 91) : (clo p i = -1 ∧ ∀ j, i < j → j < p.size → byteN p j ≠ 93) ∨
    (∃ d : Nat, clo p i = d ∧ 1 ≤ d ∧ i + d < p.size ∧ byteN p (i + d) = 93 ∧ ∀ j, i < j → j < i + d → byteN p j ≠ 93) := by
  have hz : (p.extract i p.size).size = p.size - i := by rw [ByteArray.size_extract]; omega
  have hx : ∀ j, j < p.size - i → byteN (p.extract i p.size) j = byteN p (i + j) := fun j hj => byteN_extract (Nat.le_refl _) (by omega)
  rcases first_is (p.extract i p.size) 93 with ⟨e1, hno⟩ | ⟨d, e1, hd, hb, hno⟩
  · refine Or.inl ⟨e1, fun j hj hjs => ?_⟩
    have := hno (j - i) (by omega)
    rw [hx _ (by omega), show i + (j - i) = j by omega] at this
    exact this
  · rw [hz] at hd
    rw [hx d hd] at hb
    refine Or.inr ⟨d, e1, ?_, by omega, hb, fun j hj hjs => ?_⟩
    · rcases Nat.eq_zero_or_pos d with h0 | h0
      · rw [h0, Nat.add_zero, e] at hb
        have : (93 : UInt8).toNat = 93 := rfl
        omega
      · exact h0
    · have := hno (j - i) (by omega)
      rw [hx _ (by omega), show i + (j - i) = j by omega] at this
      exact this

theorem cellsR_size (f : Bool) (r : RP) : (cellsR f r).toList.length = 257 := by rw [Array.length_toList]; exact cellsP_size _ _
theorem cellsL_length (f : Bool) : ∀ l : List RP, (cellsL f l).length = 257 * l.length
  | [] => rfl
  | r :: l => by
    have := cellsL_length f l
    unfold cellsL at this ⊢
    rw [List.flatMap_cons, List.length_append, this, cellsR_size, List.length_cons]
    omega
theorem cellsL_at (f : Bool) : ∀ (l : List RP) (q : Nat) (hq : q < l.length) (j : Nat), j < 257 → (cellsL f l)[257 * q + j]? = (cellsR f l[q])[j]?
  | [], q, hq, _, _ => absurd hq (Nat.not_lt_zero q)
  | r :: l, q, hq, j, hj => by
    have e : cellsL f (r :: l) = (cellsR f r).toList ++ cellsL f l := rfl
    rw [e]
    cases q with
    | zero => rw [List.getElem?_append_left (by rw [cellsR_size]; omega)]; simp
    | succ q =>
      rw [List.getElem?_append_right (by rw [cellsR_size]; omega), cellsR_size, show 257 * (q + 1) + j - 257 = 257 * q + j by omega]
      exact cellsL_at f l q (by simpa using hq) j hj
theorem cellsL_snoc (f : Bool) (l : List RP) (r : RP) : cellsL f (l ++ [r]) = cellsL f l ++ (cellsR f r).toList := by simp [cellsL]

/-- the parts as cells. -/
def PAt (l : List RP) (f : Bool) (ao : Option Addr) (W : World) : Prop :=
  ∀ q (hq : q < l.length), ∃ g, ao = some ⟨g, 0, none⟩ ∧ W.cell? ⟨g, 257 * q, none⟩ = some (.bool (isMany l[q])) ∧ ∀ c, c < 256 → W.cell? ⟨g, 257 * q + 1 + c, none⟩ = some (.bool (setOf f l[q] c))
theorem PAt.below {l : List RP} {f : Bool} {ao : Option Addr} {w w' : World} (h : PAt l f ao w) (hb : Below w.heap.size w w') : PAt l f ao w' := fun q hq => by
  obtain ⟨g, e, h1, h2⟩ := h q hq
  exact ⟨g, e, cell_later hb h1, fun c hc => cell_later hb (h2 c hc)⟩
end Go.Proofs.Ytkohpijpipcajaa

namespace Go.Proofs.Ytkohpijpipcajaa
open Go.RowKit Go.Shelf
set_option linter.unusedVariables false
set_option linter.unusedSimpArgs false

def mkD (D : Nat) : Deferred := { target := .collected D, args := #[] }
def Marks (B : Nat) (Ds : List Nat) (w : World) : Prop := Ds.Nodup ∧ ∀ D ∈ Ds, B ≤ D ∧ w.heap[D]? = some (.deferred (some []))
theorem Marks.keep {B : Nat} {Ds : List Nat} {w w' : World} (h : Marks B Ds w) (hk : ∀ D : Nat, w.heap[D]? = some (Obj.deferred (some [])) → w'.heap[D]? = some (Obj.deferred (some []))) : Marks B Ds w' :=
  ⟨h.1, fun D hD => ⟨(h.2 D hD).1, hk D (h.2 D hD).2⟩⟩
theorem Marks.below {B : Nat} {Ds : List Nat} {w w' : World} (h : Marks B Ds w) (hb : Below w.heap.size w w') : Marks B Ds w' :=
  h.keep fun D hD => (hb.block D (lt_of_block hD)).trans hD
theorem Marks.more {B D : Nat} {Ds : List Nat} {w w' : World} (h : Marks B Ds w) (hb : Below w.heap.size w w') (hD : w.heap.size ≤ D) (hB : B ≤ w.heap.size) (hd : w'.heap[D]? = some (.deferred (some []))) : Marks B (D :: Ds) w' := by
  have h' := h.below hb
  refine ⟨List.nodup_cons.2 ⟨fun hm => ?_, h'.1⟩, fun E hE => ?_⟩
  · have := lt_of_block (h.2 D hm).2
    omega
  · rcases List.mem_cons.1 hE with e | e
    · subst e; exact ⟨by omega, hd⟩
    · exact h'.2 E e
structure Closed (Ds : List Nat) (w w' : World) : Prop where
  os : w'.os = w.os
  tape : w'.tape = w.tape
  output : w'.output = w.output
  size : w'.heap.size = w.heap.size
  block : ∀ k, k ∉ Ds → w'.heap[k]? = w.heap[k]?
theorem leaves_marks {F : Fence} {n : Nat} {P : Program} {fn : Func} {tmps : Array Value} {R : Ending → World → Prop} : ∀ (Ds : List Nat) (w : World), Ds.Nodup → (∀ D ∈ Ds, w.heap[D]? = some (.deferred (some []))) →
    (∀ w', Closed Ds w w' → LeavesIn F n P fn tmps R [] .returning w') → LeavesInM F n P fn tmps R (Ds.map mkD) .returning w
  | [], w, _, _, h => h w ⟨rfl, rfl, rfl, rfl, fun _ _ => rfl⟩
  | D :: Ds, w, hn, hd, h => by
    obtain ⟨hn1, hn2⟩ := List.nodup_cons.1 hn
    refine ⟨by simp, .inl ⟨D, _, rfl, run_takeDeferred (hd D (List.mem_cons_self ..)), ?_⟩⟩
    refine leaves_marks Ds _ hn2 (fun E hE => ?_) fun w' hc => h w' ⟨hc.os, hc.tape, hc.output, by rw [hc.size]; simp, fun k hk => ?_⟩
    · rw [World.putObj_heap_other (fun e => hn1 (by rw [← e]; exact hE))]
      exact hd E (List.mem_cons_of_mem _ hE)
    · rw [hc.block k (fun e => hk (List.mem_cons_of_mem _ e)), World.putObj_heap_other (fun e => hk (by rw [e]; exact List.mem_cons_self ..))]

theorem Closed.below {Ds : List Nat} {w W w' : World} {B : Nat} (hb : Below B w W) (hc : Closed Ds W w') (hD : ∀ D ∈ Ds, B ≤ D) : Below B w w' :=
  ⟨hc.os.trans hb.os, hc.tape.trans hb.tape, hc.output.trans hb.output, by rw [hc.size]; exact hb.size, fun k hk => (hc.block k (fun e => by have := hD k e; omega)).trans (hb.block k hk)⟩

theorem own_PAt {Ds : List Nat} {W w' : World} {B : Nat} {v : Value} {f : Bool} {L : List RP} (h : W.ownsRow B 79 257 v L.length (cellsL f L)) (hm : ∀ D ∈ Ds, W.heap[D]? = some (.deferred (some []))) (hc : Closed Ds W w') :
    ∃ ao cap, v = .slice ao L.length cap ∧ PAt L f ao w' := by
  rcases h.2 with ⟨e, e0⟩ | ⟨g, cap, cur, e, hB, hg, _⟩
  · exact ⟨none, 0, by rw [e, e0], fun q hq => by omega⟩
  · have hgD : g ∉ Ds := fun hD => by
      have := hm g hD
      rw [hg] at this; cases this
    have hcell : ∀ j, j < 257 * L.length → w'.cell? ⟨g, j, none⟩ = (cellsL f L)[j]? := fun j hj => by
      rw [World.cell?_of_block (w := W) (hc.block g hgD)]
      subst e
      exact h.cellAt j (by omega)
    refine ⟨some ⟨g, 0, none⟩, cap, e, fun q hq => ⟨g, rfl, ?_, fun c hc => ?_⟩⟩
    · rw [hcell (257 * q) (by omega)]
      have := cellsL_at f L q hq 0 (by omega)
      rw [Nat.add_zero] at this
      rw [this]
      exact cellsP_zero _ _
    · rw [Nat.add_assoc, hcell _ (by omega), cellsL_at f L q hq (1 + c) (by omega)]
      exact cellsP_at _ _ hc

def PartsPost (w : World) (f : Bool) (p : ByteArray) (e : Ending) (w' : World) : Prop :=
  ((prsL p).any isNone = true ∧ e = .returned (.tuple #[.slice none 0 0, .bool false]) ∧ Below w.heap.size w w') ∨
  ((prsL p).any isNone = false ∧ ∃ ao cap, e = .returned (.tuple #[.slice ao (prsL p).length cap, .bool true]) ∧ PAt (prsL p) f ao w' ∧ Below w.heap.size w w')

def PInv (p : ByteArray) (f : Bool) (w : World) (v i : Value) (Ds : List Deferred) (wr : World) : Prop :=
  ∃ (k n : Nat) (R : List RP) (Dn : List Nat), i = .int .i64 k ∧ k ≤ p.size ∧ R.length ≤ k ∧ Ds = Dn.map mkD ∧ Hid (p.size - k ≤ n) ∧ Hid (R ++ prs p n k = prsL p) ∧ Hid (R.any isNone = false) ∧
    Hid (wr.ownsRow (w.heap.size + 1) 79 257 v R.length (cellsL f R)) ∧ Hid (Below w.heap.size w wr) ∧ Hid (wr.cell? ⟨w.heap.size, 0, none⟩ = some (.bool f)) ∧ Hid (w.heap.size + 1 ≤ wr.heap.size) ∧ Hid (Marks (w.heap.size + 1) Dn wr)

/-- what is known between the rounds of the range over the set. -/
def PartG (A : World) (fb : Nat) (f : Bool) (q : Value) (pre : List (Fin 256)) (W : World) : Prop :=
  W.heap[A.heap.size]? = some (.cells (cellsP false (anyPut f pre)) 79 (0, 0)) ∧ W.cell? ⟨A.heap.size + 1, 0, none⟩ = some q ∧ W.cell? ⟨fb, 0, none⟩ = some (.bool f) ∧ Below A.heap.size A W
theorem partG_own (A : World) (fb : Nat) (f : Bool) (q : Value) (B : Nat) (hB : A.heap.size ≤ B) : OwnFrom B (PartG A fb f q) := by
  intro s W W' row h hg hr
  obtain ⟨h1, h2, h3, h4⟩ := h
  have hr' : ∀ r, row = some r → ∃ o : Obj, W.heap[r]? = some o ∧ o.isCells = false := fun r e => (hr r e).2
  exact ⟨(grownBy_keeps_cells hg hr' h1 rfl).trans h1, cell_kept h2 hg hr', cell_kept h3 hg hr', h4.grown hg h4.size (fun k e => Nat.le_trans hB (hr k e).1)⟩
theorem anyPut_snoc (f : Bool) (pre : List (Fin 256)) (x : Fin 256) : anyPut f (pre ++ [x]) = fun y => anyPut f pre y || put1 f x.val y := by
  funext y; simp [anyPut]
theorem partG_put {A : World} {fb : Nat} {f : Bool} {q : Value} {pre : List (Fin 256)} {W W' : World} {x : Fin 256} (h : PartG A fb f q pre W) (hf : fb < A.heap.size) (hg : W.grownBy W' (some A.heap.size))
    (hr : W'.heap[A.heap.size]? = some (.cells (cellsP false (fun y => anyPut f pre y || put1 f x.val y)) 79 (0, 0))) : PartG A fb f q (pre ++ [x]) W' := by
  obtain ⟨h1, h2, h3, h4⟩ := h
  have hA : A.heap.size < W.heap.size := lt_of_block h1
  have hlt1 : A.heap.size + 1 < W.heap.size := by have := World.block_lt_of_cell? _ _ h2; exact this
  refine ⟨by rw [anyPut_snoc]; exact hr, ?_, ?_, h4.grown hg h4.size (fun k e => by simp at e; omega)⟩
  · rw [World.cell?_of_block (w := W) (hg.block _ hlt1 (by simp))]; exact h2
  · rw [World.cell?_of_block (w := W) (hg.block _ (by show fb < _; omega) (by simp; omega))]; exact h3
theorem keeps_put {W W' : World} {g : Nat} {cs : Array Value} (hg : W.grownBy W' (some g)) (h : W.heap[g]? = some (.cells cs 79 (0, 0))) : KeepsOthers W W' :=
  KeepsOthers.of_grownBy hg fun j o e ho => by cases e; rw [h] at ho; cases ho; rfl
end Go.Proofs.Ytkohpijpipcajaa
