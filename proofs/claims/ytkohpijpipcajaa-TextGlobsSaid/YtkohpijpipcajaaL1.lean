import Derived.Test.YtkohpijpipcajaaH1
import Derived.Lib.IndexMore
import Derived.Lib.LastIndexLaws
namespace Go.Proofs.Ytkohpijpipcajaa
open Go.RowKit
set_option linter.unusedVariables false
set_option linter.unusedSimpArgs false

theorem isPrefixOf_take {t : List UInt8} : ∀ {y : List UInt8} {m : Nat}, t.length ≤ m → t.isPrefixOf (y.take m) = t.isPrefixOf y := by
  induction t with
  | nil => intro y m _; simp
  | cons a t ih =>
    intro y m hm
    cases m with
    | zero => simp at hm
    | succ m =>
      cases y with
      | nil => rfl
      | cons b y =>
        rw [List.take_succ_cons]
        simp only [List.isPrefixOf_cons_cons]
        rw [ih (by simpa using hm)]

theorem occ_room {l t : List UInt8} {i : Nat} (h : Lib.occAt l t i = true) (ht : 0 < t.length) : i + t.length ≤ l.length := by
  unfold Lib.occAt at h
  have := (List.isPrefixOf_iff_prefix.1 h).length_le
  rw [List.length_drop] at this
  omega
theorem occ_take {l t : List UInt8} {i n : Nat} (h : i + t.length ≤ n) : Lib.occAt (l.take n) t i = Lib.occAt l t i := by
  unfold Lib.occAt
  rw [List.drop_take, isPrefixOf_take (by omega)]
theorem occ_drop {l t : List UInt8} {i f : Nat} : Lib.occAt (l.drop f) t i = Lib.occAt l t (f + i) := by
  unfold Lib.occAt
  rw [List.drop_drop]

def occ (s t : ByteArray) (i : Nat) : Bool := Lib.occAt s.data.toList t.data.toList i
theorem size_list (s : ByteArray) : s.data.toList.length = s.size := by rw [Array.length_toList]; rfl
theorem occ_in {s t : ByteArray} {i : Nat} (h : occ s t i = true) (ht : 0 < t.size) : i + t.size ≤ s.size := by
  have := occ_room h (by rw [size_list]; exact ht)
  rw [size_list, size_list] at this
  exact this

/-- the first place. -/
def IsFirst (s t : ByteArray) (x p : Int) : Prop :=
  (p = -1 ∧ (t.size = 0 ∨ ∀ i : Nat, x ≤ i → occ s t i = false)) ∨
  (∃ i : Nat, p = i ∧ 0 < t.size ∧ i + t.size ≤ s.size ∧ x ≤ i ∧ occ s t i = true ∧ ∀ j : Nat, j < i → x ≤ j → occ s t j = false)
/-- the last place. -/
def IsLast (s t : ByteArray) (x p : Int) : Prop :=
  (p = -1 ∧ (t.size = 0 ∨ ∀ i : Nat, (i : Int) ≤ x → occ s t i = false)) ∨
  (∃ i : Nat, p = i ∧ 0 < t.size ∧ i + t.size ≤ s.size ∧ (i : Int) ≤ x ∧ occ s t i = true ∧ ∀ j : Nat, i < j → (j : Int) ≤ x → occ s t j = false)

theorem isFirst_one {s t : ByteArray} {x p q : Int} (h : IsFirst s t x p) (k : IsFirst s t x q) : p = q := by
  rcases h with ⟨rfl, h⟩ | ⟨i, rfl, h0, h1, h2, h3, h4⟩
  · rcases k with ⟨rfl, k⟩ | ⟨j, rfl, k0, k1, k2, k3, k4⟩
    · rfl
    · rcases h with h | h
      · omega
      · rw [h j k2] at k3; cases k3
  · rcases k with ⟨rfl, k⟩ | ⟨j, rfl, k0, k1, k2, k3, k4⟩
    · rcases k with k | k
      · omega
      · rw [k i h2] at h3; cases h3
    · rcases Nat.lt_trichotomy i j with e | e | e
      · rw [k4 i e h2] at h3; cases h3
      · rw [e]
      · rw [h4 j e k2] at k3; cases k3
theorem isLast_one {s t : ByteArray} {x p q : Int} (h : IsLast s t x p) (k : IsLast s t x q) : p = q := by
  rcases h with ⟨rfl, h⟩ | ⟨i, rfl, h0, h1, h2, h3, h4⟩
  · rcases k with ⟨rfl, k⟩ | ⟨j, rfl, k0, k1, k2, k3, k4⟩
    · rfl
    · rcases h with h | h
      · omega
      · rw [h j k2] at k3; cases k3
  · rcases k with ⟨rfl, k⟩ | ⟨j, rfl, k0, k1, k2, k3, k4⟩
    · rcases k with k | k
      · omega
      · rw [k i h2] at h3; cases h3
    · rcases Nat.lt_trichotomy i j with e | e | e
      · rw [h4 j e k2] at k3; cases k3
      · rw [e]
      · rw [k4 i e h2] at h3; cases h3

theorem tail_data (s : ByteArray) (f : Nat) : (s.extract f s.size).data.toList = s.data.toList.drop f := by
  rw [ByteArray.data_extract, Array.toList_extract, List.extract_eq_take_drop]
  rw [List.take_of_length_le (by rw [List.length_drop, size_list]; exact Nat.le_refl _)]
theorem head_data (s : ByteArray) (n : Nat) : (s.extract 0 n).data.toList = s.data.toList.take n := by
  rw [ByteArray.data_extract, Array.toList_extract, List.extract_eq_take_drop]
  simp

/-- First, by what Index tells of the rest. -/
theorem first_index {s t : ByteArray} {x : Int} {f : Nat} (hf : max x 0 = f) (hfs : f ≤ s.size) (ht : 0 < t.size) :
    (Lib.index (s.extract f s.size).data.toList t.data.toList = -1 ∧ IsFirst s t x (-1)) ∨ (∃ i : Nat, Lib.index (s.extract f s.size).data.toList t.data.toList = i ∧ f + i ≤ s.size ∧ IsFirst s t x ((f : Int) + i)) := by
  rw [tail_data]
  have htl : 0 < t.data.toList.length := by rw [size_list]; exact ht
  rcases Lib.index_spec (s.data.toList.drop f) t.data.toList with ⟨e, h⟩ | ⟨i, e, hi, ho, hno⟩
  · refine Or.inl ⟨e, Or.inl ⟨rfl, Or.inr fun i hxi => ?_⟩⟩
    cases hc : occ s t i with
    | false => rfl
    | true =>
      have hin := occ_in hc ht
      have := h (i - f) (by rw [List.length_drop, size_list]; omega)
      rw [occ_drop, show f + (i - f) = i by omega] at this
      exact absurd (this.symm.trans hc) (by decide)
  · rw [occ_drop] at ho
    have hin := occ_in (s := s) (t := t) ho ht
    refine Or.inr ⟨i, e, by omega, Or.inr ⟨f + i, by omega, ht, hin, by omega, ho, fun j hj hxj => ?_⟩⟩
    have := hno (j - f) (by omega)
    rw [occ_drop, show f + (j - f) = j by omega] at this
    exact this

/-- what LastIndex tells of the first n bytes. -/
theorem last_take {s t : ByteArray} {n : Nat} (hn : n ≤ s.size) (ht : 0 < t.size) :
    (Lib.lastIndex (s.data.toList.take n) t.data.toList = -1 ∧ ∀ j : Nat, j + t.size ≤ n → occ s t j = false) ∨
    (∃ i : Nat, Lib.lastIndex (s.data.toList.take n) t.data.toList = i ∧ i + t.size ≤ n ∧ occ s t i = true ∧ ∀ j : Nat, i < j → j + t.size ≤ n → occ s t j = false) := by
  have hl : (s.data.toList.take n).length = n := by rw [List.length_take, size_list]; omega
  have ho : ∀ j : Nat, j + t.size ≤ n → Lib.occAt (s.data.toList.take n) t.data.toList j = occ s t j := fun j hj => occ_take (by rw [size_list]; exact hj)
  unfold Lib.lastIndex
  rw [hl, size_list]
  by_cases c : t.size ≤ n
  · rw [if_pos c]
    rcases Lib.lastOcc_spec (s.data.toList.take n) t.data.toList (n - t.size + 1) with ⟨e, h⟩ | ⟨i, hi, e, h1, h2⟩
    · exact Or.inl ⟨e, fun j hj => by rw [← ho j hj]; exact h j (by omega)⟩
    · exact Or.inr ⟨i, e, by omega, by rw [← ho i (by omega)]; exact h1, fun j hij hj => by rw [← ho j hj]; exact h2 j hij (by omega)⟩
  · rw [if_neg c]
    exact Or.inl ⟨rfl, fun j hj => by omega⟩

theorem last_index_cut {s t : ByteArray} {x : Nat} (hx : x + t.size < s.size) (ht : 0 < t.size) : IsLast s t x (Lib.lastIndex (s.extract 0 (x + t.size)).data.toList t.data.toList) := by
  rw [head_data]
  rcases last_take (s := s) (t := t) (n := x + t.size) (by omega) ht with ⟨e, h⟩ | ⟨i, e, hi, h1, h2⟩
  · rw [e]; exact Or.inl ⟨rfl, Or.inr fun i hi => h i (by omega)⟩
  · rw [e]; exact Or.inr ⟨i, rfl, ht, by omega, by omega, h1, fun j hj hx => h2 j hj (by omega)⟩
theorem last_index_all {s t : ByteArray} {x : Int} (hx : (s.size : Int) - t.size ≤ x) (ht : 0 < t.size) : IsLast s t x (Lib.lastIndex s.data.toList t.data.toList) := by
  have ha : s.data.toList.take s.size = s.data.toList := List.take_of_length_le (by rw [size_list]; exact Nat.le_refl _)
  have := last_take (s := s) (t := t) (n := s.size) (Nat.le_refl _) ht
  rw [ha] at this
  have hfar : ∀ j : Nat, ¬ j + t.size ≤ s.size → occ s t j = false := fun j hj => by
    cases hc : occ s t j with
    | false => rfl
    | true => exact absurd (occ_in hc ht) hj
  rcases this with ⟨e, h⟩ | ⟨i, e, hi, h1, h2⟩
  · rw [e]
    exact Or.inl ⟨rfl, Or.inr fun i hi => by by_cases c : i + t.size ≤ s.size; exact h i c; exact hfar i c⟩
  · rw [e]
    exact Or.inr ⟨i, rfl, ht, hi, by omega, h1, fun j hj hx => by by_cases c : j + t.size ≤ s.size; exact h2 j hj c; exact hfar j c⟩

/-- the number in MaxLen's cell. -/
def HasMax (w : World) : Prop := ∃ m, w.cell? ⟨0, 0, none⟩ = some (.int .i64 m)

def FirstPost (s t : ByteArray) (x : Int) (w : World) (e : Ending) (w' : World) : Prop := ∃ p, IsFirst s t x p ∧ e = .returned (.int .i64 p) ∧ w' = w
def LastPost (s t : ByteArray) (x : Int) (w : World) (e : Ending) (w' : World) : Prop := ∃ p, IsLast s t x p ∧ e = .returned (.int .i64 p) ∧ w' = w

theorem first_any (s t : ByteArray) (x : Int) (w : World) (hs : s.size ≤ 100000) (h0 : -9223372036854775808 ≤ x) (h1 : x ≤ 9223372036854775807) (hm : HasMax w) :
    Calls Try.prog 15 #[.string t, .string s, .int .i64 x] w (FirstPost s t x w) := by
  by_cases c1 : t.size = 0
  · have ht := (empty_yes c1).1
    have HP := Lib.hid (show IsFirst s t x (-1) from Or.inl ⟨rfl, Or.inl c1⟩)
    clear c1
    go_enter Try.func15, Try.ntmps15
    go_wp2
    go_ret
    exact ⟨_, HP.out, rfl, rfl⟩
  · have hp : 0 < t.size := by omega
    have ht := (empty_no hp).1
    obtain ⟨f, hf⟩ : ∃ f : Nat, max x 0 = f := ⟨(max x 0).toNat, by omega⟩
    by_cases c2 : f ≤ s.size
    · obtain ⟨m, hm⟩ := hm
      have HI := Lib.hid (Try.strings_Index (s.extract f s.size) t m w (by rw [ByteArray.size_extract]; omega) hm)
      have hfi := first_index hf c2 hp
      clear hm
      rcases hfi with ⟨e, h⟩ | ⟨i, e, hi, h⟩
      · rw [e] at HI
        have HP := Lib.hid h
        clear h e c1
        go_enter Try.func15, Try.ntmps15
        go_wp2_with (go_at_call 50; refine HI.out.mono ?_; rintro e w' ⟨rfl, rfl⟩)
        go_ret
        exact ⟨_, HP.out, rfl, rfl⟩
      · rw [e] at HI
        have HP := Lib.hid h
        clear h e c1
        go_enter Try.func15, Try.ntmps15
        go_wp2_with (go_at_call 50; refine HI.out.mono ?_; rintro e w' ⟨rfl, rfl⟩)
        go_ret
        exact ⟨_, HP.out, rfl, rfl⟩
    · have HP := Lib.hid (show IsFirst s t x (-1) from Or.inl ⟨rfl, Or.inr fun i hi => by
        cases hc : occ s t i with
        | false => rfl
        | true => have := occ_in hc hp; omega⟩)
      clear c1
      go_enter Try.func15, Try.ntmps15
      go_wp2
      go_ret
      exact ⟨_, HP.out, rfl, rfl⟩
end Go.Proofs.Ytkohpijpipcajaa
