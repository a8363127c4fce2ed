import Derived.Test.YtkohpijpipcajaaM3
namespace Go.Proofs.Ytkohpijpipcajaa
open Go.RowKit
set_option linter.unusedVariables false
set_option linter.unusedSimpArgs false

theorem ref_small_any (c : Int) (w : World) (h0 : 0 ≤ c) (h1 : c ≤ 255) :
    Calls Try.prog 59 #[.int .u8 c] w fun e w' => e = .returned (.int .u8 (sml c)) ∧ w = w' := by
  unfold sml
  rcases (show (c < 65) ∨ (65 ≤ c ∧ c ≤ 90) ∨ 90 < c by omega) with h2 | ⟨h2, h3⟩ | h2
  all_goals
    go_enter Try.func59, Try.ntmps59
    go_wp2
    go_ret
    exact ⟨rfl, rfl⟩
theorem ref_great_any (c : Int) (w : World) (h0 : 0 ≤ c) (h1 : c ≤ 255) :
    Calls Try.prog 61 #[.int .u8 c] w fun e w' => e = .returned (.int .u8 (grt c)) ∧ w = w' := by
  unfold grt
  rcases (show (c < 97) ∨ (97 ≤ c ∧ c ≤ 122) ∨ 122 < c by omega) with h2 | ⟨h2, h3⟩ | h2
  all_goals
    go_enter Try.func61, Try.ntmps61
    go_wp2
    go_ret
    exact ⟨rfl, rfl⟩
def wht (c : Int) : Bool := decide (9 ≤ c ∧ c ≤ 13 ∨ c = 32)
theorem white_any (c : Int) (w : World) (h0 : 0 ≤ c) (h1 : c ≤ 255) : Calls Try.prog 31 #[.int .u8 c] w fun e w' => e = .returned (.bool (wht c)) ∧ w = w' := by
  rcases (show (c < 9) ∨ (9 ≤ c ∧ c ≤ 13) ∨ (13 < c ∧ c < 32) ∨ c = 32 ∨ 32 < c by omega) with h2 | ⟨h2, h3⟩ | ⟨h2, h3⟩ | h2 | h2
  · have HE := Lib.hid (show wht c = false by unfold wht; simp; omega)
    go_enter Try.func31, Try.ntmps31
    go_wp2
    go_ret
    exact ⟨by rw [HE.out]; simp; omega, rfl⟩
  · have HE := Lib.hid (show wht c = true by unfold wht; simp; omega)
    go_enter Try.func31, Try.ntmps31
    go_wp2
    go_ret
    exact ⟨by rw [HE.out]; rfl, rfl⟩
  · have HE := Lib.hid (show wht c = false by unfold wht; simp; omega)
    go_enter Try.func31, Try.ntmps31
    go_wp2
    go_ret
    exact ⟨by rw [HE.out]; simp; omega, rfl⟩
  · subst h2
    have HE := Lib.hid (show wht 32 = true by decide)
    go_enter Try.func31, Try.ntmps31
    go_wp2
    go_ret
    exact ⟨by rw [HE.out]; rfl, rfl⟩
  · have HE := Lib.hid (show wht c = false by unfold wht; simp; omega)
    go_enter Try.func31, Try.ntmps31
    go_wp2
    go_ret
    exact ⟨by rw [HE.out]; simp; omega, rfl⟩

/-- a row as a text. -/
theorem conv_nums {W : World} {B n : Nat} {v : Value} {xs : List Int} (h : W.ownsRow B 5 1 v n (xs.map (Value.int .u8))) : (convert 54 9 v).run Try.prog W = .ok (.string (strOfNums xs)) W := by
  have hlen : xs.length = n := by have := h.1; simpa using this
  rcases h.2 with ⟨rfl, rfl⟩ | ⟨g, cap, cur, rfl, hB, hg, hn, hc, hs, ht⟩
  · obtain rfl : xs = [] := List.length_eq_zero_iff.1 hlen
    exact run_convert_bytes_nil W 54 5 Try.underlying54 Try.underlying5 0 0 9 Try.underlying9
  · exact run_convert_bytes_arg (P := Try.prog) W 54 5 Try.underlying54 Try.underlying5 g 0 n cap xs hlen (fun i hi => by
      rw [Nat.zero_add, h.cellAt i (by omega)]
      have hi' : i < xs.length := by omega
      simp [List.getElem?_eq_getElem hi', List.getD]) 9 Try.underlying9

/-- the call's own row reads xs. -/
def NumsRow (B : Nat) (w : World) (xs : List Int) (v : Value) (wr : World) : Prop := wr.ownsRow B 5 1 v xs.length (xs.map (Value.int .u8)) ∧ Below B w wr
theorem NumsRow.slice {B : Nat} {w wr : World} {xs : List Int} {v : Value} (h : NumsRow B w xs v wr) : ∃ ao cap, v = .slice ao xs.length cap := by
  rcases h.1.2 with ⟨rfl, h0⟩ | ⟨g, cap, cur, rfl, _⟩
  · exact ⟨_, _, by rw [h0]⟩
  · exact ⟨_, _, rfl⟩

/-- one byte appended. -/
theorem wpList_appB {ops : Array Oper} {rest : List Oper} {o : Oper} {a : Act} {Q : Exit → Act → World → Prop} (hgd : o.guard = none) (s x : Operand)
    (ho : o.op = .call { callee := .builtin .append, args := #[s, x], argTypes := #[54, 54] }) (B : Nat) (w : World) (xs : List Int) (V : World) (c : Int) {v : Value}
    (hs : a.eval s = v) (hx : a.eval x = .slice (some ⟨V.heap.size, 0, none⟩) 1 1) (hr : NumsRow B w xs v V) (hB : B ≤ w.heap.size) (hn : xs.length ≤ 100000)
    (h : ∀ v' w', NumsRow B w (xs ++ [c]) v' w' → (∃ g cap, v' = .slice (some ⟨g, 0, none⟩) (xs.length + 1) cap) → wpList Try.prog ops Q rest (a.put o.dst v') w') :
    wpList Try.prog ops Q (o :: rest) a (V.alloc (Obj.cells #[.int .u8 c] 5)) := by
  obtain ⟨i0, hi, hz0, hz1, hz2⟩ := info_parts info5
  obtain ⟨hown, hbl⟩ := hr
  have hBV := Nat.le_trans hB hbl.size
  refine wpList_append_own _ hgd s x 54 ho B 5 i0 (.int .u8 0) 1 1 Try.underlying54 hi hz0 hz1 hz2 rfl (by decide) _ _ _ hs (hown.alloc _) ⟨V.heap.size, 0, none⟩ 1 1 [.int .u8 c] hx rfl ?c1 ?c2 (by unfold maxLen; omega) (by omega) (by simp; omega) ?_
  case c1 =>
    intro j u hj
    cases j with
    | zero => simp at hj; subst hj; exact cell_of_one (heap_alloc_new V _)
    | succ j => simp at hj
  case c2 => intro u hu; simp at hu; subst hu; rfl
  intro v' w' hown' hg _
  refine h v' w' ⟨by rw [List.length_append, List.map_append]; exact hown', (hbl.alloc hBV _).grown hg (by simp; omega) (fun k e => (hown.lt k e).1)⟩ ?_
  rcases hown'.2 with ⟨_, h0⟩ | ⟨g, cap, cur, hv, _⟩
  · omega
  · exact ⟨g, cap, hv⟩

theorem byte_num (s : ByteArray) {k : Nat} (h : k < s.size) : ((s[k]).toNat : Int) = (numsB s).getD k 0 := by
  have hl : k < s.data.toList.length := by rw [Array.length_toList]; exact h
  simp [numsB, List.getD, List.getElem?_eq_getElem hl]
  rfl
theorem take_map_snoc (f : Int → Int) (xs : List Int) (k : Nat) (h : k < xs.length) : (xs.take k).map f ++ [f (xs.getD k 0)] = (xs.take (k + 1)).map f := by
  rw [List.take_succ_eq_append_getElem h, List.map_append]
  simp [List.getD, List.getElem?_eq_getElem h]

set_option maxRecDepth 100000 in
theorem ref_lower_any (s : ByteArray) (w : World) (hs : s.size ≤ 100000) :
    Calls Try.prog 26 #[.string s] w fun e w' => e = .returned (.string (strOfNums ((numsB s).map sml))) ∧ Below w.heap.size w w' := by
  have HN := Lib.hid (numsB_length s)
  have hr0 : NumsRow w.heap.size w [] (.slice none 0 0) w := ⟨World.ownsRow_nil _ _ _ _, Below.refl _ _⟩
  go_enter Try.func26, Try.ntmps26
  go_wp2
  go_loopw [3, 7] (fun v i wr => ∃ (k : Nat) (xs : List Int), i = .int .i64 k ∧ k ≤ s.size ∧ Hid (xs = ((numsB s).take k).map sml) ∧ NumsRow w.heap.size w xs v wr) (fun _ i _ => s.size - (intOf i).toNat)
  case atStart => exact ⟨0, [], rfl, Nat.zero_le _, Lib.hid (by simp), hr0⟩
  case round =>
    obtain ⟨k, xs, rfl, hk, hxs, hr⟩ := hrel
    obtain ⟨ao, cap, rfl⟩ := hr.slice
    have hlen : Hid (xs.length = k) := Lib.hid (by rw [hxs.out, List.length_map, List.length_take, HN.out]; omega)
    rw [hlen.out] at hr
    have HR := Lib.hid hr
    clear hr
    by_cases hlt : k < s.size
    · have hx := byte_num s hlt
      have hb := numsB_at s k
      have hnx : Hid (xs ++ [sml ((numsB s).getD k 0)] = ((numsB s).take (k + 1)).map sml) := Lib.hid (by rw [hxs.out]; exact take_map_snoc _ _ _ (by rw [HN.out]; exact hlt))
      generalize (numsB s).getD k 0 = x at hx hb hnx
      rw [hlen.out]
      have hxl : xs.length ≤ 100000 := by rw [hlen.out]; omega
      go_wp2_with (first | (go_at_call 59; refine (ref_small_any _ _ hb.1 hb.2).mono ?_; rintro e w' ⟨rfl, rfl⟩) | (at_builtin; refine wpList_appB rfl _ _ rfl w.heap.size w xs wr _ rfl rfl (hlen.out ▸ HR.out) (Nat.le_refl _) hxl ?_; intro v' w1 hr1 hs1; have HR1 := Lib.hid hr1; obtain ⟨g1, cap1, rfl⟩ := hs1; clear hr1))
      go_roundw
      case rel => exact ⟨k + 1, _, by go_num, by omega, hnx, HR1.out⟩
      case measure => simp [intOf]; omega
    · obtain rfl : k = s.size := by omega
      have ht := conv_nums HR.out.1
      have HB := Lib.hid HR.out.2
      have HE : Hid (xs = (numsB s).map sml) := Lib.hid (by rw [hxs.out, List.take_of_length_le (by rw [HN.out]; exact Nat.le_refl _)])
      rw [hlen.out]
      go_wp2
      go_ret
      exact ⟨by rw [← HE.out]; rfl, HB.out⟩

set_option maxRecDepth 100000 in
theorem ref_upper_any (s : ByteArray) (w : World) (hs : s.size ≤ 100000) :
    Calls Try.prog 28 #[.string s] w fun e w' => e = .returned (.string (strOfNums ((numsB s).map grt))) ∧ Below w.heap.size w w' := by
  have HN := Lib.hid (numsB_length s)
  have hr0 : NumsRow w.heap.size w [] (.slice none 0 0) w := ⟨World.ownsRow_nil _ _ _ _, Below.refl _ _⟩
  go_enter Try.func28, Try.ntmps28
  go_wp2
  go_loopw [3, 7] (fun v i wr => ∃ (k : Nat) (xs : List Int), i = .int .i64 k ∧ k ≤ s.size ∧ Hid (xs = ((numsB s).take k).map grt) ∧ NumsRow w.heap.size w xs v wr) (fun _ i _ => s.size - (intOf i).toNat)
  case atStart => exact ⟨0, [], rfl, Nat.zero_le _, Lib.hid (by simp), hr0⟩
  case round =>
    obtain ⟨k, xs, rfl, hk, hxs, hr⟩ := hrel
    obtain ⟨ao, cap, rfl⟩ := hr.slice
    have hlen : Hid (xs.length = k) := Lib.hid (by rw [hxs.out, List.length_map, List.length_take, HN.out]; omega)
    rw [hlen.out] at hr
    have HR := Lib.hid hr
    clear hr
    by_cases hlt : k < s.size
    · have hx := byte_num s hlt
      have hb := numsB_at s k
      have hnx : Hid (xs ++ [grt ((numsB s).getD k 0)] = ((numsB s).take (k + 1)).map grt) := Lib.hid (by rw [hxs.out]; exact take_map_snoc _ _ _ (by rw [HN.out]; exact hlt))
      generalize (numsB s).getD k 0 = x at hx hb hnx
      rw [hlen.out]
      have hxl : xs.length ≤ 100000 := by rw [hlen.out]; omega
      go_wp2_with (first | (go_at_call 61; refine (ref_great_any _ _ hb.1 hb.2).mono ?_; rintro e w' ⟨rfl, rfl⟩) | (at_builtin; refine wpList_appB rfl _ _ rfl w.heap.size w xs wr _ rfl rfl (hlen.out ▸ HR.out) (Nat.le_refl _) hxl ?_; intro v' w1 hr1 hs1; have HR1 := Lib.hid hr1; obtain ⟨g1, cap1, rfl⟩ := hs1; clear hr1))
      go_roundw
      case rel => exact ⟨k + 1, _, by go_num, by omega, hnx, HR1.out⟩
      case measure => simp [intOf]; omega
    · obtain rfl : k = s.size := by omega
      have ht := conv_nums HR.out.1
      have HB := Lib.hid HR.out.2
      have HE : Hid (xs = (numsB s).map grt) := Lib.hid (by rw [hxs.out, List.take_of_length_le (by rw [HN.out]; exact Nat.le_refl _)])
      rw [hlen.out]
      go_wp2
      go_ret
      exact ⟨by rw [← HE.out]; rfl, HB.out⟩

theorem drop_rev_snoc (xs : List Int) (k : Nat) (h : k < xs.length) : (xs.drop (k + 1)).reverse ++ [xs.getD k 0] = (xs.drop k).reverse := by
  rw [List.drop_eq_getElem_cons h, List.reverse_cons]
  simp [List.getD, List.getElem?_eq_getElem h]

set_option maxRecDepth 100000 in
theorem ref_reverse_any (s : ByteArray) (w : World) (hs : s.size ≤ 100000) :
    Calls Try.prog 24 #[.string s] w fun e w' => e = .returned (.string (strOfNums (numsB s).reverse)) ∧ Below w.heap.size w w' := by
  have HN := Lib.hid (numsB_length s)
  have hr0 : NumsRow w.heap.size w [] (.slice none 0 0) w := ⟨World.ownsRow_nil _ _ _ _, Below.refl _ _⟩
  go_enter Try.func24, Try.ntmps24
  go_wp2
  go_loopw [3, 4] (fun v i wr => ∃ (k : Nat) (xs : List Int), i = .int .i64 ((k : Int) - 1) ∧ k ≤ s.size ∧ Hid (xs = ((numsB s).drop k).reverse) ∧ NumsRow w.heap.size w xs v wr) (fun _ i _ => (intOf i + 1).toNat)
  case atStart => exact ⟨s.size, [], rfl, Nat.le_refl _, Lib.hid (by rw [List.drop_eq_nil_of_le (by rw [HN.out]; exact Nat.le_refl _)]; rfl), hr0⟩
  case round =>
    obtain ⟨k, xs, rfl, hk, hxs, hr⟩ := hrel
    obtain ⟨ao, cap, rfl⟩ := hr.slice
    have hlen : Hid (xs.length = s.size - k) := Lib.hid (by rw [hxs.out, List.length_reverse, List.length_drop, HN.out])
    have HR := Lib.hid hr
    clear hr
    have hxl : xs.length ≤ 100000 := by rw [hlen.out]; omega
    cases k with
    | zero =>
      have ht := conv_nums HR.out.1
      have HB := Lib.hid HR.out.2
      have HE : Hid (xs = (numsB s).reverse) := Lib.hid (by rw [hxs.out]; rfl)
      go_wp2
      go_ret
      exact ⟨by rw [← HE.out]; rfl, HB.out⟩
    | succ k =>
      rw [show ((k + 1 : Nat) : Int) - 1 = (k : Int) by omega]
      have hlt : k < s.size := hk
      have hx := byte_num s hlt
      have hnx : Hid (xs ++ [(numsB s).getD k 0] = ((numsB s).drop k).reverse) := Lib.hid (by rw [hxs.out]; exact drop_rev_snoc _ _ (by rw [HN.out]; exact hlt))
      generalize (numsB s).getD k 0 = x at hx hnx
      go_wp2_with (at_builtin; refine wpList_appB (v := .slice ao xs.length cap) rfl _ _ rfl w.heap.size w xs wr _ rfl rfl HR.out (Nat.le_refl _) hxl ?_; intro v' w1 hr1 hs1; have HR1 := Lib.hid hr1; obtain ⟨g1, cap1, rfl⟩ := hs1; clear hr1)
      go_roundw
      case rel => exact ⟨k, _, rfl, by omega, hnx, HR1.out⟩
      case measure => simp [intOf]
end Go.Proofs.Ytkohpijpipcajaa
