import Derived.Test.YtkohpijpipcajaaR2
namespace Go.Proofs.Ytkohpijpipcajaa
open Go.RowKit
set_option linter.unusedVariables false
set_option linter.unusedSimpArgs false

theorem zc58 : Try.zeroCells58 = Array.replicate 256 (.bool false) := by kernel_rfl

/-- the first k bytes of a text are marked. -/
def InRow (g : Nat) (ch : ByteArray) (k : Nat) (w : World) : Prop :=
  ∃ cs : Array Value, w.heap[g]? = some (.cells cs 58 (0, 0)) ∧ cs.size = 256 ∧ ∀ c : Nat, c < 256 → cs[c]? = some (.bool (((numsB ch).take k).contains (c : Int)))
theorem InRow.start (w : World) (ch : ByteArray) : InRow w.heap.size ch 0 (w.alloc (Obj.cells Try.zeroCells58 58)) := by
  refine ⟨_, heap_alloc_new w _, by rw [zc58]; simp, fun c hc => ?_⟩
  rw [zc58, Array.getElem?_replicate, if_pos hc]
  rfl
theorem InRow.cellSome {g k : Nat} {ch : ByteArray} {w : World} (h : InRow g ch k w) {c : Nat} (hc : c < 256) : ∃ v, w.cell? ⟨g, c, none⟩ = some v := by
  obtain ⟨cs, h1, _, h3⟩ := h
  exact ⟨_, (cell_of_row _ _ _ _ _ _ h1).trans (h3 c hc)⟩
theorem InRow.free {g k : Nat} {ch : ByteArray} {w : World} (h : InRow g ch k w) (c : Nat) : w.frozen? ⟨g, c, none⟩ = false := by
  obtain ⟨cs, h1, _⟩ := h
  exact frozen_of_row _ _ _ _ _ h1
theorem InRow.step {g k : Nat} {ch : ByteArray} {w : World} (h : InRow g ch k w) (hk : k < ch.size) : InRow g ch (k + 1) (w.setCell ⟨g, ch[k].toNat, none⟩ (.bool true)) := by
  obtain ⟨cs, h1, h2, h3⟩ := h
  have hl : k < (numsB ch).length := by rw [numsB_length]; exact hk
  have hx := byte_num ch hk
  have hlt := UInt8.toNat_lt ch[k]
  refine ⟨cs.setIfInBounds ch[k].toNat (.bool true), ?_, by simpa using h2, fun c hc => ?_⟩
  · rw [setCell_eq_setRow w _ _ cs 58 (0, 0) _ h1, setRow_heap w _ cs _ 58 (0, 0) h1]
  · have hg : (numsB ch)[k] = ((ch[k].toNat : Nat) : Int) := by rw [hx, List.getD_eq_getElem?_getD, List.getElem?_eq_getElem hl]; rfl
    rw [List.take_succ_eq_append_getElem hl, hg]
    by_cases e : ch[k].toNat = c
    · subst e
      rw [Array.getElem?_setIfInBounds_self_of_lt (by omega)]
      simp
    · rw [Array.getElem?_setIfInBounds_ne e, h3 c hc]
      have : ¬ ((c : Int) = ((ch[k].toNat : Nat) : Int)) := by omega
      simp [this]
theorem InRow.cellAt {g : Nat} {ch s : ByteArray} {w : World} (h : InRow g ch ch.size w) {k : Nat} (hk : k < s.size) : w.cell? ⟨g, s[k].toNat, none⟩ = some (.bool (inC ch ((s[k].toNat : Nat) : Int))) := by
  obtain ⟨cs, h1, _, h3⟩ := h
  rw [cell_of_row _ _ _ _ _ _ h1, h3 _ (UInt8.toNat_lt _), List.take_of_length_le (by rw [numsB_length]; exact Nat.le_refl _)]
  rfl

set_option maxRecDepth 100000 in
set_option maxHeartbeats 1000000 in
theorem trim_false_false (s ch : ByteArray) (w : World) (hs : s.size ≤ 400) (hcs : ch.size ≤ 100000) :
    Calls Try.prog 33 #[.string s, .string ch, .bool false, .bool false] w fun e w' => e = .returned (.string (trimT s ch false false)) ∧ Below w.heap.size w w' := by
  have hq0 : InRow w.heap.size ch 0 (w.alloc (Obj.cells Try.zeroCells58 58)) := InRow.start w ch
  have hb0 : Below w.heap.size w (w.alloc (Obj.cells Try.zeroCells58 58)) := (Below.refl _ _).alloc (Nat.le_refl _) _
  have HQ0 := Lib.hid hq0
  have HB0 := Lib.hid hb0
  clear hq0 hb0
  go_enter Try.func33, Try.ntmps33
  go_wp2
  go_loopw [15] (fun i wr => ∃ k : Nat, i = .int .i64 k ∧ k ≤ ch.size ∧ Hid (InRow w.heap.size ch k wr) ∧ Hid (Below w.heap.size w wr)) (fun i _ => ch.size - (intOf i).toNat)
  case atStart => exact ⟨0, rfl, Nat.zero_le _, HQ0, HB0⟩
  case round =>
    obtain ⟨k, rfl, hk, HR, HBL⟩ := hrel
    by_cases hlt : k < ch.size
    · obtain ⟨v, hv⟩ := HR.out.cellSome (c := ch[k].toNat) (UInt8.toNat_lt _)
      have hfz := HR.out.free ch[k].toNat
      have q5 : ch[k].toNat < 256 := UInt8.toNat_lt _
      have hn := Lib.hid (HR.out.step hlt)
      go_wp2
      go_roundw
      case rel => exact ⟨k + 1, by go_num, by omega, hn, Lib.hid (HBL.out.setCell (Nat.le_refl _) _)⟩
      case measure => simp [intOf]; omega
    · have HQ : Hid (InRow w.heap.size ch ch.size wr) := by
        have e : k = ch.size := by omega
        rw [e] at HR
        exact HR
      have hge : ch.size ≤ k := by omega
      go_wp2
      have HF : Hid (trimF s ch false = 0) := Lib.hid (by unfold trimF; rw [if_neg (by decide)])
      refine wp_loop_rounds 1 ?_
      rw [rounds_succ]
      go_wp2
      have HE : Hid (s.extract 0 s.size = trimT s ch false false) := Lib.hid (by unfold trimT trimE; rw [HF.out, if_neg (by decide)])
      have HE2 : Hid (0 = s.size → ByteArray.empty = trimT s ch false false) := Lib.hid fun h => by rw [← HE.out, h]; exact (extract_none s (Nat.le_refl _)).symm
      have HE3 : Hid (s = trimT s ch false false) := Lib.hid (by rw [← HE.out, extract_whole])
      refine wp_loop_rounds 1 ?_
      rw [rounds_succ]
      go_wp2
      go_ret
      first | exact ⟨by rw [← HE.out]; rfl, HBL.out⟩ | exact ⟨by rw [← HE3.out]; rfl, HBL.out⟩


set_option maxRecDepth 100000 in
set_option maxHeartbeats 1000000 in
theorem trim_false_true (s ch : ByteArray) (w : World) (hs : s.size ≤ 400) (hcs : ch.size ≤ 100000) :
    Calls Try.prog 33 #[.string s, .string ch, .bool false, .bool true] w fun e w' => e = .returned (.string (trimT s ch false true)) ∧ Below w.heap.size w w' := by
  have hq0 : InRow w.heap.size ch 0 (w.alloc (Obj.cells Try.zeroCells58 58)) := InRow.start w ch
  have hb0 : Below w.heap.size w (w.alloc (Obj.cells Try.zeroCells58 58)) := (Below.refl _ _).alloc (Nat.le_refl _) _
  have HQ0 := Lib.hid hq0
  have HB0 := Lib.hid hb0
  clear hq0 hb0
  go_enter Try.func33, Try.ntmps33
  go_wp2
  go_loopw [15] (fun i wr => ∃ k : Nat, i = .int .i64 k ∧ k ≤ ch.size ∧ Hid (InRow w.heap.size ch k wr) ∧ Hid (Below w.heap.size w wr)) (fun i _ => ch.size - (intOf i).toNat)
  case atStart => exact ⟨0, rfl, Nat.zero_le _, HQ0, HB0⟩
  case round =>
    obtain ⟨k, rfl, hk, HR, HBL⟩ := hrel
    by_cases hlt : k < ch.size
    · obtain ⟨v, hv⟩ := HR.out.cellSome (c := ch[k].toNat) (UInt8.toNat_lt _)
      have hfz := HR.out.free ch[k].toNat
      have q5 : ch[k].toNat < 256 := UInt8.toNat_lt _
      have hn := Lib.hid (HR.out.step hlt)
      go_wp2
      go_roundw
      case rel => exact ⟨k + 1, by go_num, by omega, hn, Lib.hid (HBL.out.setCell (Nat.le_refl _) _)⟩
      case measure => simp [intOf]; omega
    · have HQ : Hid (InRow w.heap.size ch ch.size wr) := by
        have e : k = ch.size := by omega
        rw [e] at HR
        exact HR
      have hge : ch.size ≤ k := by omega
      go_wp2
      have HF : Hid (trimF s ch false = 0) := Lib.hid (by unfold trimF; rw [if_neg (by decide)])
      refine wp_loop_rounds 1 ?_
      rw [rounds_succ]
      go_wp2
      go_loop [12] (fun i => ∃ m : Nat, i = .int .i64 ((s.size - m : Nat) : Int) ∧ m + 0 ≤ s.size ∧ Hid (∀ j, j < m → inC ch ((numsB s).getD (s.size - 1 - j) 0) = true)) (fun i => (intOf i).toNat)
      case atStart => exact ⟨0, rfl, by omega, Lib.hid fun j hj => by omega⟩
      case round =>
        obtain ⟨m, rfl, hm, hall⟩ := hrel
        obtain ⟨e, he⟩ : ∃ e : Nat, s.size - m = e := ⟨_, rfl⟩
        rw [he]
        by_cases hne : m + 0 = s.size
        · have HE : Hid (s.extract 0 e = trimT s ch false true) := Lib.hid (by unfold trimT trimE; rw [HF.out, if_pos rfl, trail_is hm hall.out (Or.inl hne), he])
          have e1 : e = 0 := by omega
          have e2 : e ≤ s.size := by omega
          have HX := Lib.hid he
          clear he
          have HE2 : Hid (ByteArray.empty = trimT s ch false true) := Lib.hid (by rw [← HE.out, e1]; exact (extract_none s (Nat.le_refl _)).symm)
          go_wp2
          go_ret
          first | exact ⟨by rw [← HE.out]; rfl, HBL.out⟩ | exact ⟨by rw [← HE2.out]; rfl, HBL.out⟩
        · have hlt : e - 1 < s.size := by omega
          have hfe : 0 < e := by omega
          have hcell := HQ.out.cellAt hlt
          have q1 : (1 : Int) ≤ (e : Int) := by omega
          have q3 : ((e : Int) - 1).toNat = e - 1 := by omega
          have q5 : s[e - 1].toNat < 256 := UInt8.toNat_lt _
          have q6 : e ≤ s.size := by omega
          have q7 : (0 : Int) ≤ (e : Int) := by omega
          have q8 : (e : Int) ≤ (s.size : Int) := by omega
          have q9 : 0 ≤ e := by omega
          have hx := byte_num s hlt
          have hy : (numsB s).getD (e - 1) 0 = (numsB s).getD (s.size - 1 - m) 0 := by rw [show e - 1 = s.size - 1 - m by omega]
          rw [hx, hy] at hcell
          have HX := Lib.hid he
          clear he
          cases hc : inC ch ((numsB s).getD (s.size - 1 - m) 0) with
          | true =>
            rw [hc] at hcell
            have HC := Lib.hid hc
            clear hc hx hy
            go_wp2
            go_round
            case rel => exact ⟨m + 1, by have := HX.out; congr 1; omega, by omega, Lib.hid fun j hj => by
              by_cases e : j = m
              · rw [e]; exact HC.out
              · exact hall.out j (by omega)⟩
            case measure => simp [intOf]; omega
          | false =>
            rw [hc] at hcell
            have HE : Hid (s.extract 0 e = trimT s ch false true) := Lib.hid (by unfold trimT trimE; rw [HF.out, if_pos rfl, trail_is hm hall.out (Or.inr hc), HX.out])
            clear hc hx hy
            go_wp2
            go_ret
            exact ⟨by rw [← HE.out]; rfl, HBL.out⟩


set_option maxRecDepth 100000 in
set_option maxHeartbeats 1000000 in
theorem trim_true_false (s ch : ByteArray) (w : World) (hs : s.size ≤ 400) (hcs : ch.size ≤ 100000) :
    Calls Try.prog 33 #[.string s, .string ch, .bool true, .bool false] w fun e w' => e = .returned (.string (trimT s ch true false)) ∧ Below w.heap.size w w' := by
  have hq0 : InRow w.heap.size ch 0 (w.alloc (Obj.cells Try.zeroCells58 58)) := InRow.start w ch
  have hb0 : Below w.heap.size w (w.alloc (Obj.cells Try.zeroCells58 58)) := (Below.refl _ _).alloc (Nat.le_refl _) _
  have HQ0 := Lib.hid hq0
  have HB0 := Lib.hid hb0
  clear hq0 hb0
  go_enter Try.func33, Try.ntmps33
  go_wp2
  go_loopw [15] (fun i wr => ∃ k : Nat, i = .int .i64 k ∧ k ≤ ch.size ∧ Hid (InRow w.heap.size ch k wr) ∧ Hid (Below w.heap.size w wr)) (fun i _ => ch.size - (intOf i).toNat)
  case atStart => exact ⟨0, rfl, Nat.zero_le _, HQ0, HB0⟩
  case round =>
    obtain ⟨k, rfl, hk, HR, HBL⟩ := hrel
    by_cases hlt : k < ch.size
    · obtain ⟨v, hv⟩ := HR.out.cellSome (c := ch[k].toNat) (UInt8.toNat_lt _)
      have hfz := HR.out.free ch[k].toNat
      have q5 : ch[k].toNat < 256 := UInt8.toNat_lt _
      have hn := Lib.hid (HR.out.step hlt)
      go_wp2
      go_roundw
      case rel => exact ⟨k + 1, by go_num, by omega, hn, Lib.hid (HBL.out.setCell (Nat.le_refl _) _)⟩
      case measure => simp [intOf]; omega
    · have HQ : Hid (InRow w.heap.size ch ch.size wr) := by
        have e : k = ch.size := by omega
        rw [e] at HR
        exact HR
      have hge : ch.size ≤ k := by omega
      go_wp2
      go_loop [11] (fun i => ∃ k : Nat, i = .int .i64 k ∧ k ≤ s.size ∧ Hid (∀ j, j < k → inC ch ((numsB s).getD j 0) = true)) (fun i => s.size - (intOf i).toNat)
      case atStart => exact ⟨0, rfl, Nat.zero_le _, Lib.hid fun j hj => by omega⟩
      case round =>
        obtain ⟨f, rfl, hf, hall⟩ := hrel
        by_cases hne : f = s.size
        · have HF : Hid (trimF s ch true = f) := Lib.hid (by unfold trimF; rw [if_pos rfl]; exact lead_is hf hall.out (Or.inl hne))
          have hge : s.size ≤ f := by omega
          have HNE := Lib.hid hne
          clear hne
          go_wp2
          have HE : Hid (s.extract f s.size = trimT s ch true false) := Lib.hid (by unfold trimT trimE; rw [HF.out, if_neg (by decide)])
          have HE2 : Hid (f = s.size → ByteArray.empty = trimT s ch true false) := Lib.hid fun h => by rw [← HE.out, h]; exact (extract_none s (Nat.le_refl _)).symm
          have HE3 : Hid (f = 0 → s = trimT s ch true false) := Lib.hid fun h => by rw [← HE.out, h, extract_whole]
          refine wp_loop_rounds 1 ?_
          rw [rounds_succ]
          go_wp2
          go_ret
          first | exact ⟨by rw [← HE.out]; rfl, HBL.out⟩ | exact ⟨by rw [← HE3.out rfl]; rfl, HBL.out⟩ | exact ⟨by rw [← HE2.out HNE.out]; rfl, HBL.out⟩

        · have hlt : f < s.size := by omega
          have hcell := HQ.out.cellAt hlt
          have q5 : s[f].toNat < 256 := UInt8.toNat_lt _
          have hx := byte_num s hlt
          rw [hx] at hcell
          cases hc : inC ch ((numsB s).getD f 0) with
          | true =>
            rw [hc] at hcell
            have HC := Lib.hid hc
            clear hc hx
            go_wp2
            go_round
            case rel => exact ⟨f + 1, by go_num, by omega, Lib.hid fun j hj => by
              by_cases e : j = f
              · rw [e]; exact HC.out
              · exact hall.out j (by omega)⟩
            case measure => simp [intOf]; omega
          | false =>
            rw [hc] at hcell
            have HF : Hid (trimF s ch true = f) := Lib.hid (by unfold trimF; rw [if_pos rfl]; exact lead_is hf hall.out (Or.inr hc))
            clear hc hx hne
            go_wp2
            clear hcell q5
            have HE : Hid (s.extract f s.size = trimT s ch true false) := Lib.hid (by unfold trimT trimE; rw [HF.out, if_neg (by decide)])
            have HE2 : Hid (f = s.size → ByteArray.empty = trimT s ch true false) := Lib.hid fun h => by rw [← HE.out, h]; exact (extract_none s (Nat.le_refl _)).symm
            have HE3 : Hid (f = 0 → s = trimT s ch true false) := Lib.hid fun h => by rw [← HE.out, h, extract_whole]
            refine wp_loop_rounds 1 ?_
            rw [rounds_succ]
            go_wp2
            go_ret
            first | exact ⟨by rw [← HE.out]; rfl, HBL.out⟩ | exact ⟨by rw [← HE3.out rfl]; rfl, HBL.out⟩ | exact ⟨by rw [← HE2.out HNE.out]; rfl, HBL.out⟩



set_option maxRecDepth 100000 in
set_option maxHeartbeats 1000000 in
theorem trim_true_true (s ch : ByteArray) (w : World) (hs : s.size ≤ 400) (hcs : ch.size ≤ 100000) :
    Calls Try.prog 33 #[.string s, .string ch, .bool true, .bool true] w fun e w' => e = .returned (.string (trimT s ch true true)) ∧ Below w.heap.size w w' := by
  have hq0 : InRow w.heap.size ch 0 (w.alloc (Obj.cells Try.zeroCells58 58)) := InRow.start w ch
  have hb0 : Below w.heap.size w (w.alloc (Obj.cells Try.zeroCells58 58)) := (Below.refl _ _).alloc (Nat.le_refl _) _
  have HQ0 := Lib.hid hq0
  have HB0 := Lib.hid hb0
  clear hq0 hb0
  go_enter Try.func33, Try.ntmps33
  go_wp2
  go_loopw [15] (fun i wr => ∃ k : Nat, i = .int .i64 k ∧ k ≤ ch.size ∧ Hid (InRow w.heap.size ch k wr) ∧ Hid (Below w.heap.size w wr)) (fun i _ => ch.size - (intOf i).toNat)
  case atStart => exact ⟨0, rfl, Nat.zero_le _, HQ0, HB0⟩
  case round =>
    obtain ⟨k, rfl, hk, HR, HBL⟩ := hrel
    by_cases hlt : k < ch.size
    · obtain ⟨v, hv⟩ := HR.out.cellSome (c := ch[k].toNat) (UInt8.toNat_lt _)
      have hfz := HR.out.free ch[k].toNat
      have q5 : ch[k].toNat < 256 := UInt8.toNat_lt _
      have hn := Lib.hid (HR.out.step hlt)
      go_wp2
      go_roundw
      case rel => exact ⟨k + 1, by go_num, by omega, hn, Lib.hid (HBL.out.setCell (Nat.le_refl _) _)⟩
      case measure => simp [intOf]; omega
    · have HQ : Hid (InRow w.heap.size ch ch.size wr) := by
        have e : k = ch.size := by omega
        rw [e] at HR
        exact HR
      have hge : ch.size ≤ k := by omega
      go_wp2
      go_loop [11] (fun i => ∃ k : Nat, i = .int .i64 k ∧ k ≤ s.size ∧ Hid (∀ j, j < k → inC ch ((numsB s).getD j 0) = true)) (fun i => s.size - (intOf i).toNat)
      case atStart => exact ⟨0, rfl, Nat.zero_le _, Lib.hid fun j hj => by omega⟩
      case round =>
        obtain ⟨f, rfl, hf, hall⟩ := hrel
        by_cases hne : f = s.size
        · have HF : Hid (trimF s ch true = f) := Lib.hid (by unfold trimF; rw [if_pos rfl]; exact lead_is hf hall.out (Or.inl hne))
          have hge : s.size ≤ f := by omega
          have HNE := Lib.hid hne
          clear hne
          go_wp2
          go_loop [12] (fun i => ∃ m : Nat, i = .int .i64 ((s.size - m : Nat) : Int) ∧ m + f ≤ s.size ∧ Hid (∀ j, j < m → inC ch ((numsB s).getD (s.size - 1 - j) 0) = true)) (fun i => (intOf i).toNat)
          case atStart => exact ⟨0, rfl, by omega, Lib.hid fun j hj => by omega⟩
          case round =>
            obtain ⟨m, rfl, hm, hall⟩ := hrel
            obtain ⟨e, he⟩ : ∃ e : Nat, s.size - m = e := ⟨_, rfl⟩
            rw [he]
            by_cases hne : m + f = s.size
            · have HE : Hid (s.extract f e = trimT s ch true true) := Lib.hid (by unfold trimT trimE; rw [HF.out, if_pos rfl, trail_is hm hall.out (Or.inl hne), he])
              have e1 : e = f := by omega
              have e2 : e ≤ s.size := by omega
              have HX := Lib.hid he
              clear he
              have HE2 : Hid (ByteArray.empty = trimT s ch true true) := Lib.hid (by rw [← HE.out, e1]; exact (extract_none s (Nat.le_refl _)).symm)
              go_wp2
              go_ret
              first | exact ⟨by rw [← HE.out]; rfl, HBL.out⟩ | exact ⟨by rw [← HE2.out]; rfl, HBL.out⟩
            · exact absurd (show m + f = s.size by omega) hne

        · have hlt : f < s.size := by omega
          have hcell := HQ.out.cellAt hlt
          have q5 : s[f].toNat < 256 := UInt8.toNat_lt _
          have hx := byte_num s hlt
          rw [hx] at hcell
          cases hc : inC ch ((numsB s).getD f 0) with
          | true =>
            rw [hc] at hcell
            have HC := Lib.hid hc
            clear hc hx
            go_wp2
            go_round
            case rel => exact ⟨f + 1, by go_num, by omega, Lib.hid fun j hj => by
              by_cases e : j = f
              · rw [e]; exact HC.out
              · exact hall.out j (by omega)⟩
            case measure => simp [intOf]; omega
          | false =>
            rw [hc] at hcell
            have HF : Hid (trimF s ch true = f) := Lib.hid (by unfold trimF; rw [if_pos rfl]; exact lead_is hf hall.out (Or.inr hc))
            clear hc hx hne
            go_wp2
            clear hcell q5
            go_loop [12] (fun i => ∃ m : Nat, i = .int .i64 ((s.size - m : Nat) : Int) ∧ m + f ≤ s.size ∧ Hid (∀ j, j < m → inC ch ((numsB s).getD (s.size - 1 - j) 0) = true)) (fun i => (intOf i).toNat)
            case atStart => exact ⟨0, rfl, by omega, Lib.hid fun j hj => by omega⟩
            case round =>
              obtain ⟨m, rfl, hm, hall⟩ := hrel
              obtain ⟨e, he⟩ : ∃ e : Nat, s.size - m = e := ⟨_, rfl⟩
              rw [he]
              by_cases hne : m + f = s.size
              · have HE : Hid (s.extract f e = trimT s ch true true) := Lib.hid (by unfold trimT trimE; rw [HF.out, if_pos rfl, trail_is hm hall.out (Or.inl hne), he])
                have e1 : e = f := by omega
                have e2 : e ≤ s.size := by omega
                have HX := Lib.hid he
                clear he
                have HE2 : Hid (ByteArray.empty = trimT s ch true true) := Lib.hid (by rw [← HE.out, e1]; exact (extract_none s (Nat.le_refl _)).symm)
                go_wp2
                go_ret
                first | exact ⟨by rw [← HE.out]; rfl, HBL.out⟩ | exact ⟨by rw [← HE2.out]; rfl, HBL.out⟩
              · have hlt : e - 1 < s.size := by omega
                have hfe : f < e := by omega
                have hcell := HQ.out.cellAt hlt
                have q1 : (1 : Int) ≤ (e : Int) := by omega
                have q3 : ((e : Int) - 1).toNat = e - 1 := by omega
                have q5 : s[e - 1].toNat < 256 := UInt8.toNat_lt _
                have q6 : e ≤ s.size := by omega
                have q7 : (f : Int) ≤ (e : Int) := by omega
                have q8 : (e : Int) ≤ (s.size : Int) := by omega
                have q9 : f ≤ e := by omega
                have hx := byte_num s hlt
                have hy : (numsB s).getD (e - 1) 0 = (numsB s).getD (s.size - 1 - m) 0 := by rw [show e - 1 = s.size - 1 - m by omega]
                rw [hx, hy] at hcell
                have HX := Lib.hid he
                clear he
                cases hc : inC ch ((numsB s).getD (s.size - 1 - m) 0) with
                | true =>
                  rw [hc] at hcell
                  have HC := Lib.hid hc
                  clear hc hx hy
                  go_wp2
                  go_round
                  case rel => exact ⟨m + 1, by have := HX.out; congr 1; omega, by omega, Lib.hid fun j hj => by
                    by_cases e : j = m
                    · rw [e]; exact HC.out
                    · exact hall.out j (by omega)⟩
                  case measure => simp [intOf]; omega
                | false =>
                  rw [hc] at hcell
                  have HE : Hid (s.extract f e = trimT s ch true true) := Lib.hid (by unfold trimT trimE; rw [HF.out, if_pos rfl, trail_is hm hall.out (Or.inr hc), HX.out])
                  clear hc hx hy
                  go_wp2
                  go_ret
                  exact ⟨by rw [← HE.out]; rfl, HBL.out⟩



end Go.Proofs.Ytkohpijpipcajaa
