import Derived.Test.YtkohpijpipcajaaX1
namespace Go.Proofs.Ytkohpijpipcajaa
open Go.RowKit
set_option linter.unusedVariables false
set_option linter.unusedSimpArgs false

/-- one index appended to a row's slice. -/
theorem wpList_appI {ops : Array Oper} {rest : List Oper} {o : Oper} {a : Act} {Q : Exit → Act → World → Prop} (hgd : o.guard = none) (s x : Operand)
    (ho : o.op = .call { callee := .builtin .append, args := #[s, x], argTypes := #[70, 70] }) (g B : Nat) (L : Nat → List Nat) (c : Nat) (W : World) (i : Nat) {v : Value}
    (hs : a.eval s = v) (hx : a.eval x = .slice (some ⟨W.heap.size, 0, none⟩) 1 1) (hr : IdxRows g B L W) (hc : c < 256) (hv : W.cell? ⟨g, c, none⟩ = some v) (hn : (L c).length ≤ 1000)
    (h : ∀ v' w', (∃ k cap, v' = .slice (some ⟨k, 0, none⟩) ((L c).length + 1) cap) → w'.cell? ⟨g, c, none⟩ = some v → w'.frozen? ⟨g, c, none⟩ = false → Hid (IdxRows g B (updL L c i) (w'.setCell ⟨g, c, none⟩ v')) → Hid (∀ B0, B0 ≤ B → Below B0 W w') → wpList Try.prog ops Q rest (a.put o.dst v') w') :
    wpList Try.prog ops Q (o :: rest) a (W.alloc (Obj.cells #[.int .i64 i] 3)) := by
  obtain ⟨i0, hi, hz0, hz1, hz2⟩ := info_parts info3
  obtain ⟨v0, hv0, hown, hback⟩ := hr.at hc
  rw [hv] at hv0
  cases hv0
  have hB := hr.2.1
  refine wpList_append_own_at _ hgd s x 70 ho B 3 i0 (.int .i64 0) 1 8 Try.underlying70 hi hz0 hz1 hz2 rfl (by decide) _ _ _ hs (hown.alloc _) ⟨W.heap.size, 0, none⟩ 1 1 [.int .i64 i] hx rfl ?c1 ?c2 (by unfold maxLen; omega) (by omega) (by simp; omega) ?_
  case c1 =>
    intro j u hj
    cases j with
    | zero => simp at hj; subst hj; exact cell_of_one (heap_alloc_new W _)
    | succ j => simp at hj
  case c2 => intro u hu; simp at hu; subst hu; rfl
  intro v' w' hown' hg _ hb
  obtain ⟨k1, k2, k3⟩ := hback _ w' v' i hg hown' hb
  refine h v' w' ?_ k1 k2 (Lib.hid k3) (Lib.hid fun B0 h0 => ?_)
  · rcases hown'.2 with ⟨_, h0⟩ | ⟨g, cap, cur, hv, _⟩
    · omega
    · exact ⟨g, cap, hv⟩
  · exact ((Below.refl _ W).alloc (Nat.le_trans h0 hB) _).grown hg (by simp; omega) (fun k e => Nat.le_trans h0 (hown.lt k e).1)

/-- the letter's other case. -/
def swp (X : Nat) : Nat := if 65 ≤ X ∧ X ≤ 90 then X + 32 else if 97 ≤ X ∧ X ≤ 122 then X - 32 else X
theorem swp_xor : ∀ X : Nat, X < 256 → bits BinOp.xor IntKind.u8 (bits BinOp.xor IntKind.u8 (sml X) (grt X)) X = (swp X : Int) := by decide +kernel
theorem swp_lt {X : Nat} (h : X < 256) : swp X < 256 := by unfold swp; split <;> (try split) <;> omega

def fstB (key : ByteArray) : Nat := ((numsB key).getD 0 0).toNat
def hitB (f : Bool) (X c : Nat) : Bool := X == c || (f && swp X == c)
/-- the indexes that the first m pairs leave at a byte. -/
def rowsL (ps : List ByteArray) (f : Bool) : Nat → Nat → List Nat
  | 0, _ => []
  | m + 1, c => if 0 < (keyM ps m).size ∧ hitB f (fstB (keyM ps m)) c = true then rowsL ps f m c ++ [2 * m] else rowsL ps f m c
theorem rowsL_empty {ps : List ByteArray} {f : Bool} {m : Nat} (h : (keyM ps m).size = 0) : rowsL ps f m = rowsL ps f (m + 1) := by
  funext c
  rw [rowsL, if_neg (by omega)]
theorem rowsL_one {ps : List ByteArray} {f : Bool} {m X J : Nat} (h : 0 < (keyM ps m).size) (hX : fstB (keyM ps m) = X) (hJ : J = 2 * m) (hf : f = false ∨ swp X = X) : updL (rowsL ps f m) X J = rowsL ps f (m + 1) := by
  funext c
  rw [rowsL, hX, hJ]
  unfold updL
  by_cases e : c = X
  · rw [if_pos e, if_pos ⟨h, by simp [hitB, e]⟩, e]
  · rw [if_neg e, if_neg (fun x => ?_)]
    have := x.2
    rcases hf with h1 | h1
    · simp [hitB, h1] at this; omega
    · simp [hitB, h1] at this; omega
theorem rowsL_two {ps : List ByteArray} {m X J O : Nat} (h : 0 < (keyM ps m).size) (hX : fstB (keyM ps m) = X) (hJ : J = 2 * m) (hO : swp X = O) (hne : O ≠ X) : updL (updL (rowsL ps true m) X J) O J = rowsL ps true (m + 1) := by
  funext c
  rw [rowsL, hX, hJ]
  unfold updL
  by_cases e : c = O
  · rw [if_pos e, if_neg hne, if_pos ⟨h, by simp [hitB, e, hO]⟩, e]
  · rw [if_neg e]
    by_cases e2 : c = X
    · rw [if_pos e2, if_pos ⟨h, by simp [hitB, e2]⟩, e2]
    · rw [if_neg e2, if_neg (fun x => ?_)]
      have := x.2
      simp [hitB, hO] at this
      omega

set_option maxRecDepth 1000000 in
set_option maxHeartbeats 4000000 in
theorem keys_any (ps : List ByteArray) (f : Bool) (ao : Option Addr) (cap : Nat) (w : World) (hn : ps.length ≤ 20) (hl : anyLong ps = false) (hp : TextsAt ps ao w) :
    Calls Try.prog 67 #[.slice ao ps.length cap, .bool f] w fun e w' => ∃ (cs : Array Value) (V : Nat → Value) (L : Nat → List Nat) (m : Nat), Hid (L = rowsL ps f m) ∧ ps.length ≤ 2 * m ∧ 2 * m ≤ ps.length + 1 ∧ e = .returned (.agg cs) ∧ cs.size = 256 ∧ cs.all (·.oneCell') = true ∧ (∀ c, c < 256 → cs[c]? = some (V c)) ∧
      (∀ c, c < 256 → w'.ownsRow (w.heap.size + 2) 3 1 (V c) (L c).length (idxCells (L c))) ∧ (∀ c, (L c).length ≤ 20) ∧ Below w.heap.size w w' := by
  have HP := Lib.hid hp
  have HL := Lib.hid hl
  clear hp hl
  go_enter Try.func67, Try.ntmps67
  go_wp2_with fail
  generalize hW : (w.alloc (Obj.cells Try.zeroCells71 71)).alloc (Obj.cells Try.zeroCells71 71) = W
  have hs : w.heap.size + 2 ≤ W.heap.size := by rw [← hW]; simp
  have r4 : W.heap[w.heap.size]? = some (.cells Try.zeroCells71 71 (0, 0)) := by rw [← hW]; exact heap_alloc2_old _ _ _
  have r5 : W.heap[w.heap.size + 1]? = some (.cells Try.zeroCells71 71 (0, 0)) := by rw [← hW]; exact heap_alloc2_new _ _ _
  have bl : Below w.heap.size w W := by rw [← hW]; exact ((Below.refl _ _).alloc (Nat.le_refl _) _).alloc (by simp) _
  clear hW
  have hi0 : IdxRows (w.heap.size + 1) (w.heap.size + 2) (fun _ => []) W := ⟨Nat.lt_succ_self _, hs, Try.zeroCells71, fun _ => .slice none 0 0, r5, by rw [zc71]; simp, fun c hc => by rw [zc71]; simp [hc], fun c hc => World.ownsRow_nil _ _ _ _, fun c d _ _ _ k e => by cases e⟩
  have R4 := Lib.hid r4
  have BL := Lib.hid bl
  clear r4 r5 bl
  go_loopw [6] (fun j wr => ∃ m J : Nat, j = .int .i64 J ∧ J ≤ ps.length + 1 ∧ Hid (J = 2 * m) ∧ (∃ L, (∀ c, (L c).length ≤ m) ∧ Hid (L = rowsL ps f m) ∧ IdxRows (w.heap.size + 1) (w.heap.size + 2) L wr) ∧ Hid (Below w.heap.size w wr) ∧ Hid (wr.heap[w.heap.size]? = some (.cells Try.zeroCells71 71 (0, 0)))) (fun j _ => ps.length + 2 - (intOf j).toNat)
  case atStart => exact ⟨0, 0, rfl, by omega, Lib.hid rfl, ⟨_, fun c => Nat.le_refl _, Lib.hid rfl, hi0⟩, BL, R4⟩
  case round =>
    obtain ⟨m, J, rfl, hm, hJ, ⟨L, hL, HLE, hI⟩, HB, H4⟩ := hrel
    by_cases hjl : J < ps.length
    · obtain ⟨a, rfl, hc⟩ := HP.out.below HB.out J hjl
      have hc' : wr.cell? (a.add J) = some (.string (keyM ps m)) := by rw [hc, hJ.out]; rfl
      have hkz : (keyM ps m).size ≤ 400 := anyLong_no HL.out _ (by rw [← hJ.out]; exact hjl)
      clear hc
      generalize hke : keyM ps m = key at hkz hc'
      have HK := Lib.hid hke
      clear hke
      by_cases h0 : key.size = 0
      · have e1 := (empty_yes h0).1
        have e2 := (empty_yes h0).2
        go_wp2
        go_roundw
        case rel => exact ⟨m + 1, J + 2, by go_num, by omega, Lib.hid (by have := hJ.out; omega), ⟨L, fun c => Nat.le_succ_of_le (hL c), Lib.hid (by rw [HLE.out]; exact rowsL_empty (by rw [HK.out]; exact h0)), hI⟩, HB, H4⟩
        case measure => simp [intOf]; omega
      · have hp0 : 0 < key.size := by omega
        have e1 := (empty_no hp0).1
        have e2 := (empty_no hp0).2
        have hx := byte_num key hp0
        have hb := numsB_at key 0
        generalize hxe : (numsB key).getD 0 0 = x at hx hb
        obtain ⟨X, rfl⟩ : ∃ X : Nat, x = X := ⟨x.toNat, by omega⟩
        have HF : Hid (fstB (keyM ps m) = X) := Lib.hid (by rw [HK.out]; unfold fstB; rw [hxe]; rfl)
        have HP0 : Hid (0 < (keyM ps m).size) := Lib.hid (by rw [HK.out]; exact hp0)
        clear hxe
        have hX : X < 256 := by omega
        have hm20 : m ≤ 900 := by have := hJ.out; omega
        obtain ⟨v, hv, _, _⟩ := hI.at hX
        have hxo := swp_xor X hX
        have hO := swp_lt hX
        generalize hoe : swp X = O at hxo hO
        have HO := Lib.hid hoe
        have hL2 : ∀ c, (updL L X J c).length ≤ m + 1 := fun c => by
          have := hL c
          unfold updL
          split
          · rename_i e; subst e; simp; omega
          · omega
        clear hoe
        cases f with
        | false =>
          go_wp2_with (first | (at_builtin; refine wpList_appI (v := v) rfl _ _ rfl (w.heap.size + 1) (w.heap.size + 2) L X wr J rfl rfl hI hX hv (Nat.le_trans (hL X) (by omega)) ?_; intro v1 w1 hv1 k1 k2 hI1 hB1; obtain ⟨p1, c1, rfl⟩ := hv1) | (go_at_call 58; refine (small_any _ _ (by omega) (by omega)).mono ?_; rintro e w' ⟨rfl, rfl⟩) | (go_at_call 60; refine (great_any _ _ (by omega) (by omega)).mono ?_; rintro e w' ⟨rfl, rfl⟩))
          go_roundw
          case rel => exact ⟨m + 1, J + 2, by go_num, by omega, Lib.hid (by have := hJ.out; omega), ⟨_, hL2, Lib.hid (by rw [HLE.out]; exact rowsL_one HP0.out HF.out hJ.out (Or.inl rfl)), hI1.out⟩, Lib.hid ((HB.out.trans ((hB1.out w.heap.size (by omega)))).setCell (by simp) _), Lib.hid ((heap_setCell_other _ _ _ _ (by simp)).trans (((hB1.out (w.heap.size + 1) (by omega)).block _ (by omega)).trans H4.out))⟩
          case measure => simp [intOf]; omega
        | true =>
          by_cases hq : O = X
          · have hq1 : ((O : Int) != (X : Int)) = false := by simp [hq]
            go_wp2_with (first | (at_builtin; refine wpList_appI (v := v) rfl _ _ rfl (w.heap.size + 1) (w.heap.size + 2) L X wr J rfl rfl hI hX hv (Nat.le_trans (hL X) (by omega)) ?_; intro v1 w1 hv1 k1 k2 hI1 hB1; obtain ⟨p1, c1, rfl⟩ := hv1) | (go_at_call 58; refine (small_any _ _ (by omega) (by omega)).mono ?_; rintro e w' ⟨rfl, rfl⟩) | (go_at_call 60; refine (great_any _ _ (by omega) (by omega)).mono ?_; rintro e w' ⟨rfl, rfl⟩))
            go_roundw
            case rel => exact ⟨m + 1, J + 2, by go_num, by omega, Lib.hid (by have := hJ.out; omega), ⟨_, hL2, Lib.hid (by rw [HLE.out]; exact rowsL_one HP0.out HF.out hJ.out (Or.inr (HO.out.trans hq))), hI1.out⟩, Lib.hid ((HB.out.trans ((hB1.out w.heap.size (by omega)))).setCell (by simp) _), Lib.hid ((heap_setCell_other _ _ _ _ (by simp)).trans (((hB1.out (w.heap.size + 1) (by omega)).block _ (by omega)).trans H4.out))⟩
            case measure => simp [intOf]; omega
          · have hq1 : ((O : Int) != (X : Int)) = true := by simp; omega
            have hL3 : ∀ c, (updL (updL L X J) O J c).length ≤ m + 1 := fun c => by
              by_cases e : c = O
              · subst e
                have h1 : updL L X J c = L c := if_neg hq
                have := hL c
                unfold updL at h1 ⊢
                rw [if_pos rfl, h1]
                simp; omega
              · have h1 : updL (updL L X J) O J c = updL L X J c := if_neg e
                rw [h1]; exact hL2 c
            go_wp2_with (first | (at_builtin; refine wpList_appI (v := v) rfl _ _ rfl (w.heap.size + 1) (w.heap.size + 2) L X wr J rfl rfl hI hX hv (Nat.le_trans (hL X) (by omega)) ?_; intro v1 w1 hv1 k1 k2 hI1 hB1; obtain ⟨p1, c1, rfl⟩ := hv1; obtain ⟨v2, hv2, _, _⟩ := hI1.out.at hO; have hz1 : (w1.setCell ⟨w.heap.size + 1, X, none⟩ (.slice (some ⟨p1, 0, none⟩) ((L X).length + 1) c1)).heap.size = w1.heap.size := by simp) | (at_builtin; go_loud (refine wpList_appI (v := v2) rfl _ _ rfl (w.heap.size + 1) (w.heap.size + 2) (updL L X J) O _ J rfl (by first | rfl | (rw [hz1]; rfl)) hI1.out hO hv2 (Nat.le_trans (hL2 O) (by omega)) ?_; intro v3 w3 hv3 k3 k4 hI3 hB3; obtain ⟨p3, c3, rfl⟩ := hv3)) | (go_at_call 58; refine (small_any _ _ (by omega) (by omega)).mono ?_; rintro e w' ⟨rfl, rfl⟩) | (go_at_call 60; refine (great_any _ _ (by omega) (by omega)).mono ?_; rintro e w' ⟨rfl, rfl⟩))
            go_roundw
            case rel => exact ⟨m + 1, J + 2, by go_num, by omega, Lib.hid (by have := hJ.out; omega), ⟨_, hL3, Lib.hid (by rw [HLE.out]; exact rowsL_two HP0.out HF.out hJ.out HO.out hq), hI3.out⟩, Lib.hid ((((HB.out.trans ((hB1.out w.heap.size (by omega)))).setCell (by simp) _).trans (hB3.out w.heap.size (by omega))).setCell (by simp) _), Lib.hid ((heap_setCell_other _ _ _ _ (by simp)).trans (((hB3.out (w.heap.size + 1) (by omega)).block _ (by omega)).trans ((heap_setCell_other _ _ _ _ (by simp)).trans (((hB1.out (w.heap.size + 1) (by omega)).block _ (by omega)).trans H4.out))))⟩
            case measure => simp [intOf]; omega
    · obtain ⟨hgB, hBs, cs, V, hrow, hcs, hV, hown, _⟩ := hI
      have HOWN := Lib.hid hown
      have HV := Lib.hid hV
      have hone : cs.all (·.oneCell') = true := by
        rw [Array.all_eq_true]
        intro i hi
        have h1 := hV i (by omega)
        rw [Array.getElem?_eq_getElem hi] at h1
        have h2 : cs[i] = V i := by simpa using h1
        rw [h2]
        rcases (hown i (by omega)).2 with ⟨e, _⟩ | ⟨k, cap, cur, e, _⟩ <;> rw [e] <;> rfl
      have hi : (Try.prog.info? 71).map (·.size) = some cs.size := by rw [hcs]; exact info71
      have hsz0 : Try.zeroCells71.size = cs.size := by rw [zc71, hcs]; simp
      have h4 : wr.heap[w.heap.size]? = some (.cells Try.zeroCells71 71 (0, 0)) := H4.out
      have R := Lib.hid hrow
      have HONE := Lib.hid hone
      have HI := Lib.hid hi
      have HSZ0 := Lib.hid hsz0
      have HCS := Lib.hid hcs
      clear hrow hone hi hsz0 hcs hown hV
      go_wp2_with (first | (refine wpList_load_row rfl 71 _ rfl (w.heap.size + 1) rfl 71 _ (0,0) _ R.out Try.underlying71 rfl HI.out ?_) | (refine wpList_store_row rfl 71 _ _ rfl (w.heap.size) _ rfl rfl 71 _ H4.out HI.out HSZ0.out HONE.out ?_))
      refine bodyPost_ret (v := .agg cs) (results_cell_row (p := 4) (ty := 71) rfl _ _ (w.heap.size) 71 cs (0, 0) _ rfl (setRow_heap _ _ _ _ _ _ H4.out) Try.underlying71 rfl HI.out) rfl ?_
      refine ⟨cs, V, L, m, HLE, by have := hJ.out; omega, by have := hJ.out; omega, rfl, HCS.out, HONE.out, HV.out, fun c hc => ?_, fun c => Nat.le_trans (hL c) (by have := hJ.out; omega), below_setRow HB.out (Nat.le_refl _) cs⟩
      refine (HOWN.out c hc).kept (row := some w.heap.size) ⟨rfl, rfl, rfl, by rw [setRow_size]; exact Nat.le_refl _, fun k _ hk => setRow_other _ _ _ _ (fun e => hk (by rw [e]))⟩ (Or.inr fun e => ?_)
      have := ((HOWN.out c hc).lt _ e).1
      omega
end Go.Proofs.Ytkohpijpipcajaa
