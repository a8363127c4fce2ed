import Derived.Test.YtocdabmfcbmpaaaGreatDoorCD1
namespace Go.Proofs.YtocdabmfcbmpaaaGreatDoor
open Go.RowKit
set_option linter.unusedVariables false
set_option linter.unusedSimpArgs false

theorem PRow.cells {B : Nat} {W : World} {ao : Option Addr} {n cap : Nat} {l : List (Nat × Nat)} (h : PRow B W (.slice ao n cap) l) (hl : l ≠ []) : ∃ g, (Value.slice ao n cap) = .slice (some ⟨g, 0, none⟩) l.length cap ∧ ∀ j u, (flat l)[j]? = some u → W.cell? ((⟨g, 0, none⟩ : Addr).add j) = some u := by
  have hp : 0 < l.length := List.length_pos_iff.2 hl
  rcases h.2 with ⟨_, h0⟩ | ⟨g, cap', cur, h4, h5, h6, h7, h8, h9, h10⟩
  · omega
  · cases h4
    refine ⟨g, rfl, fun j u hj => ?_⟩
    have hlt : j < (flat l).length := (List.getElem?_eq_some_iff.1 hj).1
    rw [flat_length] at hlt
    have e : (⟨g, 0, none⟩ : Addr).add j = ⟨g, j, none⟩ := by simp [Addr.add]; intro h; exact h.symm
    rw [e]
    refine (cell_of_row _ _ j _ _ _ h6).trans ?_
    rw [← h10, List.getElem?_take_of_lt hlt] at hj
    simpa using hj
/-- what pieces tells. -/
def PcP (s : ByteArray) (m : Nat) (W : World) (e : Ending) (W' : World) : Prop :=
  (∀ l, pcs (bytesL s) = some l → ∃ ao n cap, e = .returned (.tuple #[.slice ao n cap, .bool true]) ∧ PRow W.heap.size W' (.slice ao n cap) l ∧ l.length ≤ 5 * s.size) ∧
  (pcs (bytesL s) = none → e = .returned (.tuple #[.slice none 0 0, .bool false])) ∧ Below W.heap.size W W'
structure PcI (s : ByteArray) (m : Nat) (W wr : World) (k : Nat) (v : Value) (acc : List (Nat × Nat)) : Prop where
  row : PRow W.heap.size wr v acc
  eq : pcs (bytesL s) = (pcs ((bytesL s).drop k)).map fun l => acc ++ l
  bel : Below W.heap.size W wr
  len : acc.length ≤ 5 * k
theorem pcs_ne {c : Nat} {rest : List Nat} (h : c ≠ 37) : pcs (c :: rest) = (pcs rest).map fun l => (0, c) :: l := by
  rw [pcs.eq_def]; simp [h]
theorem pcs_one : pcs [37] = none := by simp [pcs]
theorem pcs_2 {d : Nat} {rest : List Nat} : pcs (37 :: d :: rest) = if d = 37 then (pcs rest).map fun l => (0, 37) :: l
        else if d = 68 then (pcs rest).map fun l => inD ++ l
        else if d = 84 then (pcs rest).map fun l => inT ++ l
        else if (letL.lookup d).isSome then (pcs rest).map fun l => (d, 0) :: l
        else none := by
  rw [pcs.eq_def]; simp only [if_true]
theorem pcs_plain {s : ByteArray} {k c : Nat} {acc : List (Nat × Nat)} (hk : k < s.size) (hc : (s[k]).toNat = c) (hne : c ≠ 37) (h : pcs (bytesL s) = (pcs ((bytesL s).drop k)).map fun l => acc ++ l) :
    pcs (bytesL s) = (pcs ((bytesL s).drop (k + 1))).map fun l => (acc ++ [(0, c)]) ++ l := by
  rw [bytesL_drop s k hk, hc, pcs_ne hne, Option.map_map] at h
  rw [h]; congr 1; funext l; simp
theorem pcs_end {s : ByteArray} {k : Nat} {acc : List (Nat × Nat)} (hk : k < s.size) (hc : (s[k]).toNat = 37) (hs : k + 1 = s.size) (h : pcs (bytesL s) = (pcs ((bytesL s).drop k)).map fun l => acc ++ l) : pcs (bytesL s) = none := by
  rw [bytesL_drop s k hk, hc, List.drop_of_length_le (by rw [bytesL_length]; omega), pcs_one] at h
  exact h
theorem pcs_two {s : ByteArray} {k d : Nat} {acc : List (Nat × Nat)} (hk : k + 1 < s.size) (hc : (s[k]).toNat = 37) (hd : (s[k + 1]).toNat = d) (h : pcs (bytesL s) = (pcs ((bytesL s).drop k)).map fun l => acc ++ l) :
    (∀ q, (d = 37 ∧ q = [(0, 37)]) ∨ (d = 68 ∧ q = inD) ∨ (d = 84 ∧ q = inT) ∨ (d ≠ 37 ∧ d ≠ 68 ∧ d ≠ 84 ∧ (letL.lookup d).isSome = true ∧ q = [(d, 0)]) →
      pcs (bytesL s) = (pcs ((bytesL s).drop (k + 1 + 1))).map fun l => (acc ++ q) ++ l) ∧
    (d ≠ 37 → d ≠ 68 → d ≠ 84 → letL.lookup d = none → pcs (bytesL s) = none) := by
  rw [bytesL_drop s k (by omega), hc, bytesL_drop s (k + 1) hk, hd, pcs_2] at h
  constructor
  · rintro q (⟨rfl, rfl⟩ | ⟨rfl, rfl⟩ | ⟨rfl, rfl⟩ | ⟨h1, h2, h3, h4, rfl⟩)
    · rw [if_pos rfl, Option.map_map] at h
      rw [h]; congr 1; funext l; simp
    · rw [if_neg (by decide), if_pos rfl, Option.map_map] at h
      rw [h]; congr 1; funext l; simp
    · rw [if_neg (by decide), if_neg (by decide), if_pos rfl, Option.map_map] at h
      rw [h]; congr 1; funext l; simp
    · rw [if_neg h1, if_neg h2, if_neg h3, if_pos h4, Option.map_map] at h
      rw [h]; congr 1; funext l; simp
  · intro h1 h2 h3 h4
    rw [if_neg h1, if_neg h2, if_neg h3, h4] at h
    exact h
theorem news_one (W : World) (c d : Nat) : ∀ j u, (flat [(d, c)])[j]? = some u → (W.alloc (.cells #[.int .u8 d, .int .u8 c] 67)).cell? ((⟨W.heap.size, 0, none⟩ : Addr).add j) = some u := by
  intro j u hj
  have hr := heap_alloc_new W (.cells #[.int .u8 d, .int .u8 c] 67)
  match j, hj with
  | 0, hj => simp [flat] at hj; subst hj; exact (cell_of_row _ _ 0 _ _ _ hr).trans rfl
  | 1, hj => simp [flat] at hj; subst hj; exact (cell_of_row _ _ 1 _ _ _ hr).trans rfl
theorem news_two (W : World) (o : Obj) (c d : Nat) : ∀ j u, (flat [(d, c)])[j]? = some u → ((W.alloc o).alloc (.cells #[.int .u8 d, .int .u8 c] 67)).cell? ((⟨W.heap.size + 1, 0, none⟩ : Addr).add j) = some u := by
  have := news_one (W.alloc o) c d
  rwa [World.size_alloc] at this
theorem PcI.next {s : ByteArray} {m : Nat} {W wr w' : World} {k j : Nat} {v v' : Value} {acc q : List (Nat × Nat)} (h : PcI s m W wr k v acc) (hr : PRow W.heap.size w' v' (acc ++ q)) (hb : Below W.heap.size wr w') (he : pcs (bytesL s) = (pcs ((bytesL s).drop j)).map fun l => (acc ++ q) ++ l) (hl : (acc ++ q).length ≤ 5 * j) : PcI s m W w' j v' (acc ++ q) :=
  ⟨hr, he, h.bel.trans hb, hl⟩
set_option maxRecDepth 100000 in
set_option maxHeartbeats 4000000 in
theorem pieces_gen (s : ByteArray) (hs : s.size ≤ 100000) (m : Nat) (W : World) (hm : MapL W m letL)
    (hD : 68 ∈ bytesL s → ∀ w, MapL w m letL → Calls Tryz.prog 37 #[.string ⟨#[37, 109, 47, 37, 100, 47, 37, 89]⟩, .map (some m)] w fun e w' => ∃ g cap, e = .returned (.tuple #[.slice (some ⟨g, 0, none⟩) 5 cap, .bool true]) ∧ (∀ j u, (flat inD)[j]? = some u → w'.cell? ((⟨g, 0, none⟩ : Addr).add j) = some u) ∧ Below w.heap.size w w')
    (hT : 84 ∈ bytesL s → ∀ w, MapL w m letL → Calls Tryz.prog 37 #[.string ⟨#[37, 72, 58, 37, 77, 58, 37, 83]⟩, .map (some m)] w fun e w' => ∃ g cap, e = .returned (.tuple #[.slice (some ⟨g, 0, none⟩) 5 cap, .bool true]) ∧ (∀ j u, (flat inT)[j]? = some u → w'.cell? ((⟨g, 0, none⟩ : Addr).add j) = some u) ∧ Below w.heap.size w w') :
    Calls Tryz.prog 37 #[.string s, .map (some m)] W (PcP s m W) := by
  have HD := Lib.hid hD
  have HT := Lib.hid hT
  have HM := Lib.hid hm
  clear hD hT hm
  have HI : Hid (PcI s m W W 0 (.slice none 0 0) []) := Lib.hid ⟨World.ownsRow_nil _ _ _ _, by simp, Below.refl _ _, by simp⟩
  go_enter Tryz.func37, Tryz.ntmps37
  go_wp2
  go_loopw [6, 7] (fun v i wr => ∃ (k : Nat) (acc : List (Nat × Nat)), i = .int .i64 k ∧ k ≤ s.size ∧ Hid (PcI s m W wr k v acc)) (fun _ i _ => s.size - (intOf i).toNat)
  case atStart => exact ⟨0, [], rfl, Nat.zero_le _, HI⟩
  case round =>
    obtain ⟨k, acc, rfl, hk, hi⟩ := hrel
    by_cases hlt : k < s.size
    · obtain ⟨c, hc⟩ : ∃ c, (s[k]).toNat = c := ⟨_, rfl⟩
      have HC := Lib.hid hc
      have hBw := hi.out.bel.size
      have hlen := hi.out.len
      by_cases h37 : c = 37
      · subst h37
        by_cases hk1 : k + 1 < s.size
        · obtain ⟨d, hd⟩ : ∃ d, (s[k + 1]).toNat = d := ⟨_, rfl⟩
          have HE := Lib.hid (pcs_two hk1 hc hd hi.out.eq)
          have HMw := Lib.hid (HM.out.after hi.out.bel)
          have hmem : d ∈ bytesL s := by rw [← hd, ← bytesL_get s (k + 1) hk1]; exact List.getElem_mem _
          have HDw := Lib.hid (fun (h : d = 68) => HD.out (h ▸ hmem) wr HMw.out)
          have HTw := Lib.hid (fun (h : d = 84) => HT.out (h ▸ hmem) wr HMw.out)
          by_cases d37 : d = 37
          · subst d37
            have HE1 := Lib.hid (HE.out.1 [(0, 37)] (Or.inl ⟨rfl, rfl⟩))
            clear HE
            go_wp2_with ((refine wpList_appP rfl _ _ rfl W.heap.size _ u6 acc rfl (hi.out.row.below ((Below.refl _ _).alloc (Nat.le_refl _) _)) _ 1 _ [(0, 37)] rfl rfl (news_one wr 37 0) (by omega) (by simp; omega) ?_; intro v' w' hr hb hv; have HR := Lib.hid hr; have HB := Lib.hid hb; clear hr hb hv))
            go_roundw
            case rel => exact ⟨k + 1 + 1, acc ++ [(0, 37)], by go_num, by omega, Lib.hid (hi.out.next HR.out (((Below.refl _ _).alloc (by omega) _).trans HB.out) HE1.out (by simp; omega))⟩
            case measure => simp [intOf]; omega
          · have b37 : ((d : Int) == 37) = false := by rw [beq_eq_false_iff_ne]; omega
            by_cases d68 : d = 68
            · subst d68
              clear b37
              have HE1 := Lib.hid (HE.out.1 inD (Or.inr (Or.inl ⟨rfl, rfl⟩)))
              clear HE
              go_wp2_with (first | (go_at_call 37; (with_reducible refine (HDw.out rfl).mono ?_); rintro e W1 ⟨g, cap, rfl, hr1, hb1⟩; have HR1 := Lib.hid hr1; have HB1 := Lib.hid hb1; clear hr1 hb1) | (at_builtin; refine wpList_appP rfl _ _ rfl W.heap.size _ u6 acc rfl (hi.out.row.below HB1.out) _ 5 _ inD rfl rfl HR1.out (by omega) (by have := HB1.out.size; omega) ?_; intro v' w' hr hb hv; have HR := Lib.hid hr; have HB := Lib.hid hb; clear hr hb hv))
              go_roundw
              case rel => exact ⟨k + 1 + 1, acc ++ inD, by go_num, by omega, Lib.hid (hi.out.next HR.out ((HB1.out.mono (by omega)).trans HB.out) HE1.out (by simp [inD]; omega))⟩
              case measure => simp [intOf]; omega
            · have b68 : ((d : Int) == 68) = false := by rw [beq_eq_false_iff_ne]; omega
              by_cases d84 : d = 84
              · subst d84
                clear b37 b68
                have HE1 := Lib.hid (HE.out.1 inT (Or.inr (Or.inr (Or.inl ⟨rfl, rfl⟩))))
                clear HE
                go_wp2_with (first | (go_at_call 37; (with_reducible refine (HTw.out rfl).mono ?_); rintro e W1 ⟨g, cap, rfl, hr1, hb1⟩; have HR1 := Lib.hid hr1; have HB1 := Lib.hid hb1; clear hr1 hb1) | (at_builtin; refine wpList_appP rfl _ _ rfl W.heap.size _ u6 acc rfl (hi.out.row.below HB1.out) _ 5 _ inT rfl rfl HR1.out (by omega) (by have := HB1.out.size; omega) ?_; intro v' w' hr hb hv; have HR := Lib.hid hr; have HB := Lib.hid hb; clear hr hb hv))
                go_roundw
                case rel => exact ⟨k + 1 + 1, acc ++ inT, by go_num, by omega, Lib.hid (hi.out.next HR.out ((HB1.out.mono (by omega)).trans HB.out) HE1.out (by simp [inT]; omega))⟩
                case measure => simp [intOf]; omega
              · have b84 : ((d : Int) == 84) = false := by rw [beq_eq_false_iff_ne]; omega
                cases hlk : letL.lookup d with
                | none =>
                  have HL := (run_look HMw.out d true).1 hlk
                  have HP : Hid (∀ w', Below wr.heap.size wr w' → PcP s m W (.returned (.tuple #[.slice none 0 0, .bool false])) w') := Lib.hid (by
                    have hn := HE.out.2 d37 d68 d84 hlk
                    exact fun w' hb => ⟨fun l hl => (by rw [hn] at hl; cases hl), fun _ => rfl, hi.out.bel.trans (hb.mono hBw)⟩)
                  clear HE hlk
                  go_wp2
                  go_ret2
                  exact HP.out _ ((Below.refl _ _).alloc (Nat.le_refl _) _)
                | some wr' =>
                  obtain ⟨v, ⟨k1, c1, k2, c2, rfl⟩, _, HL⟩ := (run_look HMw.out d true).2 _ hlk
                  have HE1 := Lib.hid (HE.out.1 [(d, 0)] (Or.inr (Or.inr (Or.inr ⟨d37, d68, d84, by rw [hlk]; rfl, rfl⟩))))
                  clear HE hlk
                  simp only [if_true] at HL
                  go_wp2_with ((refine wpList_appP rfl _ _ rfl W.heap.size _ u6 acc rfl (hi.out.row.below (((Below.refl _ _).alloc (Nat.le_refl _) _).alloc (by simp) _)) _ 1 _ [(d, 0)] rfl rfl (news_two _ _ 0 d) (by omega) (by simp; omega) ?_; intro v' w' hr hb hv; have HR := Lib.hid hr; have HB := Lib.hid hb; clear hr hb hv))
                  go_roundw
                  case rel => exact ⟨k + 1 + 1, acc ++ [(d, 0)], by go_num, by omega, Lib.hid (hi.out.next HR.out ((((Below.refl _ _).alloc (by omega) _).alloc (by simp; omega) _).trans HB.out) HE1.out (by simp; omega))⟩
                  case measure => simp [intOf]; omega
        · have HP : Hid (PcP s m W (.returned (.tuple #[.slice none 0 0, .bool false])) wr) := Lib.hid (by
            have hn := pcs_end hlt hc (by omega) hi.out.eq
            exact ⟨fun l hl => (by rw [hn] at hl; cases hl), fun _ => rfl, hi.out.bel⟩)
          have he : k + 1 = s.size := by omega
          have he2 : ((k : Int) + 1 == (s.size : Int)) = true := by rw [beq_iff_eq]; omega
          clear he
          go_wp2
          go_ret2
          exact HP.out
      · have hcb : ((c : Int) == 37) = false := by rw [beq_eq_false_iff_ne]; omega
        have HE := Lib.hid (pcs_plain hlt hc h37 hi.out.eq)
        go_wp2_with ((refine wpList_appP rfl _ _ rfl W.heap.size _ u6 acc rfl (hi.out.row.below ((Below.refl _ _).alloc (Nat.le_refl _) _)) _ 1 _ [(0, c)] rfl rfl (news_one wr c 0) (by omega) (by simp; omega) ?_; intro v' w' hr hb hv; have HR := Lib.hid hr; have HB := Lib.hid hb; clear hr hb hv))
        go_roundw
        case rel => exact ⟨k + 1, acc ++ [(0, c)], by go_num, by omega, Lib.hid (hi.out.next HR.out (((Below.refl _ _).alloc (by omega) _).trans HB.out) HE.out (by simp; omega))⟩
        case measure => simp [intOf]; omega
    · obtain rfl : k = s.size := by omega
      obtain ⟨g1, g2, g3, g4⟩ := hi.out
      have hE : pcs (bytesL s) = some acc := by
        rw [g2, List.drop_of_length_le (by rw [bytesL_length]; exact Nat.le_refl _)]
        simp [pcs]
      obtain ⟨ao, n, cap, rfl⟩ : ∃ ao n cap, u6 = .slice ao n cap := by
        rcases g1.2 with ⟨h4, _⟩ | ⟨g, cap, cur, h4, _⟩
        · exact ⟨_, _, _, h4⟩
        · exact ⟨_, _, _, h4⟩
      have HP : Hid (PcP s m W (.returned (.tuple #[.slice ao n cap, .bool true])) wr) := Lib.hid ⟨fun l hl => (by
        rw [hE] at hl; cases hl; exact ⟨ao, n, cap, rfl, g1, g4⟩), fun hn => (by rw [hE] at hn; cases hn), g3⟩
      clear g1 g2 g3 g4 hE
      go_wp2
      go_ret2
      exact HP.out
theorem inner_of {q : List (Nat × Nat)} {s : ByteArray} {m : Nat} {w : World} (hq : q ≠ []) (h5 : q.length = 5) (he : pcs (bytesL s) = some q) (h : Calls Tryz.prog 37 #[.string s, .map (some m)] w (PcP s m w)) :
    Calls Tryz.prog 37 #[.string s, .map (some m)] w fun e w' => ∃ g cap, e = .returned (.tuple #[.slice (some ⟨g, 0, none⟩) 5 cap, .bool true]) ∧ (∀ j u, (flat q)[j]? = some u → w'.cell? ((⟨g, 0, none⟩ : Addr).add j) = some u) ∧ Below w.heap.size w w' :=
  h.mono fun e w' hp => by
    obtain ⟨ao, n, cap, h1, h2, _⟩ := hp.1 q he
    obtain ⟨g, hg, hc⟩ := h2.cells hq
    exact ⟨g, cap, by rw [h1, hg, h5], hc, hp.2.2⟩
theorem innerD_any (m : Nat) (w : World) (hm : MapL w m letL) : Calls Tryz.prog 37 #[.string ⟨#[37, 109, 47, 37, 100, 47, 37, 89]⟩, .map (some m)] w fun e w' => ∃ g cap, e = .returned (.tuple #[.slice (some ⟨g, 0, none⟩) 5 cap, .bool true]) ∧ (∀ j u, (flat inD)[j]? = some u → w'.cell? ((⟨g, 0, none⟩ : Addr).add j) = some u) ∧ Below w.heap.size w w' := inner_of (q := inD) (by decide) rfl (by decide) (pieces_gen ⟨#[37, 109, 47, 37, 100, 47, 37, 89]⟩ (by decide) m w hm (fun h => absurd h (by decide)) (fun h => absurd h (by decide)))
theorem innerT_any (m : Nat) (w : World) (hm : MapL w m letL) : Calls Tryz.prog 37 #[.string ⟨#[37, 72, 58, 37, 77, 58, 37, 83]⟩, .map (some m)] w fun e w' => ∃ g cap, e = .returned (.tuple #[.slice (some ⟨g, 0, none⟩) 5 cap, .bool true]) ∧ (∀ j u, (flat inT)[j]? = some u → w'.cell? ((⟨g, 0, none⟩ : Addr).add j) = some u) ∧ Below w.heap.size w w' := inner_of (q := inT) (by decide) rfl (by decide) (pieces_gen ⟨#[37, 72, 58, 37, 77, 58, 37, 83]⟩ (by decide) m w hm (fun h => absurd h (by decide)) (fun h => absurd h (by decide)))
/-- pieces, for all forms. -/
theorem pieces_any (s : ByteArray) (hs : s.size ≤ 100000) (m : Nat) (W : World) (hm : MapL W m letL) : Calls Tryz.prog 37 #[.string s, .map (some m)] W (PcP s m W) :=
  pieces_gen s hs m W hm (fun _ w hw => innerD_any m w hw) (fun _ w hw => innerT_any m w hw)
end Go.Proofs.YtocdabmfcbmpaaaGreatDoor
