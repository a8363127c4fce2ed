import Derived.Test.YtkohpijpipcajaaZ1
import Derived.Test.YtkohpijpipcajaaW4
namespace Go.Proofs.Ytkohpijpipcajaa
open Go.RowKit
set_option linter.unusedVariables false
set_option linter.unusedSimpArgs false

theorem alike_val (f : Bool) (a b : ByteArray) (v : Bool) (w : World) (ha : a.size ≤ 100000) (hab : a.size = b.size) (hv : alk f a b = v) :
    Calls Try.prog 69 #[.string a, .string b, .bool f] w fun e w' => e = .returned (.bool v) ∧ Below w.heap.size w w' := by
  subst hv
  cases f with
  | false => exact (alike_no a b w).mono fun e w' ⟨he, hw⟩ => ⟨by rw [he]; rfl, by rw [← hw]; exact Below.refl _ _⟩
  | true => exact alike_fold a b w ha hab

set_option maxRecDepth 1000000 in
set_option maxHeartbeats 8000000 in
theorem map_any (ps : List ByteArray) (f : Bool) (s : ByteArray) (ao : Option Addr) (cap : Nat) (w : World) (hs : s.size ≤ 400) (hn : ps.length ≤ 20) (hl : anyLong ps = false) (hp : TextsAt ps ao w) :
    Calls Try.prog 43 #[.string s, .slice ao ps.length cap, .bool f] w fun e w' => e = .returned (.tuple #[.string (mapT ps f s), .int .i64 (mapE ps f s)]) ∧ Below w.heap.size w w' := by
  have HP := Lib.hid hp
  have HL := Lib.hid hl
  clear hp hl
  rcases Nat.mod_two_eq_zero_or_one ps.length with h2 | h2
  · have hrem : ((ps.length : Int).tmod 2) = 0 := by rw [show (2 : Int) = ((2 : Nat) : Int) from rfl, ← Int.ofNat_tmod, h2]; rfl
    have hR : Hid (walkM ps f s s.size 0 ⟨#[]⟩ = mapR ps f s) := Lib.hid rfl
    have HN := Lib.hid h2
    clear h2
    go_enter Try.func43, Try.ntmps43
    go_wp2_with fail
    go_step3
    go_wp2_with fail
    refine (keys_any ps f ao cap _ hn HL.out HP.out).mono ?_
    rintro e w1 ⟨cs, V, L, m, hLE, hm1, hm2, rfl, hsz, hone, hV, hown, hlen, bl⟩
    have hm3 : Hid (2 * m = ps.length) := Lib.hid (by have := HN.out; omega)
    have hi : (Try.prog.info? 71).map (·.size) = some cs.size := by rw [hsz]; exact info71
    have hsz0 : Try.zeroCells71.size = cs.size := by rw [zc71, hsz]; simp
    have HSL : Hid (∀ c, c < 256 → ∃ bo cap, V c = .slice bo (L c).length cap ∧ ∀ q (hq : q < (L c).length), ∃ k, bo = some ⟨k, 0, none⟩ ∧ w1.cell? ⟨k, q, none⟩ = some (.int .i64 ((L c)[q] : Nat))) := Lib.hid fun c hc => slice_of_owned (hown c hc)
    have HV := Lib.hid hV
    have HONE := Lib.hid hone
    have HI := Lib.hid hi
    have HSZ0 := Lib.hid hsz0
    have BL := Lib.hid bl
    have HLEN := Lib.hid hlen
    clear hone hi hsz0 hown hV bl hm1 hm2 hlen hsz
    go_wp2_with (refine wpList_store_row rfl 71 _ _ rfl (w1.heap.size) _ rfl rfl 71 Try.zeroCells71 (heap_alloc_new w1 _) HI.out HSZ0.out HONE.out ?_)
    have bA : Below w1.heap.size w1 ((w1.alloc (Obj.cells Try.zeroCells71 71)).setRow w1.heap.size cs) := below_setRow ((Below.refl _ _).alloc (Nat.le_refl _) _) (Nat.le_refl _) cs
    have rA : ((w1.alloc (Obj.cells Try.zeroCells71 71)).setRow w1.heap.size cs).heap[w1.heap.size]? = some (.cells cs 71 (0, 0)) := setRow_heap _ _ _ _ _ _ (heap_alloc_new w1 _)
    have sA : ((w1.alloc (Obj.cells Try.zeroCells71 71)).setRow w1.heap.size cs).heap.size = w1.heap.size + 1 := by simp
    generalize (w1.alloc (Obj.cells Try.zeroCells71 71)).setRow w1.heap.size cs = A at *
    have blA : Below w.heap.size w A := BL.out.trans (bA.mono BL.out.size)
    have TA : Hid (TextsAt ps ao A) := Lib.hid (HP.out.below blA)
    have SA : Hid (∀ c, c < 256 → SliceAt (L c) ⟨w1.heap.size, c, none⟩ A) := Lib.hid fun c hc => by
      obtain ⟨bo, cap', hv, hq⟩ := HSL.out c hc
      refine ⟨bo, cap', ?_, fun q hq' => ?_⟩
      · rw [cell_of_row _ _ _ _ _ _ rA, HV.out c hc, hv]
      · obtain ⟨k, e, hcell⟩ := hq q hq'
        exact ⟨k, e, cell_later bA hcell⟩
    have isb : Lib.IsBuilder 62 5 A.heap.size A.heap.size (Lib.byteCells (⟨#[]⟩ : ByteArray).data.toList) (A.alloc (Obj.cells #[Value.pointer none, Value.slice none 0 0] 62)) := Lib.fresh_isBuilder 62 5 A
    have bV : Below A.heap.size A (A.alloc (Obj.cells #[Value.pointer none, Value.slice none 0 0] 62)) := (Below.refl _ _).alloc (Nat.le_refl _) _
    obtain ⟨a, ha⟩ : ∃ a, a = A.heap.size := ⟨_, rfl⟩
    obtain ⟨g, hg⟩ : ∃ g, g = w1.heap.size := ⟨_, rfl⟩
    have ep : w1.heap.size + 1 = a := by omega
    rw [ep]
    rw [← ha] at isb
    rw [← hg] at SA ⊢
    generalize A.alloc (Obj.cells #[Value.pointer none, Value.slice none 0 0] 62) = W at *
    have ISB := Lib.hid isb
    have BV := Lib.hid bV
    have BLA := Lib.hid blA
    have HA := Lib.hid ha
    have HLE : Hid (L = rowsL ps f m) := hLE
    clear rA HV HONE HI HSZ0 HSL bA isb bV blA ha ep sA hg hLE BL
    go_step3
    go_wp2_with fail
    go_loopw [10] (fun i wr => ∃ (O : ByteArray) (k n : Nat), i = .int .i64 k ∧ k ≤ s.size ∧ O.size ≤ 66000 ∧ Hid (s.size - k ≤ n ∧ walkM ps f s n k O = mapR ps f s) ∧ Hid (Lib.IsBuilder 62 5 a a (Lib.byteCells O.data.toList) wr) ∧ Hid (Below A.heap.size A wr)) (fun i _ => s.size - (intOf i).toNat)
    case atStart => exact ⟨⟨#[]⟩, 0, s.size, rfl, Nat.zero_le _, by decide, Lib.hid ⟨Nat.le_refl _, hR.out⟩, ISB, BV⟩
    case round =>
      obtain ⟨O, k, n, rfl, hk, hO, hw, hib, hbr⟩ := hrel
      have hszw := hbr.out.size
      have HAW : Hid (a ≤ wr.heap.size) := Lib.hid (by rw [HA.out]; exact hszw)
      clear hszw
      by_cases hlt : k < s.size
      · by_cases hO2 : O.size ≤ 65536
        · have HS := Lib.hid (step_in (f := f) hlt HL.out hs)
          obtain ⟨X, l', hx, hX, hl, hXe, hRN, hRF, hRP⟩ := row_facts ps f s m hlt
          obtain ⟨bo, cap', hc0, hq0⟩ := SA.out X hX
          have hc1 := cell_later hbr.out hc0
          have HWB := Lib.hid (wb_big a a O s k hlt)
          rw [hXe] at HWB
          rw [HLE.out] at hc1 hq0
          have hlen : (rowsL ps f m X).length ≤ 20 := by have := HLEN.out X; rw [HLE.out] at this; exact this
          generalize rowsL ps f m X = l at hc1 hq0 hlen hl
          subst hl
          have HRN := Lib.hid hRN
          have HRF := Lib.hid hRF
          have HRP := Lib.hid hRP
          clear hRN hRF hRP hXe
          have HQ0 := Lib.hid hq0
          have hOd : decide ((O.size : Int) ≤ 65536) = true := by simp; omega
          clear hc0 hq0
          go_wp2_with (go_at_call 68; refine (len_big a a O _ hib.out).mono ?_; rintro e w' ⟨rfl, rfl⟩)
          go_loopw [10, 35] (fun at0 i wr2 => ∃ p : Nat, at0 = .int .i64 k ∧ i = .int .i64 p ∧ p ≤ l.length ∧ Hid (∀ (q : Nat) (hq : q < l.length), q < p → ∀ j, l[q] = 2 * j → keyAt f s (keyM ps j) k = false) ∧ Hid (Lib.IsBuilder 62 5 a a (Lib.byteCells O.data.toList) wr2) ∧ Hid (Below A.heap.size A wr2)) (fun _ i _ => l.length - (intOf i).toNat)
          case atStart => exact ⟨0, rfl, rfl, Nat.zero_le _, Lib.hid fun q _ hq => absurd hq (Nat.not_lt_zero q), hib, hbr⟩
          case round =>
            obtain ⟨p, rfl, rfl, hp, hno, hib2, HB2⟩ := hrel
            have HAW2 : Hid (a ≤ wr.heap.size) := Lib.hid (by rw [HA.out]; exact HB2.out.size)
            by_cases hpl : p < l.length
            · obtain ⟨kk, rfl, hcq⟩ := HQ0.out p hpl
              obtain ⟨j, hj, hjm, hkp⟩ := HRP.out p hpl
              have hcq1 : wr.cell? ⟨kk, p, none⟩ = some (.int .i64 ((2 * j : Nat) : Int)) := by rw [cell_later HB2.out hcq, hj]
              have hJ1 : 2 * j + 1 < ps.length := by have := hm3.out; omega
              have hJ0 : 2 * j < ps.length := by omega
              obtain ⟨aa, rfl, hck⟩ := TA.out.below HB2.out (2 * j) hJ0
              obtain ⟨aa', ea, hcv⟩ := TA.out.below HB2.out (2 * j + 1) hJ1
              cases ea
              have hkz : (keyM ps j).size ≤ 400 := anyLong_no HL.out _ hJ0
              have hvz : (valM ps j).size ≤ 400 := anyLong_no HL.out _ hJ1
              have hck' : wr.cell? (aa.add (2 * j)) = some (.string (keyM ps j)) := hck
              have hcv' : wr.cell? (aa.add (2 * j + 1)) = some (.string (valM ps j)) := hcv
              have HNO : Hid (∀ m', m' < j → keyAt f s (keyM ps m') k = false) := Lib.hid (HRF.out p hpl j hj hno.out)
              have HJ := Lib.hid hj
              have HST : Hid (keyAt f s (keyM ps j) k = true → stepAt ps f s k = (keyM ps j).size ∧ pieceAt ps f s k = valM ps j) := Lib.hid fun h => step_of hJ0 HN.out h HNO.out
              obtain ⟨J, hJe⟩ : ∃ J, J = 2 * j := ⟨_, rfl⟩
              rw [← hJe] at hcq1 hck' hcv' hJ1 hJ0
              have HJe := Lib.hid hJe
              generalize hke : keyM ps j = key at hkz hck' HST hkp
              generalize hve : valM ps j = val at hvz hcv' HST
              have HK := Lib.hid hke
              have HV2 := Lib.hid hve
              have HC := Lib.hid hcv'
              have HNX : Hid (keyAt f s key k = false → ∀ (q : Nat) (hq : q < l.length), q < p + 1 → ∀ j', l[q] = 2 * j' → keyAt f s (keyM ps j') k = false) := Lib.hid fun h q hq hq1 j' e => by
                by_cases eq : q = p
                · subst eq
                  have : j' = j := by have := HJ.out; omega
                  rw [this, HK.out]; exact h
                · exact hno.out q hq (by omega) j' e
              clear hcq hj hck hcv hcv' hke hve hJe hjm
              have r0 : (J : Int) < (ps.length : Int) := by omega
              have z2 : (J : Int) + 1 < (ps.length : Int) := by omega
              have z3 : ((J : Int) + 1).toNat = J + 1 := by omega
              have hcv : wr.cell? ⟨aa.block, aa.off + (J + 1), none⟩ = some (.string val) := HC.out
              by_cases hf : k + key.size ≤ s.size
              · have r1 : (k : Int) + key.size ≤ s.size := by omega
                have r2 : (k : Int) ≤ (k : Int) + key.size := by omega
                have r3 : ((k : Int) + key.size).toNat = k + key.size := by omega
                have r4 : (key.size : Int) ≤ (s.size : Int) - k := by omega
                have hz1 : (s.extract k (k + key.size)).size = key.size := by rw [ByteArray.size_extract]; omega
                cases hak : alk f (s.extract k (k + key.size)) key with
                | true =>
                  have HAK := Lib.hid hak
                  have HY := Lib.hid (HST.out (by unfold keyAt; rw [decide_eq_true (by omega), hak]; rfl))
                  obtain ⟨n', hn1, hn2⟩ := map_next hlt hO2 HS.out.1 hw.out HY.out.1 HY.out.2
                  have HW := Lib.hid (And.intro hn1 hn2)
                  have hOs : (O ++ val).size ≤ 66000 := by rw [ByteArray.size_append]; omega
                  have hk0 : 1 ≤ key.size := by have := HS.out.1; have := HY.out.1; omega
                  clear hak hn1 hn2
                  go_wp2_with (go_at_call 69; refine (alike_val f _ _ true _ (by omega) hz1 HAK.out).mono ?_; rintro e w3 ⟨rfl, hb3⟩; replace HC := Lib.hid (cell_later hb3 HC.out); have hcv : w3.cell? ⟨aa.block, aa.off + (J + 1), none⟩ = some (.string val) := HC.out; replace hib2 := Lib.hid (builder_later hib2.out hb3); replace HB2 := Lib.hid (HB2.out.trans (hb3.mono HB2.out.size)); clear hb3)
                  refine (ws_big a a O val _ hib2.out (by omega) (by omega) (by rw [HA.out]; exact HB2.out.size)).mono ?_
                  rintro e w4 ⟨rfl, I4, J4⟩
                  have HB4 : Hid (Below A.heap.size A w4) := Lib.hid (HB2.out.trans (by rw [← HA.out]; exact J4.out))
                  go_wp2
                  go_roundw
                  case rel => exact ⟨_, k + key.size, n', by go_num, hf, hOs, HW, I4, HB4⟩
                  case measure => simp [intOf]; omega
                | false =>
                  have HAK := Lib.hid hak
                  have HKF := Lib.hid (HNX.out (by unfold keyAt; rw [hak, Bool.and_false]))
                  clear hak
                  go_wp2_with (go_at_call 69; refine (alike_val f _ _ false _ (by omega) hz1 HAK.out).mono ?_; rintro e w3 ⟨rfl, hb3⟩; replace HC := Lib.hid (cell_later hb3 HC.out); have hcv : w3.cell? ⟨aa.block, aa.off + (J + 1), none⟩ = some (.string val) := HC.out; replace hib2 := Lib.hid (builder_later hib2.out hb3); replace HB2 := Lib.hid (HB2.out.trans (hb3.mono HB2.out.size)); clear hb3)
                  go_roundw
                  case rel => exact ⟨p + 1, rfl, by go_num, by omega, HKF, hib2, HB2⟩
                  case measure => simp [intOf]; omega
              · have r4 : (s.size : Int) - k < (key.size : Int) := by omega
                have HKF := Lib.hid (HNX.out (by unfold keyAt; rw [decide_eq_false (by omega)]; rfl))
                go_wp2
                go_roundw
                case rel => exact ⟨p + 1, rfl, by go_num, by omega, HKF, hib2, HB2⟩
                case measure => simp [intOf]; omega
            · have HNN := Lib.hid (HRN.out fun q hq j e => hno.out q hq (by omega) j e)
              have HY := Lib.hid (step_none (f := f) (s := s) (i := k) (m := m) (by have := hm3.out; omega) HNN.out)
              obtain ⟨n', hn1, hn2⟩ := map_next hlt hO2 HS.out.1 hw.out HY.out.1 HY.out.2
              have HW := Lib.hid (And.intro hn1 hn2)
              have hOs : (O ++ s.extract k (k + 1)).size ≤ 66000 := by rw [ByteArray.size_append, ByteArray.size_extract]; omega
              clear hn1 hn2
              go_wp2_with fail
              refine (HWB.out _ hib2.out (by omega) HAW2.out).mono ?_
              rintro e w4 ⟨rfl, I4, J4⟩
              have HB4 : Hid (Below A.heap.size A w4) := Lib.hid (HB2.out.trans (by rw [← HA.out]; exact J4.out))
              go_wp2
              go_roundw
              case rel => exact ⟨_, k + 1, n', by go_num, by omega, hOs, HW, I4, HB4⟩
              case measure => simp [intOf]; omega
        · have HE := Lib.hid (map_over hw.out.2 HN.out (by omega))
          have hO3 : 65536 < O.size := by omega
          go_wp2_with (go_at_call 68; refine (len_big a a O _ hib.out).mono ?_; rintro e w' ⟨rfl, rfl⟩)
          rw [Exit.noGoto_ret]
          go_ret2
          exact ⟨by rw [HE.out.1, HE.out.2]; rfl, BLA.out.trans (hbr.out.mono BLA.out.size)⟩
      · by_cases hO2 : O.size ≤ 65536
        · have HE := Lib.hid (map_done hw.out.2 HN.out (by omega) hO2)
          go_wp2_with (go_at_call 68; refine (len_big a a O _ hib.out).mono ?_; rintro e w' ⟨rfl, rfl⟩)
          refine (str_big a a O _ hib.out HAW.out).mono ?_
          rintro e w5 ⟨rfl, J5⟩
          have HB5 : Hid (Below A.heap.size A w5) := Lib.hid (hbr.out.trans (by rw [← HA.out]; exact J5.out))
          go_wp2_with fail
          rw [Exit.noGoto_ret]
          go_ret2
          exact ⟨by rw [HE.out.1, HE.out.2]; rfl, BLA.out.trans (HB5.out.mono BLA.out.size)⟩
        · have HE := Lib.hid (map_over hw.out.2 HN.out (by omega))
          have hO3 : 65536 < O.size := by omega
          go_wp2_with (go_at_call 68; refine (len_big a a O _ hib.out).mono ?_; rintro e w' ⟨rfl, rfl⟩)
          rw [Exit.noGoto_ret]
          go_ret2
          exact ⟨by rw [HE.out.1, HE.out.2]; rfl, BLA.out.trans (hbr.out.mono BLA.out.size)⟩
  · have hrem : ((ps.length : Int).tmod 2) = 1 := by rw [show (2 : Int) = ((2 : Nat) : Int) from rfl, ← Int.ofNat_tmod, h2]; rfl
    have e1 : Hid (mapT ps f s = ⟨#[]⟩) := Lib.hid (by unfold mapT; rw [if_neg (by omega)])
    have e2 : Hid (mapE ps f s = 1) := Lib.hid (by unfold mapE; rw [if_neg (by omega)])
    clear h2
    go_enter Try.func43, Try.ntmps43
    go_wp2
    go_step3
    go_wp2
    rw [Exit.noGoto_ret]
    go_ret2
    exact ⟨by rw [e1.out, e2.out]; rfl, Below.refl _ _⟩
end Go.Proofs.Ytkohpijpipcajaa
