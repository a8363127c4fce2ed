import Derived.Test.YtkohpijpipcajaaGM1
import Derived.Deep.RegionHeld3
namespace Go.Proofs.Ytkohpijpipcajaa
open Go.RowKit Go.Shelf
set_option linter.unusedVariables false
set_option linter.unusedSimpArgs false
attribute [local go_sem] Oper.semAt_some

theorem members_call (s : ByteArray) (w : World) : Calls Try.prog 90 #[.string s] w fun e w' => e = .returned (.func (.func 104) #[] #[.pointer (some ⟨w.heap.size, 0, none⟩)]) ∧ w' = w.alloc (.cells #[.string s] 9) := members_any s w

/-- a round's end: one part more. -/
theorem pinv_next {p : ByteArray} {f : Bool} {w wr W1 : World} {k n n' st : Nat} {R : List RP} {Dn' : List Nat} {r : RP} {v : Value} {cs : Array Value} (hR : R.length ≤ k) (hst : 1 ≤ st) (hk : k + st ≤ p.size)
    (hp : R ++ prs p n k = prsL p) (hs : prs p n k = r :: prs p n' (k + st)) (hn : p.size - (k + st) ≤ n') (hno : R.any isNone = false) (hr : isNone r = false) (hcs : cs = cellsR f r) {i : Value} (hi : i = .int .i64 ((k + st : Nat) : Int))
    (hown : W1.ownsRow (w.heap.size + 1) 79 257 v (R.length + 1) (cellsL f R ++ cs.toList)) (hb : Below w.heap.size w W1) (hc : W1.cell? ⟨w.heap.size, 0, none⟩ = some (.bool f)) (hsz : w.heap.size + 1 ≤ W1.heap.size)
    (hm : Marks (w.heap.size + 1) Dn' W1) : PInv p f w v i (Dn'.map mkD) W1 := by
  refine ⟨k + st, n', R ++ [r], Dn', hi, hk, by simp; omega, rfl, Lib.hid hn, Lib.hid (by rw [← hp, hs]; simp), Lib.hid (by simp [hno, hr]), Lib.hid ?_, Lib.hid hb, Lib.hid hc, Lib.hid hsz, Lib.hid hm⟩
  rw [List.length_append, cellsL_snoc, ← hcs]
  exact hown

set_option maxRecDepth 1000000 in
set_option maxHeartbeats 16000000 in
theorem parts_any (p : ByteArray) (f : Bool) (w : World) (hp : p.size ≤ 200) :
    Calls Try.prog 71 #[.string p, .bool f] w (PartsPost w f p) := by
  refine (callsIn_wide (n := 3)).1 ?_
  refine callsIn_of_wp_marks Try.func71 rfl trivial ?_ rfl
  simp only [Try.ntmps71, List.size_toArray, List.length_cons, List.length_nil, Nat.reduceAdd, Nat.reduceSub, Array.replicate_succ, Array.replicate_zero, List.push_toArray, List.append_toArray, List.nil_append, List.cons_append]
  refine wpIn_wide.2 ?_
  go_wp2
  have e0 : (w.alloc (Obj.cells #[Value.bool f] 4)).cell? ⟨w.heap.size, 0, none⟩ = some (.bool f) := by simp
  have b0 : Below w.heap.size w (w.alloc (Obj.cells #[Value.bool f] 4)) := (Below.refl _ _).alloc (Nat.le_refl _) _
  have s0 : w.heap.size + 1 ≤ (w.alloc (Obj.cells #[Value.bool f] 4)).heap.size := by simp
  generalize w.alloc (Obj.cells #[Value.bool f] 4) = W0 at e0 b0 s0 ⊢
  refine wp_loop (fun a' w' => ∃ (u6 u7 u8 u9 u10 u11 u12 u13 u14 u15 u16 u17 u18 u19 u20 u21 u22 u23 u24 u25 u26 u27 u28 u29 u30 u31 u32 u33 u34 u35 u36 u37 u38 u39 u40 u41 u42 u43 u44 u45 u46 u47 u48 u49 u50 u51 u52 u53 u54 u55 u56 u57 u58 u59 u60 u61 u62 u63 u64 u65 u66 u67 u68 u69 u70 u71 u72 u73 u74 u75 u76 u77 u78 u79 u80 u81 u82 u83 u84 u85 u86 : Value) (uD : List Deferred), PInv p f w u6 u7 uD w' ∧ a' = ⟨#[.string p, .bool f, undef, .pointer (some ⟨w.heap.size, 0, none⟩), .slice none 0 0, .bool false, u6, u7, u8, u9, u10, u11, u12, u13, u14, u15, u16, u17, u18, u19, u20, u21, u22, u23, u24, u25, u26, u27, u28, u29, u30, u31, u32, u33, u34, u35, u36, u37, u38, u39, u40, u41, u42, u43, u44, u45, u46, u47, u48, u49, u50, u51, u52, u53, u54, u55, u56, u57, u58, u59, u60, u61, u62, u63, u64, u65, u66, u67, u68, u69, u70, u71, u72, u73, u74, u75, u76, u77, u78, u79, u80, u81, u82, u83, u84, u85, u86], uD⟩) (fun a' w' => p.size - (intOf (a'.tmps.getD 7 undef)).toNat) ?_ ?_
  · (repeat apply Exists.intro)
    refine ⟨⟨0, p.size, [], [], rfl, Nat.zero_le _, Nat.le_refl _, rfl, Lib.hid (Nat.le_refl _), Lib.hid rfl, Lib.hid rfl, Lib.hid (World.ownsRow_nil _ _ _ _), Lib.hid b0, Lib.hid e0, Lib.hid s0, Lib.hid ⟨List.nodup_nil, fun D h => by cases h⟩⟩, rfl⟩
  · intro a' wo hinv
    obtain ⟨u6, hinv⟩ := hinv
    obtain ⟨u7, hinv⟩ := hinv
    obtain ⟨u8, hinv⟩ := hinv
    obtain ⟨u9, hinv⟩ := hinv
    obtain ⟨u10, hinv⟩ := hinv
    obtain ⟨u11, hinv⟩ := hinv
    obtain ⟨u12, hinv⟩ := hinv
    obtain ⟨u13, hinv⟩ := hinv
    obtain ⟨u14, hinv⟩ := hinv
    obtain ⟨u15, hinv⟩ := hinv
    obtain ⟨u16, hinv⟩ := hinv
    obtain ⟨u17, hinv⟩ := hinv
    obtain ⟨u18, hinv⟩ := hinv
    obtain ⟨u19, hinv⟩ := hinv
    obtain ⟨u20, hinv⟩ := hinv
    obtain ⟨u21, hinv⟩ := hinv
    obtain ⟨u22, hinv⟩ := hinv
    obtain ⟨u23, hinv⟩ := hinv
    obtain ⟨u24, hinv⟩ := hinv
    obtain ⟨u25, hinv⟩ := hinv
    obtain ⟨u26, hinv⟩ := hinv
    obtain ⟨u27, hinv⟩ := hinv
    obtain ⟨u28, hinv⟩ := hinv
    obtain ⟨u29, hinv⟩ := hinv
    obtain ⟨u30, hinv⟩ := hinv
    obtain ⟨u31, hinv⟩ := hinv
    obtain ⟨u32, hinv⟩ := hinv
    obtain ⟨u33, hinv⟩ := hinv
    obtain ⟨u34, hinv⟩ := hinv
    obtain ⟨u35, hinv⟩ := hinv
    obtain ⟨u36, hinv⟩ := hinv
    obtain ⟨u37, hinv⟩ := hinv
    obtain ⟨u38, hinv⟩ := hinv
    obtain ⟨u39, hinv⟩ := hinv
    obtain ⟨u40, hinv⟩ := hinv
    obtain ⟨u41, hinv⟩ := hinv
    obtain ⟨u42, hinv⟩ := hinv
    obtain ⟨u43, hinv⟩ := hinv
    obtain ⟨u44, hinv⟩ := hinv
    obtain ⟨u45, hinv⟩ := hinv
    obtain ⟨u46, hinv⟩ := hinv
    obtain ⟨u47, hinv⟩ := hinv
    obtain ⟨u48, hinv⟩ := hinv
    obtain ⟨u49, hinv⟩ := hinv
    obtain ⟨u50, hinv⟩ := hinv
    obtain ⟨u51, hinv⟩ := hinv
    obtain ⟨u52, hinv⟩ := hinv
    obtain ⟨u53, hinv⟩ := hinv
    obtain ⟨u54, hinv⟩ := hinv
    obtain ⟨u55, hinv⟩ := hinv
    obtain ⟨u56, hinv⟩ := hinv
    obtain ⟨u57, hinv⟩ := hinv
    obtain ⟨u58, hinv⟩ := hinv
    obtain ⟨u59, hinv⟩ := hinv
    obtain ⟨u60, hinv⟩ := hinv
    obtain ⟨u61, hinv⟩ := hinv
    obtain ⟨u62, hinv⟩ := hinv
    obtain ⟨u63, hinv⟩ := hinv
    obtain ⟨u64, hinv⟩ := hinv
    obtain ⟨u65, hinv⟩ := hinv
    obtain ⟨u66, hinv⟩ := hinv
    obtain ⟨u67, hinv⟩ := hinv
    obtain ⟨u68, hinv⟩ := hinv
    obtain ⟨u69, hinv⟩ := hinv
    obtain ⟨u70, hinv⟩ := hinv
    obtain ⟨u71, hinv⟩ := hinv
    obtain ⟨u72, hinv⟩ := hinv
    obtain ⟨u73, hinv⟩ := hinv
    obtain ⟨u74, hinv⟩ := hinv
    obtain ⟨u75, hinv⟩ := hinv
    obtain ⟨u76, hinv⟩ := hinv
    obtain ⟨u77, hinv⟩ := hinv
    obtain ⟨u78, hinv⟩ := hinv
    obtain ⟨u79, hinv⟩ := hinv
    obtain ⟨u80, hinv⟩ := hinv
    obtain ⟨u81, hinv⟩ := hinv
    obtain ⟨u82, hinv⟩ := hinv
    obtain ⟨u83, hinv⟩ := hinv
    obtain ⟨u84, hinv⟩ := hinv
    obtain ⟨u85, hinv⟩ := hinv
    obtain ⟨u86, hinv⟩ := hinv
    obtain ⟨uD, hrel, rfl⟩ := hinv
    obtain ⟨k, n, R, Dn, rfl, hk, hR, rfl, HN, HP, HNO, HO, HB, HC, HS, HM⟩ := hrel
    dsimp only
    by_cases hlt : k < p.size
    · obtain ⟨n', rfl, hn'⟩ := prs_succ HN.out hlt
      have hx := byte_at p hlt
      have hX := byteN_lt p k
      have HK : Hid (k + 1 ≤ p.size) := Lib.hid hlt
      have HN2 := Lib.hid hn'
      have hRl : R.length ≤ 199 := by omega
      have hfb : w.heap.size < wo.heap.size := HS.out
      clear hn'
      by_cases h42 : byteN p k = 42
      · have hx' : ((p[k]'hlt).toNat : Int) = 42 := by rw [hx, h42]; rfl
        have HPS := Lib.hid (prs_many (n := n') hlt h42)
        clear hx hX h42
        go_upto_region 28 with (fail)
        obtain ⟨V, hV, p0, p1, p2, _⟩ := new_part wo (Try.zeroCells79.setIfInBounds 0 (.bool true)) (Value.func (Fn.func 89) #[] #[Value.pointer (some { block := wo.heap.size, off := 0 }), Value.pointer (some { block := w.heap.size, off := 0 })])
        rw [← hV]
        rw [zero_cellsP, cellsP_many] at p0
        have HMV := Lib.hid (HM.out.below p2)
        obtain ⟨cs, hcs⟩ : ∃ cs, cs = cellsP true (fun _ => false) := ⟨_, rfl⟩
        rw [← hcs] at p0
        have HCS : Hid (cs = cellsR f .many) := Lib.hid hcs
        clear hV p1 hcs hx'
        have Q0 := Lib.hid p0
        have Z0 := Lib.hid (show cs.size = 257 ∧ cs.all (·.oneCell') = true by rw [HCS.out]; exact ⟨cellsP_size _ _, cellsP_one _ _⟩)
        have HI := Lib.hid (show (Try.prog.info? 79).map (·.size) = some cs.size by rw [Z0.out.1]; exact info79)
        have HOV : Hid (V.ownsRow (w.heap.size + 1) 79 257 u6 R.length (cellsL f R)) := Lib.hid (owns_below HO.out p2)
        have hzV : w.heap.size + 1 ≤ V.heap.size := by have := p2.size; have := HS.out; omega
        have HPV := Lib.hid p2
        clear p0 p2
        go_wp2_with (first | (refine wpList_load_row rfl 79 _ rfl (wo.heap.size) rfl 79 _ (0,0) _ Q0.out Try.underlying79 rfl HI.out ?_) | (refine wpList_buildP rfl _ rfl cs rfl Z0.out.1 ?_) | (at_builtin; refine wpList_appP rfl _ _ rfl (w.heap.size + 1) V cs Z0.out.1 Z0.out.2 u6 R.length (cellsL f R) rfl rfl HOV.out hzV (by omega) ?_; intro g0 c0 W1 hb1 ho1 hs1 hd1; have HB1 := Lib.hid hb1; have HO1 := Lib.hid ho1; have HD1 := Lib.hid hd1; have HS1 := Lib.hid hs1; clear hb1 ho1 hd1 hs1))
        refine ⟨?_, ?measure⟩
        (repeat apply Exists.intro)
        refine ⟨?rel, rfl⟩
        case rel => exact pinv_next (wr := wo) hR (by decide) HK.out HP.out HPS.out HN2.out HNO.out rfl HCS.out (by go_num) HO1.out (HB.out.trans ((HPV.out.mono HB.out.size).trans (HB1.out.mono (Nat.le_succ _)))) ((HB1.out.cell (p := ⟨w.heap.size, 0, none⟩) (Nat.lt_succ_self _)).trans ((HPV.out.cell (p := ⟨w.heap.size, 0, none⟩) HS.out).trans HC.out)) (Nat.le_trans hzV HS1.out) (HMV.out.keep fun D h => HD1.out D _ h rfl)
        case measure => simp [intOf]; omega
      · by_cases h63 : byteN p k = 63
        · have hx' : ((p[k]'hlt).toNat : Int) = 63 := by rw [hx, h63]; rfl
          have HPS := Lib.hid (prs_any (n := n') hlt h63)
          clear hx hX h42 h63
          go_wp2_with fail
          obtain ⟨V0, hV, p0, p1, p2, _⟩ := new_part wo Try.zeroCells79 (Value.func (Fn.func 89) #[] #[Value.pointer (some { block := wo.heap.size, off := 0 }), Value.pointer (some { block := w.heap.size, off := 0 })])
          rw [← hV]
          have hL0 : V0.heap[wo.heap.size]? = some (.cells (cellsP false (fun x => decide (x < 0))) 79 (0, 0)) := by
            rw [p0, zero_cellsP]
            exact congrArg (fun c => some (Obj.cells c 79 (0, 0))) (cellsP_congr fun c _ => by simp)
          have HL0 := Lib.hid hL0
          have HP2 := Lib.hid p2
          clear hV p0 p1 p2 hL0 hx'
          go_loopw [34] (fun t wr => ∃ j : Nat, j ≤ 256 ∧ t = .int .i64 j ∧ Hid (wr.heap[wo.heap.size]? = some (.cells (cellsP false (fun x => decide (x < j))) 79 (0, 0))) ∧ Hid (Below wo.heap.size wo wr)) (fun t _ => 256 - (intOf t).toNat)
          case atStart => exact ⟨0, by omega, rfl, HL0, HP2⟩
          case round =>
            obtain ⟨j, hj, rfl, HL, HBL⟩ := hrel
            by_cases hj2 : j < 256
            · have hcv := (cell_of_row _ _ (1 + j) _ _ _ HL.out).trans (cellsP_at false _ hj2)
              obtain ⟨v0, hv0⟩ : ∃ v0, v0 = Value.bool (decide (j < j)) := ⟨_, rfl⟩
              rw [← hv0] at hcv
              have hcf := frozen_of_row _ _ (1 + j) _ _ HL.out
              have HL2 : Hid ((wr.setCell ⟨wo.heap.size, 1 + j, none⟩ (.bool true)).heap[wo.heap.size]? = some (.cells (cellsP false (fun x => decide (x < j + 1))) 79 (0, 0))) := Lib.hid (by
                rw [setCell_eq_setRow wr _ _ _ 79 (0, 0) _ HL.out, setRow_heap wr _ _ _ 79 (0, 0) HL.out, cellsP_set false _ hj2]
                exact congrArg (fun c => some (Obj.cells c 79 (0, 0))) (cellsP_congr fun c _ => by
                  rw [Bool.eq_iff_iff]; simp; omega))
              have HBL2 : Hid (Below wo.heap.size wo (wr.setCell ⟨wo.heap.size, 1 + j, none⟩ (.bool true))) := Lib.hid (HBL.out.setCell (Nat.le_refl _) _)
              clear hv0
              go_wp2
              go_roundw
              case rel => exact ⟨j + 1, by omega, by go_num, HL2, HBL2⟩
              case measure => simp [intOf]; omega
            · obtain rfl : j = 256 := by omega
              obtain ⟨V, hVe⟩ : ∃ V, V = wr := ⟨_, rfl⟩
              rw [← hVe] at HL HBL ⊢
              have p0 := HL.out
              have p2 := HBL.out
              have HMV := Lib.hid (HM.out.below p2)
              obtain ⟨cs, hcs⟩ : ∃ cs, cs = cellsP false (fun x => decide (x < 256)) := ⟨_, rfl⟩
              rw [← hcs] at p0
              have HCS : Hid (cs = cellsR f .any) := Lib.hid (hcs.trans (cellsP_congr fun c hc => by simp [setOf, hc]))
              clear hVe hcs HL HBL hj hj2
              go_upto_region 28 with (fail)
              have Q0 := Lib.hid p0
              have Z0 := Lib.hid (show cs.size = 257 ∧ cs.all (·.oneCell') = true by rw [HCS.out]; exact ⟨cellsP_size _ _, cellsP_one _ _⟩)
              have HI := Lib.hid (show (Try.prog.info? 79).map (·.size) = some cs.size by rw [Z0.out.1]; exact info79)
              have HOV : Hid (V.ownsRow (w.heap.size + 1) 79 257 u6 R.length (cellsL f R)) := Lib.hid (owns_below HO.out p2)
              have hzV : w.heap.size + 1 ≤ V.heap.size := by have := p2.size; have := HS.out; omega
              have HPV := Lib.hid p2
              clear p0 p2
              go_wp2_with (first | (refine wpList_load_row rfl 79 _ rfl (wo.heap.size) rfl 79 _ (0,0) _ Q0.out Try.underlying79 rfl HI.out ?_) | (refine wpList_buildP rfl _ rfl cs rfl Z0.out.1 ?_) | (at_builtin; refine wpList_appP rfl _ _ rfl (w.heap.size + 1) V cs Z0.out.1 Z0.out.2 u6 R.length (cellsL f R) rfl rfl HOV.out hzV (by omega) ?_; intro g0 c0 W1 hb1 ho1 hs1 hd1; have HB1 := Lib.hid hb1; have HO1 := Lib.hid ho1; have HD1 := Lib.hid hd1; have HS1 := Lib.hid hs1; clear hb1 ho1 hd1 hs1))
              refine ⟨?_, ?measure⟩
              (repeat apply Exists.intro)
              refine ⟨?rel, rfl⟩
              case rel => exact pinv_next (wr := wo) hR (by decide) HK.out HP.out HPS.out HN2.out HNO.out rfl HCS.out (by go_num) HO1.out (HB.out.trans ((HPV.out.mono HB.out.size).trans (HB1.out.mono (Nat.le_succ _)))) ((HB1.out.cell (p := ⟨w.heap.size, 0, none⟩) (Nat.lt_succ_self _)).trans ((HPV.out.cell (p := ⟨w.heap.size, 0, none⟩) HS.out).trans HC.out)) (Nat.le_trans hzV HS1.out) (HMV.out.keep fun D h => HD1.out D _ h rfl)
              case measure => simp [intOf]; omega
        · by_cases h91 : byteN p k = 91
          · have hx' : ((p[k]'hlt).toNat : Int) = 91 := by rw [hx, h91]; rfl
            have hxz : (p.extract k p.size).size = p.size - k := by rw [ByteArray.size_extract]; omega
            have hq1 : (k : Int) ≤ (p.size : Int) := by omega
            rcases clo_is hlt h91 with ⟨hc1, _⟩ | ⟨d, hc1, hd1, hd2, _, _⟩
            · have HPS := Lib.hid (prs_none (n := n') hlt h91 (by rw [hc1]; decide))
              have HIX : Hid (∀ W : World, Calls Try.prog 54 #[.string (p.extract k p.size), .int .u8 93] W fun e w' => e = .returned (.int .i64 (-1)) ∧ W = w') := Lib.hid fun W => (Try.strings_IndexByte (p.extract k p.size) 93 W).mono fun e w' ⟨h1, h2⟩ => ⟨by rw [h1, ← hc1]; rfl, h2.symm⟩
              clear hx hX h42 h63 h91 hc1 hxz
              go_wp2_with (go_at_call 54; refine (HIX.out _).mono ?_; rintro e w' ⟨rfl, rfl⟩)
              obtain ⟨V, hV, p0, p1, p2, _⟩ := new_part wo Try.zeroCells79 (Value.func (Fn.func 89) #[] #[Value.pointer (some { block := wo.heap.size, off := 0 }), Value.pointer (some { block := w.heap.size, off := 0 })])
              rw [← hV]
              have HMV := HM.out.below p2
              refine leaves_marks Dn V HMV.1 (fun D hD => (HMV.2 D hD).2) fun w' hc => ?_
              refine ⟨_, results_tmp2 rfl _ _ _, Or.inl ⟨?_, rfl, hc.below (HB.out.trans (p2.mono HB.out.size)) fun D hD => by have := (HMV.2 D hD).1; omega⟩⟩
              rw [← HP.out, HPS.out]
              simp [isNone]
            · have HPS := Lib.hid (prs_set (n := n') hlt h91 hc1)
              have HIX : Hid (∀ W : World, Calls Try.prog 54 #[.string (p.extract k p.size), .int .u8 93] W fun e w' => e = .returned (.int .i64 d) ∧ W = w') := Lib.hid fun W => (Try.strings_IndexByte (p.extract k p.size) 93 W).mono fun e w' ⟨h1, h2⟩ => ⟨by rw [h1, ← hc1]; rfl, h2.symm⟩
              have t1 : ((k : Int) + 1).toNat = k + 1 := by omega
              have t2 : ((k : Int) + d).toNat = k + d := by omega
              have t3 : (k : Int) + 1 ≤ (k : Int) + d := by omega
              have t4 : (k : Int) + d ≤ (p.size : Int) := by omega
              have t5 : (1 : Int) ≤ (d : Int) := by omega
              have hsz : (p.extract (k + 1) (k + d)).size ≤ 1000 := by rw [ByteArray.size_extract]; omega
              generalize hse : p.extract (k + 1) (k + d) = s at hsz HPS
              have HSE := Lib.hid hse
              have hsl : ∀ W : World, (Instr.slice 9 (Value.string p) (some (Value.int .i64 ((k : Int) + 1))) (some (Value.int .i64 ((k : Int) + d))) none).run Try.prog W = .ok (.string s) W := fun W => by
                rw [run_slice_string W 9 p .i64 .i64 _ _ Try.underlying9 (by omega) (by omega) (by omega), t1, t2, hse]
              clear hx hX h42 h63 h91 hc1 hxz
              go_wp2_with (first | (go_at_call 54; refine (HIX.out _).mono ?_; rintro e w' ⟨rfl, rfl⟩) | (go_at_call 90; refine (members_call _ _).mono ?_; rintro e w' ⟨rfl, rfl⟩))
              obtain ⟨V3, hV, p0, p1, p2, p3, p4⟩ := new_part3 wo Try.zeroCells79 (Value.func (Fn.func 89) #[] #[Value.pointer (some { block := wo.heap.size, off := 0 }), Value.pointer (some { block := w.heap.size, off := 0 })]) (.string s)
              rw [← hV]
              clear hV
              have hI0 : PartG wo w.heap.size f (Value.func (Fn.func 89) #[] #[Value.pointer (some { block := wo.heap.size, off := 0 }), Value.pointer (some { block := w.heap.size, off := 0 })]) [] V3 := ⟨by rw [p0, zero_cellsP]; exact congrArg (fun c => some (Obj.cells c 79 (0, 0))) (cellsP_congr fun c _ => by simp [anyPut]), p3, (p2.cell (p := ⟨w.heap.size, 0, none⟩) hfb).trans HC.out, p2⟩
              have HM3 := HM.out.below p2
              refine (wpIn_wide (n := 3)).1 ?_
              refine wpIn_rangeFunc_ownF rfl (by decide) (gf := 104) (lb := #[.pointer (some ⟨wo.heap.size + 1 + 1, 0, none⟩)]) rfl trivial (enters_of Try.func104 (by kernel_rfl) rfl)
                (members_gen 2 (by decide) (wo.heap.size + 1 + 1) s V3 (by omega) hsz p4) (fun h k => k.trans h) (fun W l o o' hl hW _ _ => World.putObj_heap_other (by omega)) (Below.refl _ _) (fun _ => rfl)
                (PartG wo w.heap.size f (Value.func (Fn.func 89) #[] #[Value.pointer (some { block := wo.heap.size, off := 0 }), Value.pointer (some { block := w.heap.size, off := 0 })]))
                (fun _ _ _ => False) (partG_own _ _ _ _ _ (by omega)) (fun _ _ _ _ _ hs _ _ => hs) hI0 ?a1 ?assign ?body ?done ?stop
              case assign =>
                intro l x W K hK
                gi_wp2
                exact hK
              case body =>
                rintro l pre x W hI _
                have hI' := hI
                obtain ⟨h1, h2, h3, h4⟩ := hI
                have HH1 := Lib.hid h1
                clear h1 h4
                gi_wp2
                refine ⟨trivial, ?_⟩
                refine (CallsIn.inRound l (callsIn_wide.2 (put_any f wo.heap.size w.heap.size x.val false (anyPut f pre) W (by have := x.isLt; omega) HH1.out h3 (by omega)))).mono ?_
                rintro e w' ⟨rfl, hg1, hr1, hz1⟩
                have hKO := keeps_put hg1 HH1.out
                have hNb : w'.heap[wo.heap.size + 1 + 1]? = W.heap[wo.heap.size + 1 + 1]? := by
                  by_cases hb : wo.heap.size + 1 + 1 < W.heap.size
                  · exact hg1.block _ hb (by simp; omega)
                  · rw [Array.getElem?_eq_none (by omega), Array.getElem?_eq_none (by omega)]
                have hP := partG_put hI' hfb hg1 hr1
                gi_wp2
                exact ⟨hKO, hNb, hP⟩
              case done =>
                rintro D ys V hD rfl hI hK
                obtain ⟨h1, h2, h3, p2⟩ := hI
                have HMV := Lib.hid (HM.out.more p2 (by omega) HS.out hK)
                have p0 := h1
                obtain ⟨cs, hcs⟩ : ∃ cs, cs = cellsP false (anyPut f (membersF s)) := ⟨_, rfl⟩
                rw [← hcs] at p0
                have HCS : Hid (cs = cellsR f (.set s)) := Lib.hid hcs
                clear h1 h2 h3 hcs hK hI0 HM3 p1 p3 p4
                have HK3 : Hid (k + (d + 1) ≤ p.size) := Lib.hid (by omega)
                have HN3 : Hid (p.size - (k + (d + 1)) ≤ n') := Lib.hid (by have := HN2.out; omega)
                have HI3 : Hid (Value.int .i64 ((k : Int) + d + 1) = Value.int .i64 ((k + (d + 1) : Nat) : Int)) := Lib.hid (by rw [show ((k : Int) + d + 1) = ((k + (d + 1) : Nat) : Int) by omega])
                have Q0 := Lib.hid p0
                have Z0 := Lib.hid (show cs.size = 257 ∧ cs.all (·.oneCell') = true by rw [HCS.out]; exact ⟨cellsP_size _ _, cellsP_one _ _⟩)
                have HI := Lib.hid (show (Try.prog.info? 79).map (·.size) = some cs.size by rw [Z0.out.1]; exact info79)
                have HOV : Hid (V.ownsRow (w.heap.size + 1) 79 257 u6 R.length (cellsL f R)) := Lib.hid (owns_below HO.out p2)
                have hzV : w.heap.size + 1 ≤ V.heap.size := by have := p2.size; have := HS.out; omega
                have HPV := Lib.hid p2
                clear p0 p2
                go_wp2_with (first | (refine wpList_load_row rfl 79 _ rfl (wo.heap.size) rfl 79 _ (0,0) _ Q0.out Try.underlying79 rfl HI.out ?_) | (refine wpList_buildP rfl _ rfl cs rfl Z0.out.1 ?_) | (at_builtin; refine wpList_appP rfl _ _ rfl (w.heap.size + 1) V cs Z0.out.1 Z0.out.2 u6 R.length (cellsL f R) rfl rfl HOV.out hzV (by omega) ?_; intro g0 c0 W1 hb1 ho1 hs1 hd1; have HB1 := Lib.hid hb1; have HO1 := Lib.hid ho1; have HD1 := Lib.hid hd1; have HS1 := Lib.hid hs1; clear hb1 ho1 hd1 hs1))
                refine ⟨?_, ?measure⟩
                (repeat apply Exists.intro)
                refine ⟨?rel, rfl⟩
                case rel => exact pinv_next (wr := wo) hR (Nat.succ_pos d) HK3.out HP.out HPS.out HN3.out HNO.out rfl HCS.out (HI3.out) HO1.out (HB.out.trans ((HPV.out.mono HB.out.size).trans (HB1.out.mono (Nat.le_succ _)))) ((HB1.out.cell (p := ⟨w.heap.size, 0, none⟩) (Nat.lt_succ_self _)).trans ((HPV.out.cell (p := ⟨w.heap.size, 0, none⟩) HS.out).trans HC.out)) (Nat.le_trans hzV HS1.out) (HMV.out.keep fun D h => HD1.out D _ h rfl)
                case measure => simp [intOf]; omega
              case stop =>
                rintro D c pre W _ _ h _
                exact h.elim
          · have hne1 : ((byteN p k : Nat) : Int) ≠ 42 := by omega
            by_cases h92 : byteN p k = 92 ∧ k + 1 < p.size
            · obtain ⟨h92a, h92b⟩ := h92
              have HPS := Lib.hid (prs_esc (n := n') h92b h92a)
              have hx' : ((p[k]'hlt).toNat : Int) = 92 := by rw [hx, h92a]; rfl
              have hx1 := byte_at p h92b
              have hX1 := byteN_lt p (k + 1)
              have q1 : (k : Int) + 1 < (p.size : Int) := by omega
              have q2 : ((k : Int) + 1).toNat = k + 1 := by omega
              generalize byteN p (k + 1) = C at hx1 hX1 HPS
              have HK3 : Hid (k + 2 ≤ p.size) := Lib.hid (by omega)
              have HN3 : Hid (p.size - (k + 2) ≤ n') := Lib.hid (by have := HN2.out; omega)
              have HI3 : Hid (Value.int .i64 ((k : Int) + 1 + 1) = Value.int .i64 ((k + 2 : Nat) : Int)) := Lib.hid (by rw [show ((k : Int) + 1 + 1) = ((k + 2 : Nat) : Int) by omega])
              clear hx hX h42 h63 h91 h92a hne1
              go_wp2_with fail
              obtain ⟨V0, hV, p0, p1, p2, p4⟩ := new_part wo Try.zeroCells79 (Value.func (Fn.func 89) #[] #[Value.pointer (some { block := wo.heap.size, off := 0 }), Value.pointer (some { block := w.heap.size, off := 0 })])
              rw [← hV]
              rw [zero_cellsP] at p0
              clear p1
              have P0 := Lib.hid p0
              have P2 := Lib.hid p2
              have hput : Hid (Calls Try.prog 89 #[.int .u8 C, .pointer (some ⟨wo.heap.size, 0, none⟩), .pointer (some ⟨w.heap.size, 0, none⟩)] V0.drew (PutPost wo.heap.size (cellsP false (fun x => false || put1 f C x)) V0.drew)) := Lib.hid (put_any f wo.heap.size w.heap.size C false (fun _ => false) V0.drew (by omega) p0 ((p2.cell (p := ⟨w.heap.size, 0, none⟩) hfb).trans HC.out) (by omega))
              have F0 := Lib.hid (show V0.drew.cell? ⟨wo.heap.size + 1, 0, none⟩ = some (Value.func (Fn.func 89) #[] #[Value.pointer (some { block := wo.heap.size, off := 0 }), Value.pointer (some { block := w.heap.size, off := 0 })]) from p4)
              have HKEEP : Hid (∀ W' : World, V0.drew.grownBy W' (some wo.heap.size) → W'.cell? ⟨wo.heap.size + 1, 0, none⟩ = some (Value.func (Fn.func 89) #[] #[Value.pointer (some { block := wo.heap.size, off := 0 }), Value.pointer (some { block := w.heap.size, off := 0 })])) := Lib.hid fun W' hg => (World.cell?_of_block (w := V0.drew) (hg.block _ (World.block_lt_of_cell? _ _ F0.out) (by simp))).trans F0.out
              clear p0 p2 hV p4
              go_region_held3 (fun w' => w'.cell? ⟨wo.heap.size + 1, 0, none⟩ = some (Value.func (Fn.func 89) #[] #[Value.pointer (some { block := wo.heap.size, off := 0 }), Value.pointer (some { block := w.heap.size, off := 0 })])) (first | exact F0.out | exact HKEEP.out _ hg1) (first | (refine hput.out.mono ?_; rintro e V ⟨rfl, hg1, p0', hz1⟩))
              all_goals
                have HB0 := Lib.hid ((P2.out).drew.trans ((Below.refl wo.heap.size V0.drew).grown hg1 (by show wo.heap.size ≤ V0.heap.size; have := P2.out.size; omega) (fun k e => by cases e; exact Nat.le_refl _)))
                have p2 := HB0.out
                have HMV := Lib.hid (HM.out.below p2)
                obtain ⟨cs, hcs⟩ : ∃ cs, cs = cellsP false (fun x => false || put1 f C x) := ⟨_, rfl⟩
                rw [← hcs] at p0'
                have p0 := p0'
                have HCS : Hid (cs = cellsR f (.one C)) := Lib.hid (hcs.trans (cellsP_congr fun c _ => by simp [setOf]))
                clear hcs hg1 hz1 p0' 
                have Q0 := Lib.hid p0
                have Z0 := Lib.hid (show cs.size = 257 ∧ cs.all (·.oneCell') = true by rw [HCS.out]; exact ⟨cellsP_size _ _, cellsP_one _ _⟩)
                have HI := Lib.hid (show (Try.prog.info? 79).map (·.size) = some cs.size by rw [Z0.out.1]; exact info79)
                have HOV : Hid (V.ownsRow (w.heap.size + 1) 79 257 u6 R.length (cellsL f R)) := Lib.hid (owns_below HO.out p2)
                have hzV : w.heap.size + 1 ≤ V.heap.size := by have := p2.size; have := HS.out; omega
                have HPV := Lib.hid p2
                clear p0 p2
                go_wp2_with (first | (refine wpList_load_row rfl 79 _ rfl (wo.heap.size) rfl 79 _ (0,0) _ Q0.out Try.underlying79 rfl HI.out ?_) | (refine wpList_buildP rfl _ rfl cs rfl Z0.out.1 ?_) | (at_builtin; refine wpList_appP rfl _ _ rfl (w.heap.size + 1) V cs Z0.out.1 Z0.out.2 u6 R.length (cellsL f R) rfl rfl HOV.out hzV (by omega) ?_; intro g0 c0 W1 hb1 ho1 hs1 hd1; have HB1 := Lib.hid hb1; have HO1 := Lib.hid ho1; have HD1 := Lib.hid hd1; have HS1 := Lib.hid hs1; clear hb1 ho1 hd1 hs1))
                refine ⟨?_, ?measure⟩
                (repeat apply Exists.intro)
                refine ⟨?rel, rfl⟩
                case rel => exact pinv_next (wr := wo) hR (by decide) HK3.out HP.out HPS.out HN3.out HNO.out rfl HCS.out (HI3.out) HO1.out (HB.out.trans ((HPV.out.mono HB.out.size).trans (HB1.out.mono (Nat.le_succ _)))) ((HB1.out.cell (p := ⟨w.heap.size, 0, none⟩) (Nat.lt_succ_self _)).trans ((HPV.out.cell (p := ⟨w.heap.size, 0, none⟩) HS.out).trans HC.out)) (Nat.le_trans hzV HS1.out) (HMV.out.keep fun D h => HD1.out D _ h rfl)
                case measure => simp [intOf]; omega
            · have HPS := Lib.hid (prs_one (n := n') hlt h42 h63 h91 h92)
              have hd1 : (((byteN p k : Nat) : Int) == 42) = false := by rw [beq_eq_false_iff_ne]; omega
              have hd2 : (((byteN p k : Nat) : Int) == 63) = false := by rw [beq_eq_false_iff_ne]; omega
              have hd3 : (((byteN p k : Nat) : Int) == 91) = false := by rw [beq_eq_false_iff_ne]; omega
              have hcase : byteN p k ≠ 92 ∨ (byteN p k = 92 ∧ p.size ≤ k + 1) := by omega
              clear hne1 h42 h63 h91 h92
              rcases hcase with h92 | ⟨h92, hkp⟩
              · have hd4 : (((byteN p k : Nat) : Int) == 92) = false := by rw [beq_eq_false_iff_ne]; omega
                generalize byteN p k = C at hx hX HPS hd1 hd2 hd3 hd4
                clear h92
                go_wp2_with fail
                obtain ⟨V0, hV, p0, p1, p2, _⟩ := new_part wo Try.zeroCells79 (Value.func (Fn.func 89) #[] #[Value.pointer (some { block := wo.heap.size, off := 0 }), Value.pointer (some { block := w.heap.size, off := 0 })])
                rw [← hV]
                rw [zero_cellsP] at p0
                refine (put_any f wo.heap.size w.heap.size C false (fun _ => false) V0 (by omega) p0 ((p2.cell (p := ⟨w.heap.size, 0, none⟩) hfb).trans HC.out) (by omega)).mono ?_
                rintro e V ⟨rfl, hg1, p0', hz1⟩
                have HB0 := Lib.hid ((p2).trans ((Below.refl wo.heap.size V0).grown hg1 (by omega) (fun k e => by cases e; exact Nat.le_refl _)))
                clear p2
                have p2 := HB0.out
                have HMV := Lib.hid (HM.out.below p2)
                obtain ⟨cs, hcs⟩ : ∃ cs, cs = cellsP false (fun x => false || put1 f C x) := ⟨_, rfl⟩
                rw [← hcs] at p0'
                have p0 := p0'
                have HCS : Hid (cs = cellsR f (.one C)) := Lib.hid (hcs.trans (cellsP_congr fun c _ => by simp [setOf]))
                clear hV hcs hg1 hz1 p0' 
                have Q0 := Lib.hid p0
                have Z0 := Lib.hid (show cs.size = 257 ∧ cs.all (·.oneCell') = true by rw [HCS.out]; exact ⟨cellsP_size _ _, cellsP_one _ _⟩)
                have HI := Lib.hid (show (Try.prog.info? 79).map (·.size) = some cs.size by rw [Z0.out.1]; exact info79)
                have HOV : Hid (V.ownsRow (w.heap.size + 1) 79 257 u6 R.length (cellsL f R)) := Lib.hid (owns_below HO.out p2)
                have hzV : w.heap.size + 1 ≤ V.heap.size := by have := p2.size; have := HS.out; omega
                have HPV := Lib.hid p2
                clear p0 p2
                go_wp2_with (first | (refine wpList_load_row rfl 79 _ rfl (wo.heap.size) rfl 79 _ (0,0) _ Q0.out Try.underlying79 rfl HI.out ?_) | (refine wpList_buildP rfl _ rfl cs rfl Z0.out.1 ?_) | (at_builtin; refine wpList_appP rfl _ _ rfl (w.heap.size + 1) V cs Z0.out.1 Z0.out.2 u6 R.length (cellsL f R) rfl rfl HOV.out hzV (by omega) ?_; intro g0 c0 W1 hb1 ho1 hs1 hd1; have HB1 := Lib.hid hb1; have HO1 := Lib.hid ho1; have HD1 := Lib.hid hd1; have HS1 := Lib.hid hs1; clear hb1 ho1 hd1 hs1))
                refine ⟨?_, ?measure⟩
                (repeat apply Exists.intro)
                refine ⟨?rel, rfl⟩
                case rel => exact pinv_next (wr := wo) hR (by decide) HK.out HP.out HPS.out HN2.out HNO.out rfl HCS.out (by go_num) HO1.out (HB.out.trans ((HPV.out.mono HB.out.size).trans (HB1.out.mono (Nat.le_succ _)))) ((HB1.out.cell (p := ⟨w.heap.size, 0, none⟩) (Nat.lt_succ_self _)).trans ((HPV.out.cell (p := ⟨w.heap.size, 0, none⟩) HS.out).trans HC.out)) (Nat.le_trans hzV HS1.out) (HMV.out.keep fun D h => HD1.out D _ h rfl)
                case measure => simp [intOf]; omega
              · have hx' : ((p[k]'hlt).toNat : Int) = 92 := by rw [hx, h92]; rfl
                have hkp' : (p.size : Int) ≤ (k : Int) + 1 := by omega
                rw [h92] at HPS
                clear hx hX hd1 hd2 hd3 h92
                go_wp2_with fail
                obtain ⟨V0, hV, p0, p1, p2, _⟩ := new_part wo Try.zeroCells79 (Value.func (Fn.func 89) #[] #[Value.pointer (some { block := wo.heap.size, off := 0 }), Value.pointer (some { block := w.heap.size, off := 0 })])
                rw [← hV]
                rw [zero_cellsP] at p0
                refine (put_any f wo.heap.size w.heap.size 92 false (fun _ => false) V0 (by omega) p0 ((p2.cell (p := ⟨w.heap.size, 0, none⟩) hfb).trans HC.out) (by omega)).mono ?_
                rintro e V ⟨rfl, hg1, p0', hz1⟩
                have HB0 := Lib.hid ((p2).trans ((Below.refl wo.heap.size V0).grown hg1 (by omega) (fun k e => by cases e; exact Nat.le_refl _)))
                clear p2
                have p2 := HB0.out
                have HMV := Lib.hid (HM.out.below p2)
                obtain ⟨cs, hcs⟩ : ∃ cs, cs = cellsP false (fun x => false || put1 f 92 x) := ⟨_, rfl⟩
                rw [← hcs] at p0'
                have p0 := p0'
                have HCS : Hid (cs = cellsR f (.one 92)) := Lib.hid (hcs.trans (cellsP_congr fun c _ => by simp [setOf]))
                clear hV hcs hg1 hz1 p0' 
                have Q0 := Lib.hid p0
                have Z0 := Lib.hid (show cs.size = 257 ∧ cs.all (·.oneCell') = true by rw [HCS.out]; exact ⟨cellsP_size _ _, cellsP_one _ _⟩)
                have HI := Lib.hid (show (Try.prog.info? 79).map (·.size) = some cs.size by rw [Z0.out.1]; exact info79)
                have HOV : Hid (V.ownsRow (w.heap.size + 1) 79 257 u6 R.length (cellsL f R)) := Lib.hid (owns_below HO.out p2)
                have hzV : w.heap.size + 1 ≤ V.heap.size := by have := p2.size; have := HS.out; omega
                have HPV := Lib.hid p2
                clear p0 p2
                go_wp2_with (first | (refine wpList_load_row rfl 79 _ rfl (wo.heap.size) rfl 79 _ (0,0) _ Q0.out Try.underlying79 rfl HI.out ?_) | (refine wpList_buildP rfl _ rfl cs rfl Z0.out.1 ?_) | (at_builtin; refine wpList_appP rfl _ _ rfl (w.heap.size + 1) V cs Z0.out.1 Z0.out.2 u6 R.length (cellsL f R) rfl rfl HOV.out hzV (by omega) ?_; intro g0 c0 W1 hb1 ho1 hs1 hd1; have HB1 := Lib.hid hb1; have HO1 := Lib.hid ho1; have HD1 := Lib.hid hd1; have HS1 := Lib.hid hs1; clear hb1 ho1 hd1 hs1))
                refine ⟨?_, ?measure⟩
                (repeat apply Exists.intro)
                refine ⟨?rel, rfl⟩
                case rel => exact pinv_next (wr := wo) hR (by decide) HK.out HP.out HPS.out HN2.out HNO.out rfl HCS.out (by go_num) HO1.out (HB.out.trans ((HPV.out.mono HB.out.size).trans (HB1.out.mono (Nat.le_succ _)))) ((HB1.out.cell (p := ⟨w.heap.size, 0, none⟩) (Nat.lt_succ_self _)).trans ((HPV.out.cell (p := ⟨w.heap.size, 0, none⟩) HS.out).trans HC.out)) (Nat.le_trans hzV HS1.out) (HMV.out.keep fun D h => HD1.out D _ h rfl)
                case measure => simp [intOf]; omega
    · have HE : Hid (R = prsL p) := Lib.hid (by have := HP.out; rw [prs_stop (by omega), List.append_nil] at this; exact this)
      go_wp2_with fail
      have HMV := HM.out
      refine leaves_marks Dn wo HMV.1 (fun D hD => (HMV.2 D hD).2) fun w' hc => ?_
      obtain ⟨ao, cap, hv, hpat⟩ := own_PAt HO.out (fun D hD => (HMV.2 D hD).2) hc
      refine ⟨_, results_tmp2 rfl _ _ _, Or.inr ⟨by rw [← HE.out]; exact HNO.out, ao, cap, ?_, by rw [← HE.out]; exact hpat, hc.below HB.out fun D hD => by have := (HMV.2 D hD).1; omega⟩⟩
      rw [← HE.out, hv]
      rfl
end Go.Proofs.Ytkohpijpipcajaa
