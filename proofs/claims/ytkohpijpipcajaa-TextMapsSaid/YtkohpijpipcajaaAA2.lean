import Derived.Test.YtkohpijpipcajaaAA1
import Derived.Deep.RegionHeld3
namespace Go.Proofs.Ytkohpijpipcajaa
open Go.RowKit
set_option linter.unusedVariables false
set_option linter.unusedSimpArgs false

/-- the text of Long in its own block. -/
theorem box1 (w : World) (s : ByteArray) : ∃ V, V = w.alloc (Obj.cells #[.string s] 9) ∧ V.cell? ⟨w.heap.size, 0, none⟩ = some (.string s) ∧ Below w.heap.size w V ∧ V.heap.size = w.heap.size + 1 :=
  ⟨_, rfl, (cell_of_row _ _ _ _ _ _ (heap_alloc_new w _)).trans rfl, (Below.refl _ _).alloc (Nat.le_refl _) _, by simp⟩

set_option maxRecDepth 100000 in
theorem textMaps_far (ps : List ByteArray) (f : Bool) (s : ByteArray) (ao : Option Addr) (cap : Nat) (w : World) (hs0 : s.size ≤ 9223372036854775807) (hn : ps.length ≤ 9223372036854775807) (hz : ∀ x ∈ ps, x.size ≤ 9223372036854775807) (hp : TextsAt ps ao w)
    (hl : 400 < s.size ∨ 20 < ps.length ∨ anyLong ps = true) :
    Calls Try.prog 6 #[.string s, .slice ao ps.length cap, .bool f] w fun e w' => e = .returned (.bool true) ∧ Below w.heap.size w w' := by
  obtain ⟨V, hV, k0, bl, hsz⟩ := box1 w s
  have HV := Lib.hid hV
  have BL := Lib.hid bl
  have hle : w.heap.size ≤ V.heap.size := by omega
  have HP := Lib.hid (hp.below bl)
  have HZ := Lib.hid hz
  have HK := Lib.hid k0
  clear hV bl k0 hsz hz hp
  by_cases h1 : 400 < s.size
  · have HL := Lib.hid (long1 s w.heap.size true V hs0 HK.out (by simpa using h1))
    clear hl h1
    go_enter Try.func6, Try.ntmps6
    go_wp2_with fail
    rw [← HV.out]
    refine HL.out.mono ?_
    rintro e w' ⟨rfl, rfl⟩
    go_wp2_with fail
    refine (awake_any _).mono ?_
    rintro e w2 ⟨rfl, hb⟩
    have hf := Lib.hid (BL.out.trans (hb.mono hle))
    clear hb
    go_wp2
    go_ret
    exact ⟨rfl, hf.out⟩
  · have HL := Lib.hid (long1 s w.heap.size false V hs0 HK.out (by simpa using h1))
    by_cases h2 : 20 < ps.length
    · clear hl h1
      go_enter Try.func6, Try.ntmps6
      go_wp2_with fail
      rw [← HV.out]
      refine HL.out.mono ?_
      rintro e w' ⟨rfl, rfl⟩
      go_wp2_with fail
      refine (awake_any _).mono ?_
      rintro e w2 ⟨rfl, hb⟩
      have hf := Lib.hid (BL.out.trans (hb.mono hle))
      clear hb
      go_wp2
      go_ret
      exact ⟨rfl, hf.out⟩
    · have hA : anyLong ps = true := by
        rcases hl with h | h | h
        · exact absurd h h1
        · exact absurd h h2
        · exact h
      have HA := Lib.hid hA
      clear hl h1 hA
      go_enter Try.func6, Try.ntmps6
      go_wp2_with fail
      rw [← HV.out]
      refine HL.out.mono ?_
      rintro e w' ⟨rfl, rfl⟩
      go_wp2_with fail
      refine (long_any ps ao cap _ HP.out hn HZ.out).mono ?_
      rintro e w' ⟨rfl, rfl⟩
      rw [HA.out]
      go_wp2_with fail
      refine (awake_any _).mono ?_
      rintro e w2 ⟨rfl, hb⟩
      have hf := Lib.hid (BL.out.trans (hb.mono hle))
      clear hb
      go_wp2
      go_ret
      exact ⟨rfl, hf.out⟩

set_option maxRecDepth 100000 in
set_option maxHeartbeats 1000000 in
theorem textMaps_near (ps : List ByteArray) (f : Bool) (s : ByteArray) (ao : Option Addr) (cap : Nat) (w : World) (hs : s.size ≤ 400) (hn : ps.length ≤ 20) (hz : ∀ x ∈ ps, x.size ≤ 9223372036854775807) (hp : TextsAt ps ao w) (hl : anyLong ps = false) :
    Calls Try.prog 6 #[.string s, .slice ao ps.length cap, .bool f] w fun e w' => e = .returned (.bool true) ∧ Below w.heap.size w w' := by
  obtain ⟨V, hV, k0, bl, hsz⟩ := box1 w s
  have HV := Lib.hid hV
  have BL := Lib.hid bl
  have hle : w.heap.size ≤ V.heap.size := by omega
  have HP := Lib.hid (hp.below bl)
  have HZ := Lib.hid hz
  have HL := Lib.hid (long1 s w.heap.size false V (by omega) k0 (by simp; omega))
  have HA := Lib.hid hl
  clear hV bl k0 hsz hz hp hl
  go_enter Try.func6, Try.ntmps6
  go_wp2_with fail
  rw [← HV.out]
  refine HL.out.mono ?_
  rintro e w' ⟨rfl, rfl⟩
  go_wp2_with fail
  refine (long_any ps ao cap _ HP.out (by omega) HZ.out).mono ?_
  rintro e w' ⟨rfl, rfl⟩
  rw [HA.out]
  go_wp2_with fail
  refine (map_any ps f s ao cap _ hs hn HA.out HP.out).mono ?_
  rintro e W1 ⟨rfl, hb⟩
  have B1 := Lib.hid hb
  clear hb
  go_wp2_with fail
  refine (ref_map_any ps f s ao cap _ hs hn HA.out (HP.out.below B1.out)).mono ?_
  rintro e W2 ⟨rfl, hb⟩
  have B2 := Lib.hid (B1.out.trans (hb.mono B1.out.size))
  clear hb
  by_cases h0 : ps.length = 0
  · have h0' : ((ps.length : Int) == 0) = true := by simp [h0]
    clear h0
    go_wp2_with fail
    refine (awake_any _).mono ?_
    rintro e w2 ⟨rfl, hb⟩
    have hf := Lib.hid (BL.out.trans ((B2.out.trans (hb.mono B2.out.size)).mono hle))
    clear hb
    go_wp2
    go_ret
    exact ⟨rfl, hf.out⟩
  · have h0' : ((ps.length : Int) == 0) = false := by rw [beq_eq_false_iff_ne]; omega
    have hpos : 0 < ps.length := by omega
    obtain ⟨a, rfl, hc⟩ := HP.out.below B2.out 0 hpos
    have hkz : (ps.getD 0 ByteArray.empty).size ≤ 400 := anyLong_no HA.out 0 hpos
    generalize ps.getD 0 ByteArray.empty = key at hc hkz
    have r0 : (0 : Int) < (ps.length : Int) := by omega
    clear h0
    have hca : W2.cell? a = some (.string key) := by simpa [Addr.add] using hc
    have F0 := Lib.hid (show W2.drew.cell? a = some (.string key) ∧ Below W2.heap.size W2 W2.drew from ⟨hca, (Below.refl _ _).drew⟩)
    have bl1 : Below W2.heap.size W2 (W2.alloc (Obj.cells #[.string key, .string key] 9)).drew := ((Below.refl _ _).alloc (Nat.le_refl _) _).drew
    have F1 := Lib.hid (show (W2.alloc (Obj.cells #[.string key, .string key] 9)).drew.cell? a = some (.string key) ∧ Below W2.heap.size W2 (W2.alloc (Obj.cells #[.string key, .string key] 9)).drew from ⟨cell_later bl1 hca, bl1⟩)
    have hn1 := heap_alloc_new W2 (Obj.cells #[.string key, .string key] 9)
    have KC := Lib.hid (map_same_any key s W2.heap.size (W2.alloc (Obj.cells #[.string key, .string key] 9)).drew hs hkz ((cell_of_row _ _ _ _ _ _ hn1).trans rfl) ((cell_of_row _ _ _ _ _ _ hn1).trans rfl))
    have hzz : W2.heap.size ≤ (W2.alloc (Obj.cells #[.string key, .string key] 9)).drew.heap.size := by simp
    have HZZ := Lib.hid hzz
    clear hc hca bl1 hn1 hzz
    go_wp2_with fail
    go_region_held3 (fun w' => w'.cell? a = some (.string key) ∧ Below W2.heap.size W2 w') (first | exact F0.out | exact F1.out | exact ⟨cell_later hb5 F1.out.1, F1.out.2.trans (hb5.mono HZZ.out)⟩) (first | (go_at_call 43; refine KC.out.mono ?_; rintro e w5 ⟨rfl, hb5⟩))
    all_goals
      have B5 := Lib.hid (B2.out.trans ((F1.out.2.trans (hb5.mono HZZ.out)).mono B2.out.size))
      clear hb5
      go_wp2_with fail
      refine (awake_any _).mono ?_
      rintro e w6 ⟨rfl, hb⟩
      have hf := Lib.hid (BL.out.trans ((B5.out.trans (hb.mono B5.out.size)).mono hle))
      clear hb
      go_wp2
      go_ret
      exact ⟨rfl, hf.out⟩
end Go.Proofs.Ytkohpijpipcajaa
