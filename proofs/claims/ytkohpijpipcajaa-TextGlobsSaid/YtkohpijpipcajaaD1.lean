import Derived.Test.YtkohpijpipcajaaB1
import Derived.Test.YtkohpijpipcajaaC1
import Derived.Test.YtkohpijpipcajaaShelf
namespace Go.Proofs.Ytkohpijpipcajaa
open Go.RowKit
set_option linter.unusedVariables false
set_option linter.unusedSimpArgs false

/-- what the map's walk reads. -/
structure MapFacts (b g p1 c1 p2 c2 : Nat) (W : World) : Prop where
  s0 : W.cell? ⟨b, 0, none⟩ = some (.string ⟨#[97]⟩)
  s1 : W.cell? ⟨b, 1, none⟩ = some (.string ⟨#[98]⟩)
  s2 : W.cell? ⟨b, 2, none⟩ = some (.string ⟨#[98]⟩)
  s3 : W.cell? ⟨b, 3, none⟩ = some (.string ⟨#[97]⟩)
  k1 : W.cell? ⟨g, 97, none⟩ = some (.slice (some ⟨p1, 0, none⟩) 1 c1)
  k2 : W.cell? ⟨g, 98, none⟩ = some (.slice (some ⟨p2, 0, none⟩) 1 c2)
  x1 : W.cell? ⟨p1, 0, none⟩ = some (.int .i64 0)
  x2 : W.cell? ⟨p2, 0, none⟩ = some (.int .i64 2)

theorem MapFacts.later {b g p1 c1 p2 c2 B : Nat} {V W : World} (h : MapFacts b g p1 c1 p2 c2 V) (hb : b < B) (hg : g < B) (h1 : p1 < B) (h2 : p2 < B) (bl : Below B V W) : MapFacts b g p1 c1 p2 c2 W :=
  ⟨(bl.cell (p := ⟨b, 0, none⟩) hb).trans h.s0, (bl.cell (p := ⟨b, 1, none⟩) hb).trans h.s1, (bl.cell (p := ⟨b, 2, none⟩) hb).trans h.s2, (bl.cell (p := ⟨b, 3, none⟩) hb).trans h.s3,
   (bl.cell (p := ⟨g, 97, none⟩) hg).trans h.k1, (bl.cell (p := ⟨g, 98, none⟩) hg).trans h.k2, (bl.cell (p := ⟨p1, 0, none⟩) h1).trans h.x1, (bl.cell (p := ⟨p2, 0, none⟩) h2).trans h.x2⟩

theorem alike_a (w : World) : Calls Try.prog 69 #[.string ⟨#[97]⟩, .string ⟨#[97]⟩, .bool false] w fun e w' => e = .returned (.bool true) ∧ w = w' :=
  (alike_no _ _ w).mono fun e w' ⟨he, hw⟩ => ⟨he.trans (by rw [beq_self_eq_true]), hw⟩
theorem alike_b (w : World) : Calls Try.prog 69 #[.string ⟨#[98]⟩, .string ⟨#[98]⟩, .bool false] w fun e w' => e = .returned (.bool true) ∧ w = w' :=
  (alike_no _ _ w).mono fun e w' ⟨he, hw⟩ => ⟨he.trans (by rw [beq_self_eq_true]), hw⟩
theorem len_any (B b : Nat) (bs : List Value) (w : World) (h : Lib.IsBuilder 62 5 B b bs w) (n : Nat) (hn : bs.length = n) :
    Calls Try.prog 68 #[.pointer (some ⟨b, 0, none⟩)] w fun e w' => e = .returned (.int .i64 n) ∧ w = w' := by
  subst hn
  exact (Try.Builder_Len B b bs w h).mono fun e w' ⟨he, hw⟩ => ⟨he, hw.symm⟩

theorem ws_any (B b : Nat) (bs : List Value) (c : UInt8) (w : World) (h : Lib.IsBuilder 62 5 B b bs w) (hlen : bs.length ≤ 1000) (hBw : B ≤ w.heap.size) :
    Calls Try.prog 63 #[.pointer (some ⟨b, 0, none⟩), .string ⟨#[c]⟩] w fun e w' => e = .returned (.tuple #[.int .i64 1, .nilIface]) ∧ Hid (Lib.IsBuilder 62 5 B b (bs ++ [.int .u8 c.toNat]) w') ∧ Hid (Below B w w') := by
  refine (writeString_any B b bs ⟨#[c]⟩ w h (by show bs.length + 1 ≤ _; omega) hBw).mono ?_
  rintro e w' ⟨rfl, h1, h2⟩
  exact ⟨rfl, Or.inr h1, h2⟩

set_option maxRecDepth 100000 in
set_option maxHeartbeats 4000000 in
theorem map_c (w : World) (b : Nat) (h0 : w.cell? ⟨b, 0, none⟩ = some (.string ⟨#[97]⟩)) (h1 : w.cell? ⟨b, 1, none⟩ = some (.string ⟨#[98]⟩)) 
   (h2 : w.cell? ⟨b, 2, none⟩ = some (.string ⟨#[98]⟩)) (h3 : w.cell? ⟨b, 3, none⟩ = some (.string ⟨#[97]⟩)) (hb : b < w.heap.size) :
    Calls Try.prog 43 #[.string ⟨#[97, 98, 97, 98]⟩, .slice (some ⟨b, 0, none⟩) 4 4, .bool false] w fun e w' => e = .returned (.tuple #[.string ⟨#[98, 97, 98, 97]⟩, .int .i64 0]) ∧ Below w.heap.size w w' := by
  have H0 := Lib.hid h0
  have H1 := Lib.hid h1
  have H2 := Lib.hid h2
  have H3 := Lib.hid h3
  clear h0 h1 h2 h3
  go_enter Try.func43, Try.ntmps43
  go_wp2_with fail
  go_step3
  go_wp2_with fail
  refine (keys_c _ b H0.out H2.out hb).mono ?_
  intro e w1 hk
  obtain ⟨p1, c1, p2, c2, rfl, x1, x2, q1, q2, bl⟩ := hk
  have hsz : ((Try.zeroCells71.setIfInBounds 97 (.slice (some ⟨p1, 0, none⟩) 1 c1)).setIfInBounds 98 (.slice (some ⟨p2, 0, none⟩) 1 c2)).size = 256 := by simp [zc71]
  have hone : ((Try.zeroCells71.setIfInBounds 97 (.slice (some ⟨p1, 0, none⟩) 1 c1)).setIfInBounds 98 (.slice (some ⟨p2, 0, none⟩) 1 c2)).all (·.oneCell') = true := by
    rw [zc71]; kernel_rfl
  have hi : (Try.prog.info? 71).map (·.size) = some ((Try.zeroCells71.setIfInBounds 97 (.slice (some ⟨p1, 0, none⟩) 1 c1)).setIfInBounds 98 (.slice (some ⟨p2, 0, none⟩) 1 c2)).size := by rw [hsz]; exact info71
  have hsz0 : Try.zeroCells71.size = ((Try.zeroCells71.setIfInBounds 97 (.slice (some ⟨p1, 0, none⟩) 1 c1)).setIfInBounds 98 (.slice (some ⟨p2, 0, none⟩) 1 c2)).size := by simp
  have e97 : ((Try.zeroCells71.setIfInBounds 97 (.slice (some ⟨p1, 0, none⟩) 1 c1)).setIfInBounds 98 (.slice (some ⟨p2, 0, none⟩) 1 c2))[97]? = some (.slice (some ⟨p1, 0, none⟩) 1 c1) := by
    rw [zc71]; kernel_rfl
  have e98 : ((Try.zeroCells71.setIfInBounds 97 (.slice (some ⟨p1, 0, none⟩) 1 c1)).setIfInBounds 98 (.slice (some ⟨p2, 0, none⟩) 1 c2))[98]? = some (.slice (some ⟨p2, 0, none⟩) 1 c2) := by
    rw [zc71]; kernel_rfl
  generalize (Try.zeroCells71.setIfInBounds 97 (.slice (some ⟨p1, 0, none⟩) 1 c1)).setIfInBounds 98 (.slice (some ⟨p2, 0, none⟩) 1 c2) = cs at *
  have X1 := Lib.hid x1
  have X2 := Lib.hid x2
  have HSZ := Lib.hid hsz
  have HONE := Lib.hid hone
  have HI := Lib.hid hi
  have HSZ0 := Lib.hid hsz0
  have E97 := Lib.hid e97
  have E98 := Lib.hid e98
  clear hsz hone hi hsz0 e97 e98 x1 x2
  go_wp2_with (refine wpList_store_row rfl 71 _ _ rfl (w1.heap.size) _ rfl rfl 71 Try.zeroCells71 (heap_alloc_new w1 _) HI.out HSZ0.out HONE.out ?_)
  have bA : Below w1.heap.size w1 ((w1.alloc (Obj.cells Try.zeroCells71 71)).setRow w1.heap.size cs) := below_setRow ((Below.refl _ _).alloc (Nat.le_refl _) _) (Nat.le_refl _) cs
  have rA : ((w1.alloc (Obj.cells Try.zeroCells71 71)).setRow w1.heap.size cs).heap[w1.heap.size]? = some (.cells cs 71 (0, 0)) := setRow_heap _ _ _ _ _ _ (heap_alloc_new w1 _)
  have sA : ((w1.alloc (Obj.cells Try.zeroCells71 71)).setRow w1.heap.size cs).heap.size = w1.heap.size + 1 := by simp
  generalize (w1.alloc (Obj.cells Try.zeroCells71 71)).setRow w1.heap.size cs = A at *
  have mfA : MapFacts b w1.heap.size p1 c1 p2 c2 A := by
    have hlt := bl.size
    exact ⟨(bA.cell (p := ⟨b, 0, none⟩) (by simp; omega)).trans ((bl.cell (p := ⟨b, 0, none⟩) hb).trans H0.out), (bA.cell (p := ⟨b, 1, none⟩) (by simp; omega)).trans ((bl.cell (p := ⟨b, 1, none⟩) hb).trans H1.out),
      (bA.cell (p := ⟨b, 2, none⟩) (by simp; omega)).trans ((bl.cell (p := ⟨b, 2, none⟩) hb).trans H2.out), (bA.cell (p := ⟨b, 3, none⟩) (by simp; omega)).trans ((bl.cell (p := ⟨b, 3, none⟩) hb).trans H3.out),
      (cell_of_row _ _ _ _ _ _ rA).trans E97.out, (cell_of_row _ _ _ _ _ _ rA).trans E98.out, (bA.cell (p := ⟨p1, 0, none⟩) q1).trans X1.out, (bA.cell (p := ⟨p2, 0, none⟩) q2).trans X2.out⟩
  have hbA : b < A.heap.size := by have := bl.size; omega
  have hgA : w1.heap.size < A.heap.size := by omega
  have h1A : p1 < A.heap.size := by omega
  have h2A : p2 < A.heap.size := by omega
  have blA : Below w.heap.size w A := bl.trans (bA.mono bl.size)
  have isb := Lib.fresh_isBuilder 62 5 A
  have bV : Below A.heap.size A (A.alloc (Obj.cells #[Value.pointer none, Value.slice none 0 0] 62)) := (Below.refl _ _).alloc (Nat.le_refl _) _
  have SA := Lib.hid sA
  obtain ⟨a, ha⟩ : ∃ a, a = A.heap.size := ⟨_, rfl⟩
  have ep : w1.heap.size + 1 = a := by omega
  rw [ep]
  rw [← ha] at isb bV hbA hgA h1A h2A
  generalize A.alloc (Obj.cells #[Value.pointer none, Value.slice none 0 0] 62) = V at *
  have MF := mfA
  have BV := Lib.hid bV
  have ISB := Lib.hid isb
  have HA := Lib.hid ha
  have EP := Lib.hid ep
  clear rA mfA E97 E98 HSZ HONE HI HSZ0 X1 X2 bA H0 H1 H2 H3 bV isb ha ep sA
  go_step3
  go_wp2_with fail
  refine wp_loop_rounds 5 ?_
  rw [rounds_succ]
  obtain ⟨s0, s1, s2, s3, k1, k2, x1, x2⟩ := MF.later hbA hgA h1A h2A BV.out
  have ea : ((⟨#[97, 98, 97, 98]⟩ : ByteArray)[0]).toNat = 97 := rfl
  have ex : (⟨#[97, 98, 97, 98]⟩ : ByteArray).extract 0 1 = ⟨#[97]⟩ := by kernel_rfl
  go_wp2_with (go_at_call 68; refine (len_any a a _ _ ISB.out 0 rfl).mono ?_; rintro e w' ⟨rfl, rfl⟩)
  refine wp_loop_rounds 1 ?_
  rw [rounds_succ]
  go_wp2_with (go_at_call 69; refine (alike_a _).mono ?_; rintro e w' ⟨rfl, rfl⟩)
  refine (ws_any a a _ _ _ ISB.out (by decide) (Nat.le_trans (Nat.le_of_eq HA.out) BV.out.size)).mono ?_
  rintro e W1 ⟨rfl, I1, J1⟩
  have B1 := Lib.hid (BV.out.trans J1.out)
  clear s0 s1 s2 s3 k1 k2 x1 x2 ea ex J1
  go_wp2_with fail
  rw [rounds_succ]
  obtain ⟨s0, s1, s2, s3, k1, k2, x1, x2⟩ := MF.later hbA hgA h1A h2A B1.out
  have ea : ((⟨#[97, 98, 97, 98]⟩ : ByteArray)[1]).toNat = 98 := rfl
  have ex : (⟨#[97, 98, 97, 98]⟩ : ByteArray).extract 1 2 = ⟨#[98]⟩ := by kernel_rfl
  go_wp2_with (go_at_call 68; refine (len_any a a _ _ I1.out 1 rfl).mono ?_; rintro e w' ⟨rfl, rfl⟩)
  refine wp_loop_rounds 1 ?_
  rw [rounds_succ]
  go_wp2_with (go_at_call 69; refine (alike_b _).mono ?_; rintro e w' ⟨rfl, rfl⟩)
  refine (ws_any a a _ _ _ I1.out (by decide) (Nat.le_trans (Nat.le_of_eq HA.out) B1.out.size)).mono ?_
  rintro e W2 ⟨rfl, I2, J2⟩
  have B2 := Lib.hid (B1.out.trans J2.out)
  clear s0 s1 s2 s3 k1 k2 x1 x2 ea ex J2
  go_wp2_with fail
  rw [rounds_succ]
  obtain ⟨s0, s1, s2, s3, k1, k2, x1, x2⟩ := MF.later hbA hgA h1A h2A B2.out
  have ea : ((⟨#[97, 98, 97, 98]⟩ : ByteArray)[2]).toNat = 97 := rfl
  have ex : (⟨#[97, 98, 97, 98]⟩ : ByteArray).extract 2 3 = ⟨#[97]⟩ := by kernel_rfl
  go_wp2_with (go_at_call 68; refine (len_any a a _ _ I2.out 2 rfl).mono ?_; rintro e w' ⟨rfl, rfl⟩)
  refine wp_loop_rounds 1 ?_
  rw [rounds_succ]
  go_wp2_with (go_at_call 69; refine (alike_a _).mono ?_; rintro e w' ⟨rfl, rfl⟩)
  refine (ws_any a a _ _ _ I2.out (by decide) (Nat.le_trans (Nat.le_of_eq HA.out) B2.out.size)).mono ?_
  rintro e W3 ⟨rfl, I3, J3⟩
  have B3 := Lib.hid (B2.out.trans J3.out)
  clear s0 s1 s2 s3 k1 k2 x1 x2 ea ex J3
  go_wp2_with fail
  rw [rounds_succ]
  obtain ⟨s0, s1, s2, s3, k1, k2, x1, x2⟩ := MF.later hbA hgA h1A h2A B3.out
  have ea : ((⟨#[97, 98, 97, 98]⟩ : ByteArray)[3]).toNat = 98 := rfl
  have ex : (⟨#[97, 98, 97, 98]⟩ : ByteArray).extract 3 4 = ⟨#[98]⟩ := by kernel_rfl
  go_wp2_with (go_at_call 68; refine (len_any a a _ _ I3.out 3 rfl).mono ?_; rintro e w' ⟨rfl, rfl⟩)
  refine wp_loop_rounds 1 ?_
  rw [rounds_succ]
  go_wp2_with (go_at_call 69; refine (alike_b _).mono ?_; rintro e w' ⟨rfl, rfl⟩)
  refine (ws_any a a _ _ _ I3.out (by decide) (Nat.le_trans (Nat.le_of_eq HA.out) B3.out.size)).mono ?_
  rintro e W4 ⟨rfl, I4, J4⟩
  have B4 := Lib.hid (B3.out.trans J4.out)
  clear s0 s1 s2 s3 k1 k2 x1 x2 ea ex J4
  go_wp2_with fail
  rw [rounds_succ]
  go_wp2_with (go_at_call 68; refine (len_any a a _ _ I4.out 4 rfl).mono ?_; rintro e w' ⟨rfl, rfl⟩)
  refine (Try.Builder_String_any a a [98, 97, 98, 97] _ I4.out (Nat.le_trans (Nat.le_of_eq HA.out) B4.out.size)).mono ?_
  rintro e W5 ⟨rfl, J5⟩
  have B5 := Lib.hid (B4.out.trans J5)
  clear J5
  go_wp2_with fail
  rw [Exit.noGoto_ret]
  go_ret2
  exact ⟨rfl, blA.trans (B5.out.mono (Nat.le_trans blA.size (Nat.le_of_eq HA.out.symm)))⟩
end Go.Proofs.Ytkohpijpipcajaa
