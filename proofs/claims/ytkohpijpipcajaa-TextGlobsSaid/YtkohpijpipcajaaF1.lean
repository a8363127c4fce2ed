import Derived.Test.YtkohpijpipcajaaE3
import Derived.Laws.EntriesVeiled
namespace Go.Proofs.Ytkohpijpipcajaa
open Go.RowKit
set_option linter.unusedVariables false
set_option linter.unusedSimpArgs false

set_option maxRecDepth 100000 in
theorem next_0 (w : World) (lb g c : Nat) (hl : w.cell? ⟨lb, 0, none⟩ = some (.slice (some ⟨g, 0, none⟩) 4 c)) (hp : PartsAt g w) :
    Calls Try.prog 72 #[.int .i64 0, .pointer (some ⟨lb, 0, none⟩)] w fun e w' => e = .returned (.int .i64 1) ∧ w = w' := by
  obtain ⟨m0, m1, m2, m3, _, _, _⟩ := hp
  go_enter Try.func72, Try.ntmps72
  go_wp2
  refine wp_loop_rounds 2 ?_
  rw [rounds_succ]
  go_wp2
  rw [rounds_succ]
  go_wp2
  go_ret
  exact ⟨rfl, rfl⟩
set_option maxRecDepth 100000 in
theorem next_2 (w : World) (lb g c : Nat) (hl : w.cell? ⟨lb, 0, none⟩ = some (.slice (some ⟨g, 0, none⟩) 4 c)) (hp : PartsAt g w) :
    Calls Try.prog 72 #[.int .i64 2, .pointer (some ⟨lb, 0, none⟩)] w fun e w' => e = .returned (.int .i64 4) ∧ w = w' := by
  obtain ⟨m0, m1, m2, m3, _, _, _⟩ := hp
  go_enter Try.func72, Try.ntmps72
  go_wp2
  refine wp_loop_rounds 3 ?_
  rw [rounds_succ]
  go_wp2
  rw [rounds_succ]
  go_wp2
  rw [rounds_succ]
  go_wp2
  go_ret
  exact ⟨rfl, rfl⟩

/-- what the walk has captured. -/
structure GlobAt (nb sb lb wb g c : Nat) (W : World) : Prop where
  n : W.cell? ⟨nb, 0, none⟩ = some (.func (.func 72) #[] #[.pointer (some ⟨lb, 0, none⟩)])
  s : W.cell? ⟨sb, 0, none⟩ = some (.string ⟨#[97, 98, 99, 122, 113]⟩)
  l : W.cell? ⟨lb, 0, none⟩ = some (.slice (some ⟨g, 0, none⟩) 4 c)
  k : W.cell? ⟨wb, 0, none⟩ = some (.func (.func 73) #[] #[.pointer (some ⟨nb, 0, none⟩), .pointer (some ⟨sb, 0, none⟩), .pointer (some ⟨lb, 0, none⟩), .pointer (some ⟨wb, 0, none⟩)])
  p : PartsAt g W

set_option maxRecDepth 100000 in
set_option maxHeartbeats 1000000 in
theorem walk_2 (w : World) (nb sb lb wb g c : Nat) (h : GlobAt nb sb lb wb g c w) :
    Calls Try.prog 73 #[.int .i64 2, .int .i64 1, .pointer (some ⟨nb, 0, none⟩), .pointer (some ⟨sb, 0, none⟩), .pointer (some ⟨lb, 0, none⟩), .pointer (some ⟨wb, 0, none⟩)] w fun e w' => e = .returned (.bool true) ∧ Below w.heap.size w w' := by
  obtain ⟨hn, hs, hl, hk, hp⟩ := h
  have HP := hp
  obtain ⟨m0, m1, m2, m3, s0, s2, s3⟩ := hp
  clear m0 m1 m2 m3 s0
  have e3 : ((⟨#[97, 98, 99, 122, 113]⟩ : ByteArray)[3]).toNat = 122 := rfl
  have e4 : ((⟨#[97, 98, 99, 122, 113]⟩ : ByteArray)[4]).toNat = 113 := rfl
  go_enter Try.func73, Try.ntmps73
  go_wp2
  go_step3
  go_wp2_with (go_at_call 72; refine (next_2 _ lb g c hl HP).mono ?_; rintro e w' ⟨rfl, rfl⟩)
  go_step3
  go_wp2
  refine wp_loop_rounds 1 ?_
  rw [rounds_succ]
  go_wp2
  refine wp_loop_rounds 3 ?_
  rw [rounds_succ]
  go_wp2
  go_quiet (fail)
  go_wp2
  rw [rounds_succ]
  go_wp2
  go_quiet (fail)
  go_wp2
  rw [rounds_succ]
  go_wp2
  rw [Exit.noGoto_ret]
  go_ret
  exact ⟨rfl, ⟨rfl, rfl, rfl, Nat.le_refl _, fun _ _ => rfl⟩⟩

set_option maxRecDepth 100000 in
set_option maxHeartbeats 1000000 in
theorem walk_0 (w : World) (nb sb lb wb g c : Nat) (h : GlobAt nb sb lb wb g c w) :
    Calls Try.prog 73 #[.int .i64 0, .int .i64 0, .pointer (some ⟨nb, 0, none⟩), .pointer (some ⟨sb, 0, none⟩), .pointer (some ⟨lb, 0, none⟩), .pointer (some ⟨wb, 0, none⟩)] w fun e w' => e = .returned (.bool true) ∧ Below w.heap.size w w' := by
  have H := Lib.hid h
  obtain ⟨hn, hs, hl, hk, hp⟩ := h
  have HP := hp
  obtain ⟨m0, m1, m2, m3, s0, s2, s3⟩ := hp
  clear m0 m1 m2 m3 s2 s3
  have e0 : ((⟨#[97, 98, 99, 122, 113]⟩ : ByteArray)[0]).toNat = 97 := rfl
  go_enter Try.func73, Try.ntmps73
  go_wp2
  go_step3
  go_wp2_with (go_at_call 72; refine (next_0 _ lb g c hl HP).mono ?_; rintro e w' ⟨rfl, rfl⟩)
  go_step3
  go_wp2
  refine wp_loop_rounds 1 ?_
  rw [rounds_succ]
  go_wp2
  refine wp_loop_rounds 2 ?_
  rw [rounds_succ]
  go_wp2
  go_quiet (fail)
  go_wp2
  rw [rounds_succ]
  go_wp2_with fail
  have H2 : GlobAt nb sb lb wb g c (w.drewN nq) := ⟨H.out.n, H.out.s, H.out.l, H.out.k, ⟨H.out.p.m0, H.out.p.m1, H.out.p.m2, H.out.p.m3, H.out.p.s0, H.out.p.s2, H.out.p.s3⟩⟩
  refine (walk_2 (w.drewN nq) nb sb lb wb g c H2).mono ?_
  rintro e w' ⟨rfl, hb⟩
  clear H2
  go_wp2
  rw [Exit.noGoto_ret]
  go_ret
  exact ⟨rfl, hb.os, hb.tape, hb.output, hb.size, hb.block⟩

theorem new_glob (W : World) (sb g c : Nat) (hsb : sb < W.heap.size) (hs : W.cell? ⟨sb, 0, none⟩ = some (.string ⟨#[97, 98, 99, 122, 113]⟩)) (hg : g < W.heap.size) (hp : PartsAt g W) :
    ∃ V, V = ((W.alloc (Obj.cells #[Value.slice (some { block := g, off := 0 }) 4 c] 75)).alloc (Obj.cells #[Value.func (Fn.func 72) #[] #[Value.pointer (some { block := W.heap.size, off := 0 })]] 80)).alloc
        (Obj.cells #[Value.func (Fn.func 73) #[] #[.pointer (some ⟨W.heap.size + 1, 0, none⟩), .pointer (some ⟨sb, 0, none⟩), .pointer (some ⟨W.heap.size, 0, none⟩), .pointer (some ⟨W.heap.size + 1 + 1, 0, none⟩)]] 81) ∧
      GlobAt (W.heap.size + 1) sb W.heap.size (W.heap.size + 1 + 1) g c V ∧ Below W.heap.size W V := by
  generalize hq1 : Value.slice (some { block := g, off := 0 }) 4 c = q1
  generalize hq2 : Value.func (Fn.func 72) #[] #[Value.pointer (some { block := W.heap.size, off := 0 })] = q2
  generalize hq3 : Value.func (Fn.func 73) #[] #[.pointer (some ⟨W.heap.size + 1, 0, none⟩), .pointer (some ⟨sb, 0, none⟩), .pointer (some ⟨W.heap.size, 0, none⟩), .pointer (some ⟨W.heap.size + 1 + 1, 0, none⟩)] = q3
  have b1 : Below W.heap.size W (W.alloc (Obj.cells #[q1] 75)) := (Below.refl _ _).alloc (Nat.le_refl _) _
  have b2 : Below (W.heap.size + 1) (W.alloc (Obj.cells #[q1] 75)) ((W.alloc (Obj.cells #[q1] 75)).alloc (Obj.cells #[q2] 80)) := (Below.refl _ _).alloc (by simp) _
  have b3 : Below (W.heap.size + 1 + 1) ((W.alloc (Obj.cells #[q1] 75)).alloc (Obj.cells #[q2] 80)) (((W.alloc (Obj.cells #[q1] 75)).alloc (Obj.cells #[q2] 80)).alloc (Obj.cells #[q3] 81)) := (Below.refl _ _).alloc (by simp) _
  have c1 := cell_of_one (heap_alloc_new W (Obj.cells #[q1] 75))
  have c2 := cell_of_one (heap_alloc_new (W.alloc (Obj.cells #[q1] 75)) (Obj.cells #[q2] 80))
  have c3 := cell_of_one (heap_alloc_new ((W.alloc (Obj.cells #[q1] 75)).alloc (Obj.cells #[q2] 80)) (Obj.cells #[q3] 81))
  simp only [World.size_alloc] at c2 c3
  have b : Below W.heap.size W (((W.alloc (Obj.cells #[q1] 75)).alloc (Obj.cells #[q2] 80)).alloc (Obj.cells #[q3] 81)) := b1.trans ((b2.mono (by omega)).trans (b3.mono (by omega)))
  have c1' := ((b2.trans (b3.mono (by omega))).cell (p := ⟨W.heap.size, 0, none⟩) (by simp)).trans c1
  have c2' := (b3.cell (p := ⟨W.heap.size + 1, 0, none⟩) (by simp)).trans c2
  refine ⟨_, rfl, ⟨by rw [c2', hq2], (b.cell (p := ⟨sb, 0, none⟩) hsb).trans hs, by rw [c1', hq1], by rw [c3, hq3], ?_⟩, b⟩
  obtain ⟨m0, m1, m2, m3, s0, s2, s3⟩ := hp
  exact ⟨(b.cell (p := ⟨g, 0, none⟩) hg).trans m0, (b.cell (p := ⟨g, 257, none⟩) hg).trans m1, (b.cell (p := ⟨g, 514, none⟩) hg).trans m2, (b.cell (p := ⟨g, 771, none⟩) hg).trans m3,
    (b.cell (p := ⟨g, 98, none⟩) hg).trans s0, (b.cell (p := ⟨g, 637, none⟩) hg).trans s2, (b.cell (p := ⟨g, 885, none⟩) hg).trans s3⟩

set_option maxRecDepth 100000 in
set_option maxHeartbeats 1000000 in
theorem glob_c (w : World) :
    Calls Try.prog 45 #[.string ⟨#[97, 42, 91, 120, 45, 122, 93, 63]⟩, .string ⟨#[97, 98, 99, 122, 113]⟩, .bool false] w fun e w' => e = .returned (.bool true) ∧ Below w.heap.size w w' := by
  go_enter Try.func45, Try.ntmps45
  go_wp2_with fail
  refine (parts_c _).mono ?_
  intro e w1 hp
  obtain ⟨g, c, rfl, hg, hb, hat⟩ := hp
  have hbox := (hb.cell (p := ⟨w.heap.size, 0, none⟩) (by simp)).trans (show (w.alloc (.cells #[.string ⟨#[97, 98, 99, 122, 113]⟩] 9)).cell? ⟨w.heap.size, 0, none⟩ = some (.string ⟨#[97, 98, 99, 122, 113]⟩) by simp)
  go_wp2_with fail
  have hgl := new_glob w1 w.heap.size g c (by have := hb.size; simp at this; omega) hbox hg hat
  obtain ⟨V, hV, hG, hbV⟩ := hgl
  rw [← hV]
  refine (walk_0 V _ _ _ _ g c hG).mono ?_
  rintro e w' ⟨rfl, hb'⟩
  clear hV hG
  have hb0 : Below w.heap.size w w1 := ((Below.refl _ w).alloc (Nat.le_refl _) (.cells #[.string ⟨#[97, 98, 99, 122, 113]⟩] 9)).trans (hb.mono (by simp))
  have hz1 := hb0.size
  have hz2 := hbV.size
  have hfin : Below w.heap.size w w' := hb0.trans ((hbV.mono hz1).trans (hb'.mono (by omega)))
  clear hb hb' hbV hbox hat hb0 hz1 hz2 hg
  go_wp2
  go_ret
  exact ⟨rfl, hfin⟩
end Go.Proofs.Ytkohpijpipcajaa
