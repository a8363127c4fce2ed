import Derived.Test.YtkohpijpipcajaaGM2
import Derived.Test.YtkohpijpipcajaaGA5
namespace Go.Proofs.Ytkohpijpipcajaa
open Go.RowKit
set_option linter.unusedVariables false
set_option linter.unusedSimpArgs false

theorem mt_none {L : List RP} {f : Bool} {s : ByteArray} {q : Nat} (h1 : takesAt L f q = fun _ => false) (h2 : manyAt L q = false) (hq : q < L.length) {k i : Nat} (h : Mt L f s k i) : k ≤ q → False := by
  induction h with
  | done => intro h; omega
  | @skip k i hm _ ih =>
    intro h
    by_cases e : k = q
    · subst e; rw [h2] at hm; cases hm
    · exact ih (by omega)
  | eat _ _ _ ih => exact ih
  | @one k i _ _ _ ht _ ih =>
    intro h
    by_cases e : k = q
    · subst e; rw [h1] at ht; cases ht
    · exact ih (by omega)
theorem mt_any_none {L : List RP} {f : Bool} {s : ByteArray} (h : L.any isNone = true) : ¬ Mt L f s 0 0 := by
  obtain ⟨r, hr, hn⟩ := List.any_eq_true.1 h
  obtain ⟨q, hq, rfl⟩ := List.mem_iff_getElem.1 hr
  have e : L[q] = .none := by
    cases hL : L[q] <;> rw [hL] at hn <;> first | rfl | cases hn
  intro hM
  refine mt_none (q := q) ?_ ?_ hq hM (Nat.zero_le _)
  · funext c; simp [takesAt, List.getElem?_eq_getElem hq, e, setOf]
  · simp [manyAt, List.getElem?_eq_getElem hq, e, isMany]
theorem prs_length (p : ByteArray) : ∀ n i, (prs p n i).length ≤ n
  | 0, i => Nat.le_refl _
  | n + 1, i => by
    have h1 := prs_length p n (i + 1)
    have h2 := prs_length p n (i + 2)
    have h3 := prs_length p n (i + (clo p i).toNat + 1)
    rw [prs]
    repeat' split
    all_goals simp only [List.length_cons, List.length_nil]
    all_goals omega

/-- does a pattern match a text? -/
def GlobP (p : ByteArray) (f : Bool) (s : ByteArray) : Prop := Mt (prsL p) f s 0 0

theorem new_globG (W : World) (sb cap : Nat) (ao : Option Addr) (s : ByteArray) (L : List RP) (f : Bool) (hs : W.cell? ⟨sb, 0, none⟩ = some (.string s)) (hp : PAt L f ao W) :
    ∃ V, V = ((W.alloc (Obj.cells #[Value.slice ao L.length cap] 75)).alloc (Obj.cells #[Value.func (Fn.func 72) #[] #[Value.pointer (some { block := W.heap.size, off := 0 })]] 80)).alloc
        (Obj.cells #[Value.func (Fn.func 73) #[] #[.pointer (some ⟨W.heap.size + 1, 0, none⟩), .pointer (some ⟨sb, 0, none⟩), .pointer (some ⟨W.heap.size, 0, none⟩), .pointer (some ⟨W.heap.size + 1 + 1, 0, none⟩)]] 81) ∧
      GlobG (W.heap.size + 1) sb W.heap.size (W.heap.size + 1 + 1) s L f ao cap V ∧ Below W.heap.size W V := by
  generalize hq1 : Value.slice ao L.length cap = q1
  generalize hq2 : Value.func (Fn.func 72) #[] #[Value.pointer (some { block := W.heap.size, off := 0 })] = q2
  generalize hq3 : Value.func (Fn.func 73) #[] #[.pointer (some ⟨W.heap.size + 1, 0, none⟩), .pointer (some ⟨sb, 0, none⟩), .pointer (some ⟨W.heap.size, 0, none⟩), .pointer (some ⟨W.heap.size + 1 + 1, 0, none⟩)] = q3
  have b1 : Below W.heap.size W (W.alloc (Obj.cells #[q1] 75)) := (Below.refl _ _).alloc (Nat.le_refl _) _
  have b2 : Below (W.heap.size + 1) (W.alloc (Obj.cells #[q1] 75)) ((W.alloc (Obj.cells #[q1] 75)).alloc (Obj.cells #[q2] 80)) := (Below.refl _ _).alloc (by simp) _
  have b3 : Below (W.heap.size + 1 + 1) ((W.alloc (Obj.cells #[q1] 75)).alloc (Obj.cells #[q2] 80)) (((W.alloc (Obj.cells #[q1] 75)).alloc (Obj.cells #[q2] 80)).alloc (Obj.cells #[q3] 81)) := (Below.refl _ _).alloc (by simp) _
  have c1 := cell_of_one (heap_alloc_new W (Obj.cells #[q1] 75))
  have c2 := cell_of_one (heap_alloc_new (W.alloc (Obj.cells #[q1] 75)) (Obj.cells #[q2] 80))
  have c3 := cell_of_one (heap_alloc_new ((W.alloc (Obj.cells #[q1] 75)).alloc (Obj.cells #[q2] 80)) (Obj.cells #[q3] 81))
  simp only [World.size_alloc] at c2 c3
  have b : Below W.heap.size W (((W.alloc (Obj.cells #[q1] 75)).alloc (Obj.cells #[q2] 80)).alloc (Obj.cells #[q3] 81)) := b1.trans ((b2.mono (by omega)).trans (b3.mono (by omega)))
  have c1' := ((b2.trans (b3.mono (by omega))).cell (p := ⟨W.heap.size, 0, none⟩) (by simp)).trans c1
  have c2' := (b3.cell (p := ⟨W.heap.size + 1, 0, none⟩) (by simp)).trans c2
  exact ⟨_, rfl, ⟨by rw [c2', hq2], cell_later b hs, by rw [c1', hq1], by rw [c3, hq3], hp.below b⟩, b⟩

set_option maxRecDepth 100000 in
set_option maxHeartbeats 1000000 in
theorem glob_any (p s : ByteArray) (f : Bool) (w : World) (hp : p.size ≤ 200) (hs : s.size ≤ 1000) :
    Calls Try.prog 45 #[.string p, .string s, .bool f] w (WPost (GlobP p f s) w) := by
  have HPL := Lib.hid (prs_length p p.size 0)
  have e0 : (w.alloc (.cells #[.string s] 9)).cell? ⟨w.heap.size, 0, none⟩ = some (.string s) := by simp
  have b0 : Below w.heap.size w (w.alloc (.cells #[.string s] 9)) := (Below.refl _ _).alloc (Nat.le_refl _) _
  go_enter Try.func45, Try.ntmps45
  go_wp2_with fail
  generalize w.alloc (.cells #[.string s] 9) = W0 at e0 b0 ⊢
  have E0 := Lib.hid e0
  have B0 := Lib.hid b0
  clear e0 b0
  refine (parts_any p f _ hp).mono ?_
  rintro e w1 (⟨hn, rfl, hb⟩ | ⟨hn, ao, cap, rfl, hpat, hb⟩)
  · have HN := Lib.hid (mt_any_none (f := f) (s := s) hn)
    have HB := Lib.hid (B0.out.trans (hb.mono B0.out.size))
    clear hn hb
    go_wp2
    go_ret
    exact ⟨false, rfl, ⟨(fun h => by cases h), fun h => absurd h HN.out⟩, HB.out.alloc HB.out.size _⟩
  · have HB := Lib.hid (B0.out.trans (hb.mono B0.out.size))
    have hbox := Lib.hid (cell_later hb E0.out)
    have HPA := Lib.hid hpat
    have hlen : (prsL p).length ≤ 1000 := by have := HPL.out; unfold prsL; omega
    clear hn hb hpat
    generalize hL : prsL p = L at HPA hlen
    have HL := Lib.hid hL
    clear hL
    go_wp2_with fail
    obtain ⟨V, hV, hG, hbV⟩ := new_globG w1 w.heap.size cap ao s L f hbox.out HPA.out
    rw [← hV]
    refine (walk_any _ _ _ _ s L f ao cap hlen hs L.length 0 0 V (by omega) (Nat.zero_le _) (fun _ => rfl) (Nat.zero_le _) hG).mono ?_
    rintro e w3 ⟨b, rfl, hbb, hb3⟩
    have HBB := Lib.hid hbb
    have HF := Lib.hid (HB.out.trans ((hbV.mono HB.out.size).trans (hb3.mono (Nat.le_trans HB.out.size hbV.size))))
    clear hV hG hbV hbb hb3
    go_wp2
    go_ret
    refine ⟨b, rfl, HBB.out.trans ?_, HF.out⟩
    unfold GlobP WalkP
    rw [HL.out, if_pos rfl]
end Go.Proofs.Ytkohpijpipcajaa
