import Derived.Test.YtkpoegdcmnjedaaDoorMC1
namespace Go.Proofs.YtkpoegdcmnjedaaDoor
open Go.RowKit Go.Shelf
set_option linter.unusedVariables false
set_option linter.unusedSimpArgs false
attribute [local go_sem] Oper.semAt_some

/-- digits that lie in memory. -/
def Rd (W : World) (g off : Nat) (ao : Option Addr) (l : List Nat) : Prop :=
  (l ≠ [] → ao = some ⟨g, off, none⟩ ∧ g < W.heap.size) ∧ ∀ i, i < l.length → W.cell? ⟨g, off + i, none⟩ = some (.int .u32 (dg l i : Int))
theorem M.rd {B : Nat} {W : World} {ao : Option Addr} {n cap : Nat} {l : List Nat} (h : M B W (.slice ao n cap) l) : ∃ g, Rd W g 0 ao l := by
  by_cases e : l = []
  · subst e; exact ⟨0, fun h => absurd rfl h, fun i hi => by simp at hi⟩
  · have hp : 0 < l.length := List.length_pos_iff.2 e
    obtain ⟨g, rfl, _, h2⟩ := h.block (by rw [h.len]; exact hp)
    exact ⟨g, fun _ => ⟨rfl, h2⟩, fun i hi => by rw [Nat.zero_add]; exact h.cell hi⟩
def KpB (bs : List Nat) (A B : World) : Prop := ∀ b ∈ bs, B.heap[b]? = A.heap[b]?
theorem KpB.trans {bs : List Nat} {A B C : World} (h : KpB bs A B) (k : KpB bs B C) : KpB bs A C := fun b hb => (k b hb).trans (h b hb)
theorem Rd.keep {W V : World} {g off : Nat} {ao : Option Addr} {l : List Nat} (h : Rd W g off ao l) (hk : l ≠ [] → V.heap[g]? = W.heap[g]?) {k : Nat} (hlt : k < l.length) :
    ∃ g' off' , ao = some ⟨g', off', none⟩ ∧ V.cell? ⟨g', off' + k, none⟩ = some (.int .u32 (dg l k : Int)) := by
  have hne : l ≠ [] := by intro e; subst e; simp at hlt
  obtain ⟨e, _⟩ := h.1 hne
  exact ⟨g, off, e, (World.cell?_of_block (a := ⟨g, off + k, none⟩) (hk hne)).trans (h.2 k hlt)⟩

theorem pairs_stops (n : Nat) (hn : 1 ≤ n) (Ba Bb ga oa gb ob : Nat) (aa ab : Option Addr) (ca cb : Nat) (l m : List Nat) (hl : Dig B32 l) (hm : Dig B32 m) (hla : l.length ≤ 1000000) (hlb : m.length ≤ 1000000) (w : World)
    (hBa : Ba < w.heap.size) (hBb : Bb < w.heap.size) (ba : w.cell? ⟨Ba, 0, none⟩ = some (.slice aa l.length ca)) (bb : w.cell? ⟨Bb, 0, none⟩ = some (.slice ab m.length cb)) (ra : Rd w ga oa aa l) (rb : Rd w gb ob ab m)
    (bs : List Nat) (hbs : Ba ∈ bs ∧ Bb ∈ bs ∧ (l ≠ [] → ga ∈ bs) ∧ (m ≠ [] → gb ∈ bs)) :
    SeqStopsK Fence.wide n Tryd.prog 142 #[.pointer (some ⟨Ba, 0, none⟩), .pointer (some ⟨Bb, 0, none⟩)] encP (KpB bs) (fun xs => xs = pairsF l m hl hm) (fun _ => True) (max l.length m.length) w := fun lp J Jx W hW hJ hJx hY h0 => by
  refine (pairs_core n hn Ba Bb aa ab ca cb l m hl hm hla hlb lp (fun pre V => J pre V ∧ KpB bs W V) Jx W ?_ ?_ ⟨h0, fun _ _ => rfl⟩).mono ?_
  · rintro pre x W1 ⟨hj, hk⟩ hlt
    refine (hY pre x W1 hj hlt).mono ?_
    rintro e W2 (⟨rfl, h1, h2⟩ | ⟨rfl, h1⟩)
    · exact Or.inl ⟨rfl, h1, hk.trans h2⟩
    · exact Or.inr ⟨rfl, h1⟩
  · rintro pre W1 ⟨hj, hk⟩ hle
    have hb : ∀ b ∈ bs, b < w.heap.size → W1.heap[b]? = w.heap[b]? := fun b hb hlt => (hk b hb).trans (hW.block b hlt)
    refine ⟨?_, ?_, ?_, ?_⟩
    · exact (World.cell?_of_block (a := ⟨Ba, 0, none⟩) (hb Ba hbs.1 hBa)).trans ba
    · exact (World.cell?_of_block (a := ⟨Bb, 0, none⟩) (hb Bb hbs.2.1 hBb)).trans bb
    · intro hlt
      obtain ⟨g, off, rfl, h⟩ := ra.keep (V := W1) (fun hne => hb ga (hbs.2.2.1 hne) (ra.1 hne).2) hlt
      exact ⟨g, off, ca, rfl, h⟩
    · intro hlt
      obtain ⟨g, off, rfl, h⟩ := rb.keep (V := W1) (fun hne => hb gb (hbs.2.2.2 hne) (rb.1 hne).2) hlt
      exact ⟨g, off, cb, rfl, h⟩
  · rintro e W2 ⟨h1, (⟨xs, rfl, h2, _⟩ | ⟨pre, h2⟩)⟩
    · exact ⟨h1, Or.inl ⟨_, rfl, h2⟩⟩
    · exact ⟨h1, Or.inr ⟨pre, trivial, h2⟩⟩

theorem pairs_any (aa ab : Option Addr) (na nb ca cb : Nat) (w : World) : Calls Tryd.prog 134 #[.slice aa na ca, .slice ab nb cb] w fun e w' => e = .returned (.func (.func 142) #[] #[.pointer (some ⟨w.heap.size, 0, none⟩), .pointer (some ⟨w.heap.size + 1, 0, none⟩)]) ∧ w' = (w.alloc (.cells #[.slice aa na ca] 44)).alloc (.cells #[.slice ab nb cb] 44) := by
  go_enter Tryd.func134, Tryd.ntmps134
  go_wp2
  go_ret
  exact ⟨rfl, rfl⟩
end Go.Proofs.YtkpoegdcmnjedaaDoor
