/-
  TextMaps returns true for all texts, pairs and foldings, and leaves its arguments alone. No condition.
-/
import Derived.Test.YtkohpijpipcajaaJ1
import Derived.Test.YtkohpijpipcajaaAA2
import Derived.SliceStrings
import Derived.Carry
namespace Go.Proofs.Ytkohpijpipcajaa
open Go.ChangeShapes Go.WideShapes Go.ChangeAt Go.RowKit
open Go.ChangeMaps (open_string shut_string)
set_option linter.unusedVariables false
set_option linter.unusedSimpArgs false

theorem cellsOf9 : Try.prog.cellsOf 9 = 1 := by kernel_rfl
theorem laidOut : laidOutB Try.prog = true := by kernel_rfl

theorem textMaps_any (ps : List ByteArray) (f : Bool) (s : ByteArray) (ao : Option Addr) (cap : Nat) (w : World) (hs0 : s.size ≤ 9223372036854775807) (hn : ps.length ≤ 9223372036854775807) (hz : ∀ x ∈ ps, x.size ≤ 9223372036854775807) (hp : TextsAt ps ao w) :
    Calls Try.prog 6 #[.string s, .slice ao ps.length cap, .bool f] w fun e w' => e = .returned (.bool true) ∧ Below w.heap.size w w' := by
  by_cases h : 400 < s.size ∨ 20 < ps.length ∨ anyLong ps = true
  · exact textMaps_far ps f s ao cap w hs0 hn hz hp h
  · have h1 : ¬ 400 < s.size := fun x => h (Or.inl x)
    have h2 : ¬ 20 < ps.length := fun x => h (Or.inr (Or.inl x))
    have h3 : anyLong ps = false := by
      cases e : anyLong ps with
      | false => rfl
      | true => exact absurd (Or.inr (Or.inr e)) h
    exact textMaps_near ps f s ao cap w (by omega) (by omega) hz hp h3

set_option maxRecDepth 100000 in
theorem textMaps_lifted (os : Os) (started : os.Started) (H : Type) (enc : TypeId × Value → H) :
    ReturnsInHanded {} Try.checked os 6 .any (Rows.textMapsSpec.pre6 enc Try.prog Try.f6 Rows.textMapsRow.domain false) (Rows.textMapsSpec.post enc Try.prog Try.f6 false true false false) := by
  refine returnsInHanded_of_change (C := Try.checked) own started (by kernel_rfl) Try.func6
    (ChangeSpec.witness6 (enc := enc) (C := Try.checked) false ⟨#[], #[.string ⟨#[]⟩, .slice none 0 0, .bool false], []⟩ 8 (by kernel_rfl) (by kernel_rfl) (by kernel_rfl) (by kernel_rfl)) ?_
  intro W base args ds gs before hval0 hW _ _
  have hval : ∀ (j : Nat) t v, Try.f6.params[j]? = some t → args[j]? = some v → Value.okWide Try.prog W .any base t v := hval0
  have hW' := hW
  obtain ⟨p, q, hA0, hV, rfl, hfz, hnd⟩ := hW
  have hA : DataW.TrodAll enc Try.prog W 0 (fun _ => true) true Try.f6.params.toList args.toList ds p := hA0
  rw [Try.params6] at hA hval
  obtain ⟨v0, vs0, d0, ds0, p0, q0, hargs, rfl, rfl, h0, r0⟩ := trodAll_cons hA
  obtain ⟨v1, vs1, d1, ds1, p1, q1, rfl, rfl, rfl, h1, r1⟩ := trodAll_cons r0
  obtain ⟨v2, vs2, d2, ds2, p2, q2, rfl, rfl, rfl, h2, r2⟩ := trodAll_cons r1
  obtain ⟨rfl, rfl, rfl⟩ := trodAll_nil r2
  obtain rfl : args = #[v0, v1, v2] := by cases args; simp_all
  obtain ⟨rfl, rfl⟩ := trodVars_none hV
  obtain ⟨s, rfl, rfl, rfl, ws⟩ := open_string Try.underlying9 (hval 0 9 v0 rfl rfl) h0
  obtain ⟨f, rfl, rfl, rfl⟩ := open_bool Try.underlying4 (hval 2 4 v2 rfl rfl) h2
  obtain ⟨a0, len, cap, rfl⟩ := okWide_slice Try.underlying42 (hval 1 42 v1 rfl rfl)
  have h1k := h1
  obtain ⟨fuel, hf⟩ := h1
  clear hA0 hval0
  have hW0 := hW'
  simp only [List.append_nil, List.nil_append] at hW'
  have hlt : ∀ x ∈ p1, x.block < W.heap.size := fun x hx => by simpa using hW'.lt x hx
  unfold maxLen at ws
  have hcall : Calls Try.prog 6 #[.string s, .slice a0 len cap, .bool f] W fun e w' => e = .returned (.bool true) ∧ Below W.heap.size W w' := by
    rcases open_strings Try.underlying42 Try.underlying9 cellsOf9 hf with ⟨hcs, hx⟩ | ⟨a, len', cap', ss, hcs, _, hl, hm, hz, hx, hcell, hsz⟩
    · simp only [Value.cells, List.cons.injEq, Value.slice.injEq, and_true] at hcs
      obtain ⟨rfl, rfl, rfl⟩ := hcs
      exact textMaps_any [] f s none 0 W ws (by simp) (fun x hx => by simp at hx) (fun i hi => by simp at hi)
    · simp only [Value.cells, List.cons.injEq, Value.slice.injEq, and_true] at hcs
      obtain ⟨rfl, rfl, rfl⟩ := hcs
      have hle : len ≤ ss.length := by rw [hz]; simp; exact hl
      have hlen : (ss.take len).length = len := by rw [List.length_take]; omega
      unfold maxLen at hm
      have := textMaps_any (ss.take len) f s (some a) cap W ws (by omega) (fun x hx => by have := hsz x (List.mem_of_mem_take hx); unfold maxLen at this; exact this) (fun i hi => ⟨a, rfl, by
        rw [hlen] at hi
        rw [hcell i (by omega)]
        rw [List.getD_eq_getElem?_getD, List.getD_eq_getElem?_getD, List.getElem?_take, if_pos hi]⟩)
      rw [hlen] at this
      exact this
  refine hcall.mono fun e W' ⟨he, hB⟩ => ?_
  subst he
  refine ⟨_, rfl, _, _, _, [], [] ++ (p1 ++ ([] ++ [])), [], hW0, ?_, ?_, rfl, hB.frame _, fun h => by cases h⟩
  · exact trodAll_mk1 (shut_bool Try.underlying4 true)
  · exact trodAll_cons_mk (shut_string Try.underlying9 ws) (trodAll_cons_mk (Below.trod laidOut (by kernel_rfl) (of_decide_eq_true (by kernel_rfl)) h1k hB hlt) (trodAll_cons_mk (shut_bool Try.underlying4 f) trodAll_mk0))

set_option maxRecDepth 100000 in
theorem textMaps_holds : Rows.TextMapsSaid :=
  OpenClaim.holds_of_wide 6 Try.f6 rfl rfl rfl rfl rfl rfl rfl ⟨rfl, rfl, rfl, rfl, rfl⟩ rfl rfl rfl rfl rfl (by kernel_rfl) Try.func6 (by kernel_rfl)
    (of_decide_eq_true (by kernel_rfl)) (by unfold Func.isWrapper; first | (rw [if_pos (by decide +kernel)]; kernel_rfl) | (rw [if_neg (by decide +kernel)]; exact ⟨rfl, rfl⟩))
    (fun os started H enc _ => textMaps_lifted os started H enc)
end Go.Proofs.Ytkohpijpipcajaa
