import Derived.Test.YtocdabmfcbmpaaaDoorCW7a
import Derived.Test.YtocdabmfcbmpaaaDoorCW7b
import Derived.Test.YtocdabmfcbmpaaaDoorCW7c
import Derived.Test.YtocdabmfcbmpaaaDoorCW8a
import Derived.Test.YtocdabmfcbmpaaaDoorCW8b
import Derived.Test.YtocdabmfcbmpaaaDoorCW8c
import Derived.Test.YtocdabmfcbmpaaaDoorCW9
namespace Go.Proofs.YtocdabmfcbmpaaaDoor
open Go.RowKit
set_option linter.unusedVariables false
set_option linter.unusedSimpArgs false
/-! ### the reference: a letter, whatever it is -/
theorem lt_66 (t : Int) (w : World) (t0 : -62135596800 ≤ t) (t1 : t ≤ 253402300799) (hT : Tab w) : Calls Tryd.prog 62 #[I t, .int .u8 66] w fun e w' => e = .returned (.tuple #[.string (monthL.getD ((partG (fun y m d h mi s => m) t).toNat - 1) ⟨#[]⟩), .bool true]) ∧ Below w.heap.size w w' := by
  have hp := parts_bd t0 t1
  rcases (show (dMI (t / 86400) = 1 ∨ dMI (t / 86400) = 2 ∨ dMI (t / 86400) = 3 ∨ dMI (t / 86400) = 4) ∨ (dMI (t / 86400) = 5 ∨ dMI (t / 86400) = 6 ∨ dMI (t / 86400) = 7 ∨ dMI (t / 86400) = 8) ∨ (dMI (t / 86400) = 9 ∨ dMI (t / 86400) = 10 ∨ dMI (t / 86400) = 11 ∨ dMI (t / 86400) = 12) by omega) with h | h | h
  · exact lt_66a t w t0 t1 hT h
  · exact lt_66b t w t0 t1 hT h
  · exact lt_66c t w t0 t1 hT h
theorem lt_98 (t : Int) (w : World) (t0 : -62135596800 ≤ t) (t1 : t ≤ 253402300799) (hT : Tab w) : Calls Tryd.prog 62 #[I t, .int .u8 98] w fun e w' => e = .returned (.tuple #[.string ((monthL.map cut3).getD ((partG (fun y m d h mi s => m) t).toNat - 1) ⟨#[]⟩), .bool true]) ∧ Below w.heap.size w w' := by
  have hp := parts_bd t0 t1
  rcases (show (dMI (t / 86400) = 1 ∨ dMI (t / 86400) = 2 ∨ dMI (t / 86400) = 3 ∨ dMI (t / 86400) = 4) ∨ (dMI (t / 86400) = 5 ∨ dMI (t / 86400) = 6 ∨ dMI (t / 86400) = 7 ∨ dMI (t / 86400) = 8) ∨ (dMI (t / 86400) = 9 ∨ dMI (t / 86400) = 10 ∨ dMI (t / 86400) = 11 ∨ dMI (t / 86400) = 12) by omega) with h | h | h
  · exact lt_98a t w t0 t1 hT h
  · exact lt_98b t w t0 t1 hT h
  · exact lt_98c t w t0 t1 hT h

theorem letter_some {c : Nat} {f : Int → ByteArray} (h : letM.lookup c = some (some f)) (t : Int) (w : World) (t0 : -62135596800 ≤ t) (t1 : t ≤ 253402300799) (hT : Tab w) : Calls Tryd.prog 62 #[I t, .int .u8 c] w fun e w' => e = .returned (.tuple #[.string (f t), .bool true]) ∧ Below w.heap.size w w' := by
  have hm := lookup_mem (show (letM.lookup c).isSome = true by rw [h]; rfl)
  have hk : letM.map Prod.fst = [89, 121, 109, 100, 72, 77, 83, 73, 106, 117, 71, 86, 112, 66, 98, 65, 97, 101, 115] := rfl
  rw [hk] at hm
  simp only [List.mem_cons, List.not_mem_nil, or_false] at hm
  rcases hm with rfl | rfl | rfl | rfl | rfl | rfl | rfl | rfl | rfl | rfl | rfl | rfl | rfl | rfl | rfl | rfl | rfl | rfl | rfl
  · have e := Option.some.inj (Option.some.inj h)
    subst e
    exact lt_89 t w t0 t1 hT
  · have e := Option.some.inj (Option.some.inj h)
    subst e
    exact lt_121 t w t0 t1 hT
  · have e := Option.some.inj (Option.some.inj h)
    subst e
    exact lt_109 t w t0 t1 hT
  · have e := Option.some.inj (Option.some.inj h)
    subst e
    exact lt_100 t w t0 t1 hT
  · have e := Option.some.inj (Option.some.inj h)
    subst e
    exact lt_72 t w t0 t1 hT
  · have e := Option.some.inj (Option.some.inj h)
    subst e
    exact lt_77 t w t0 t1 hT
  · have e := Option.some.inj (Option.some.inj h)
    subst e
    exact lt_83 t w t0 t1 hT
  · have e := Option.some.inj (Option.some.inj h)
    subst e
    exact lt_73 t w t0 t1 hT
  · have e := Option.some.inj (Option.some.inj h)
    subst e
    exact lt_106 t w t0 t1 hT
  · have e := Option.some.inj (Option.some.inj h)
    subst e
    exact lt_117 t w t0 t1 hT
  · have e := Option.some.inj (Option.some.inj h)
    subst e
    exact lt_71 t w t0 t1 hT
  · have e := Option.some.inj (Option.some.inj h)
    subst e
    exact lt_86 t w t0 t1 hT
  · have e := Option.some.inj (Option.some.inj h)
    subst e
    exact lt_112 t w t0 t1 hT
  · have e := Option.some.inj (Option.some.inj h)
    subst e
    exact lt_66 t w t0 t1 hT
  · have e := Option.some.inj (Option.some.inj h)
    subst e
    exact lt_98 t w t0 t1 hT
  · have e := Option.some.inj (Option.some.inj h)
    subst e
    exact lt_65 t w t0 t1 hT
  · have e := Option.some.inj (Option.some.inj h)
    subst e
    exact lt_97 t w t0 t1 hT
  · have e := Option.some.inj (Option.some.inj h)
    subst e
    exact lt_101 t w t0 t1 hT
  · have e := Option.some.inj (Option.some.inj h)
    subst e
    exact lt_115 t w t0 t1 hT
theorem letter_none {c : Nat} (h : letL.lookup c = none) (h37 : c ≠ 37) (t : Int) (w : World) (t0 : -62135596800 ≤ t) (t1 : t ≤ 253402300799) (hT : Tab w) : Calls Tryd.prog 62 #[I t, .int .u8 c] w fun e w' => e = .returned (.tuple #[.string ⟨#[]⟩, .bool false]) ∧ Below w.heap.size w w' :=
  lt_no t c w t0 t1 hT (fun e => by rw [e] at h; exact Option.some_ne_none _ h) (fun e => by rw [e] at h; exact Option.some_ne_none _ h) (fun e => by rw [e] at h; exact Option.some_ne_none _ h) (fun e => by rw [e] at h; exact Option.some_ne_none _ h) (fun e => by rw [e] at h; exact Option.some_ne_none _ h) (fun e => by rw [e] at h; exact Option.some_ne_none _ h) (fun e => by rw [e] at h; exact Option.some_ne_none _ h) (fun e => by rw [e] at h; exact Option.some_ne_none _ h) (fun e => by rw [e] at h; exact Option.some_ne_none _ h) (fun e => by rw [e] at h; exact Option.some_ne_none _ h) (fun e => by rw [e] at h; exact Option.some_ne_none _ h) (fun e => by rw [e] at h; exact Option.some_ne_none _ h) (fun e => by rw [e] at h; exact Option.some_ne_none _ h) (fun e => by rw [e] at h; exact Option.some_ne_none _ h) (fun e => by rw [e] at h; exact Option.some_ne_none _ h) (fun e => by rw [e] at h; exact Option.some_ne_none _ h) (fun e => by rw [e] at h; exact Option.some_ne_none _ h) (fun e => by rw [e] at h; exact Option.some_ne_none _ h) (fun e => by rw [e] at h; exact Option.some_ne_none _ h) h37
end Go.Proofs.YtocdabmfcbmpaaaDoor
