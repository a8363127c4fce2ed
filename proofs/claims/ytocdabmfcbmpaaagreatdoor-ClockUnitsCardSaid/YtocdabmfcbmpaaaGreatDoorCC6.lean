import Derived.Test.YtocdabmfcbmpaaaGreatDoorCC5
import Derived.Maps.OwnOps
import Derived.MapKept
namespace Go.Proofs.YtocdabmfcbmpaaaGreatDoor
open Go.RowKit
set_option linter.unusedVariables false
set_option linter.unusedSimpArgs false

/-! ### a map of letters -/
/-- an element's form. -/
def Two (v : Value) : Prop := ∃ (k1 : FuncId) (c1 : Array Value) (k2 : FuncId) (c2 : Array Value), v = .agg #[Fv k1 c1, Fv k2 c2]
inductive Ents (m : Nat) (W : World) : List MapEntry → List (Nat × Option (Int → ByteArray)) → Prop
  | nil : Ents m W [] []
  | cons {e : MapEntry} {es : List MapEntry} {k : Nat} {wr : Option (Int → ByteArray)} {L : List (Nat × Option (Int → ByteArray))} : e.key = .int .u8 k → Two e.val → (∀ f, wr = some f → LetAt m W e.val f) → Ents m W es L → Ents m W (e :: es) ((k, wr) :: L)
theorem Ents.keep {m : Nat} {W W' : World} {es : List MapEntry} {L : List (Nat × Option (Int → ByteArray))} (h : Ents m W es L) (hk : Keep m W W') : Ents m W' es L := by
  induction h with
  | nil => exact .nil
  | cons h1 h2 h3 _ ih => exact .cons h1 h2 (fun f hf => (h3 f hf).keep hk) ih
theorem Ents.snoc {m : Nat} {W : World} {es : List MapEntry} {L : List (Nat × Option (Int → ByteArray))} (h : Ents m W es L) {e : MapEntry} {k : Nat} {wr : Option (Int → ByteArray)} (h1 : e.key = .int .u8 k) (h2 : Two e.val) (h3 : ∀ f, wr = some f → LetAt m W e.val f) : Ents m W (es ++ [e]) (L ++ [(k, wr)]) := by
  induction h with
  | nil => exact .cons h1 h2 h3 .nil
  | cons g1 g2 g3 _ ih => exact .cons g1 g2 g3 ih
theorem sameNow_u8 (a b : Nat) : Instr.sameNow (.int .u8) (.int .u8 a) (.int .u8 b) = some (a == b) := by
  simp only [Instr.sameNow, if_true]
  congr 1
  rw [Bool.eq_iff_iff, beq_iff_eq, beq_iff_eq]
  exact Int.ofNat_inj
theorem Ents.find {m : Nat} {W : World} {es : List MapEntry} {L : List (Nat × Option (Int → ByteArray))} (h : Ents m W es L) (c : Nat) : ∀ n,
    (L.lookup c = none → Instr.findNow (.int .u8) (.int .u8 c) es n = some none) ∧
    (∀ wr, L.lookup c = some wr → ∃ i v, Instr.findNow (.int .u8) (.int .u8 c) es n = some (some (i, v)) ∧ Two v ∧ ∀ f, wr = some f → LetAt m W v f) := by
  induction h with
  | nil => intro n; exact ⟨fun _ => rfl, fun wr h => by simp at h⟩
  | @cons e es k wr L h1 h2 h3 _ ih =>
    intro n
    by_cases hc : c = k
    · subst hc
      have e1 : Instr.findNow (.int .u8) (.int .u8 c) (e :: es) n = some (some (n, e.val)) := by
        rw [Instr.findNow, h1, sameNow_u8, beq_self_eq_true]
      refine ⟨fun h => by simp [List.lookup_cons] at h, fun wr' h => ?_⟩
      simp [List.lookup_cons] at h
      subst h
      exact ⟨n, e.val, e1, h2, h3⟩
    · have hb : (c == k) = false := by simpa using hc
      have e1 : Instr.findNow (.int .u8) (.int .u8 c) (e :: es) n = Instr.findNow (.int .u8) (.int .u8 c) es (n + 1) := by
        rw [Instr.findNow, h1, sameNow_u8, hb]
      rw [e1, List.lookup_cons, hb]
      exact ih (n + 1)
/-- a world with another map in a block. -/
def putMap (W : World) (m : Nat) (o : Obj) : World := { W with heap := W.heap.setIfInBounds m o }
/-- the map of letters. -/
def MapL (W : World) (m : Nat) (L : List (Nat × Option (Int → ByteArray))) : Prop := ∃ es clk, W.heap[m]? = some (.map es clk) ∧ Ents m W es.toList L
theorem MapL.after {W W' : World} {m : Nat} {L : List (Nat × Option (Int → ByteArray))} (h : MapL W m L) (hb : Below W.heap.size W W') : MapL W' m L := by
  obtain ⟨es, clk, h1, h2⟩ := h
  have hlt : m < W.heap.size := (Array.getElem?_eq_some_iff.1 h1).1
  exact ⟨es, clk, (hb.block m hlt).trans h1, h2.keep (Below.keep hb)⟩
theorem keep_putMap {W : World} {m : Nat} {o : Obj} : Keep m W (putMap W m o) := ⟨by simp [putMap], fun b _ hb => by simp [putMap, Ne.symm hb]⟩
theorem run_insert {W : World} {m : Nat} {L : List (Nat × Option (Int → ByteArray))} {es : Array MapEntry} {clk k : Nat} (h1 : W.heap[m]? = some (.map es clk)) (h2 : Ents m W es.toList L) (hk : L.lookup k = none) (v : Value) :
    (Instr.mapUpdate 56 (.map (some m)) (.int .u8 k) v).run Tryz.prog W = .ok () (putMap W m (.map (es.push ⟨.int .u8 k, v, clk⟩) (clk + 1))) := by
  have hf := (h2.find k 0).1 hk
  have hu : Tryz.prog.underlying 5 = some (.int .u8) := Tryz.underlying5
  simp [Instr.mapUpdate, run_underlying Tryz.underlying56, MapKept.run_getObj_map h1, MapKept.run_checkKey hu (show MapKept.IsKey (.int .u8) (.int .u8 k) from rfl), MapKept.run_findKey hu hf, MapKept.run_setObj_map _ h1, Result.andThen, putMap]
/-- a key that is new. -/
theorem wpList_insert {ops : Array Oper} {rest : List Oper} {o : Oper} {a : Act} {Q : Exit → Act → World → Prop} {W : World} (hg : o.guard = none) (x y z : Operand) (hop : o.op = Op.insert 56 x y z)
    (m : Nat) (L : List (Nat × Option (Int → ByteArray))) (h : MapL W m L) (k : Nat) (v : Value) (hm : a.eval x = .map (some m)) (hy : a.eval y = .int .u8 k) (hz : a.eval z = v) (hk : L.lookup k = none)
    (h2 : Two v) (wr : Option (Int → ByteArray)) (h3 : ∀ f, wr = some f → LetAt m W v f)
    (hK : ∀ W', MapL W' m (L ++ [(k, wr)]) → Keep m W W' → Below m W W' → wpList Tryz.prog ops Q rest (a.put o.dst undef) W') : wpList Tryz.prog ops Q (o :: rest) a W := by
  obtain ⟨es, clk, g1, g2⟩ := h
  refine wpList_plain hg fun K' hK' => ?_
  have hrun := run_insert g1 g2 hk v
  have hlt : m < W.heap.size := (Array.getElem?_eq_some_iff.1 g1).1
  unfold Oper.wp
  simp [execOp, hop, hm, hy, hz, hrun, Result.andThen]
  refine hK' _ _ (hK _ ⟨es.push ⟨.int .u8 k, v, clk⟩, clk + 1, by simp [putMap, hlt], ?_⟩ keep_putMap ⟨rfl, rfl, rfl, by simp [putMap], fun b hb => by simp [putMap, Nat.ne_of_gt hb]⟩)
  rw [Array.toList_push]
  exact (g2.keep keep_putMap).snoc rfl h2 fun f hf => (h3 f hf).keep keep_putMap
theorem zero77 (W : World) : (zeroValue 72).run Tryz.prog W = .ok (.agg #[.nilFunc, .nilFunc]) W := Tryz.zeroValue72 W
/-- a letter that is asked for. -/
theorem run_look {W : World} {m : Nat} {L : List (Nat × Option (Int → ByteArray))} (h : MapL W m L) (c : Nat) (ok : Bool) :
    (L.lookup c = none → (Instr.lookup 56 (.map (some m)) (.int .u8 c) true).run Tryz.prog W = .ok (.tuple #[.agg #[.nilFunc, .nilFunc], .bool false]) W) ∧
    (∀ wr, L.lookup c = some wr → ∃ v, Two v ∧ (∀ f, wr = some f → LetAt m W v f) ∧ (Instr.lookup 56 (.map (some m)) (.int .u8 c) ok).run Tryz.prog W = .ok (if ok then .tuple #[v, .bool true] else v) W) := by
  obtain ⟨es, clk, g1, g2⟩ := h
  have hu : Tryz.prog.underlying 5 = some (.int .u8) := Tryz.underlying5
  constructor
  · intro hc
    have hf := (g2.find c 0).1 hc
    simp [Instr.lookup, run_underlying Tryz.underlying56, MapKept.run_getObj_map g1, MapKept.run_checkKey hu (show MapKept.IsKey (.int .u8) (.int .u8 c) from rfl), MapKept.run_findKey hu hf, Result.andThen, zero77]
  · intro wr hc
    obtain ⟨i, v, hf, h2, h3⟩ := (g2.find c 0).2 wr hc
    refine ⟨v, h2, h3, ?_⟩
    cases ok <;> simp [Instr.lookup, run_underlying Tryz.underlying56, MapKept.run_getObj_map g1, MapKept.run_checkKey hu (show MapKept.IsKey (.int .u8) (.int .u8 c) from rfl), MapKept.run_findKey hu hf, Result.andThen]
end Go.Proofs.YtocdabmfcbmpaaaGreatDoor
