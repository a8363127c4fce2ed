import Derived.Test.YtocdabmfcbmpaaaDoorCards
import Derived.Test.YtocdabmfcbmpaaaDoorTie
import Derived.Deep.DeepHandedRow
import Derived.Lib.LaidTab
import Derived.WalkKit
import Derived.OpenShut
import Derived.ProofKit
import Derived.SevenTiedAt
import Derived.Stop.LaidErr
import Derived.Test.YtocdabmfcbmpaaaDoorSD1
namespace Go.Proofs.YtocdabmfcbmpaaaDoor
open Go.ChangeShapes Go.WideShapes Go.ChangeAt Go.RowKit
set_option linter.unusedVariables false
set_option linter.unusedSimpArgs false

theorem own : ownKnob Tryd.prog.godebug = none := by kernel_rfl
/-- the program's first world, its four tables as they are laid. -/
noncomputable def laidWorld (os : Os) : World :=
  let tab (cs : Array Value) : Obj → Obj := fun
    | .cells _ t frozen => .cells cs t frozen
    | o => o
  let ints (k : IntKind) (l : List Int) : Array Value := (l.map fun d => Value.int k d).toArray
  { World.holding Tryd.prog os ⟨#[], #[], []⟩ with heap := ((((World.holding Tryd.prog os ⟨#[], #[], []⟩).heap.modify 0 (tab (ints .i64 [1, 60, 3600, 86400, 604800]))).modify 1 (tab (ints .u64 [1, 10, 100, 1000, 10000, 100000, 1000000, 10000000, 100000000, 1000000000, 10000000000, 100000000000, 1000000000000, 10000000000000, 100000000000000, 1000000000000000, 10000000000000000, 100000000000000000, 1000000000000000000, 10000000000000000000]))).modify 3 (tab (ints .u8 [0, 1, 28, 2, 29, 14, 24, 3, 30, 22, 20, 15, 25, 17, 4, 8, 31, 27, 13, 23, 21, 19, 16, 7, 26, 12, 18, 6, 11, 5, 10, 9]))).modify 4 (tab (ints .u8 [0, 1, 56, 2, 57, 49, 28, 3, 61, 58, 42, 50, 38, 29, 17, 4, 62, 47, 59, 36, 45, 43, 51, 22, 53, 39, 33, 30, 24, 18, 12, 5, 63, 55, 48, 27, 60, 41, 37, 16, 46, 35, 44, 21, 52, 32, 23, 11, 54, 26, 40, 15, 34, 20, 31, 10, 25, 14, 19, 9, 13, 8, 7, 6])) }

theorem tab_of {W : World} {r : List (String × DataW Unit)} (h : laidMet Tryd.prog (("math/bits.deBruijn32tab", Rows.laid_math_bits_deBruijn32tab) :: ("math/bits.deBruijn64tab", Rows.laid_math_bits_deBruijn64tab) :: ("internal/strconv.uint64pow10", Rows.laid_internal_strconv_uint64pow10) :: r) W) : Tab W :=
  Lib.tabIs_of_head (g := 1) (t := 117) (e := 106) (n := 20) (k := .u64) (zs := Lib.pow10Tab) (rest := r) (by kernel_rfl) (by kernel_rfl) Tryd.underlying117 Tryd.underlying106 (by kernel_rfl) (by kernel_rfl) h.tail.tail

/-! ### a date as an argument -/
section
variable {H : Type} {enc : TypeId × Value → H} {w : World} {base : Nat} {sp : Nat → Bool} {held : Bool}
def dateD {H : Type} (a0 a1 a2 a3 a4 a5 : Int) : DataW H := .agg [.lit (.int .i64 a0), .lit (.int .i64 a1), .lit (.int .i64 a2), .lit (.int .i64 a3), .lit (.int .i64 a4), .lit (.int .i64 a5)]
def Fits (a : Int) : Prop := (Lit.int .i64 a).wf = true
theorem shut_date {a0 a1 a2 a3 a4 a5 : Int} (h0 : Fits a0) (h1 : Fits a1) (h2 : Fits a2) (h3 : Fits a3) (h4 : Fits a4) (h5 : Fits a5) : DataW.Trod enc Tryd.prog w base sp held 23 (D6 a0 a1 a2 a3 a4 a5) (dateD a0 a1 a2 a3 a4 a5) [] := by
  unfold Fits at *
  have c23 : Tryd.prog.cellsOf 23 = 6 := by kernel_rfl
  have c3 : Tryd.prog.cellsOf 3 = 1 := by kernel_rfl
  refine ⟨2, ?_⟩
  simp [DataW.trod, Value.cells, Tryd.underlying23, Tryd.underlying3, c23, c3, dateD, h0, h1, h2, h3, h4, h5]
theorem int_field {fuel : Nat} {c : Value} {x : DataW H × List MemPlace} (h : DataW.trod enc Tryd.prog w base sp held fuel 3 [c] = some x) : ∃ a : Int, c = I a ∧ x = (.lit (.int .i64 a), []) ∧ Fits a := by
  obtain ⟨a, hc, hx, hw⟩ := DataW.trod_int Tryd.underlying3 h
  exact ⟨a, by simpa using hc, hx, hw⟩
set_option maxRecDepth 20000 in
theorem open_date {r : Reach} {b0 : Nat} {v : Value} {d : DataW H} {p : List MemPlace} (hv : Value.okWide Tryd.prog w r b0 23 v) (h : DataW.Trod enc Tryd.prog w base sp held 23 v d p) :
    ∃ a0 a1 a2 a3 a4 a5 : Int, v = D6 a0 a1 a2 a3 a4 a5 ∧ d = dateD a0 a1 a2 a3 a4 a5 ∧ p = [] ∧ Fits a0 ∧ Fits a1 ∧ Fits a2 ∧ Fits a3 ∧ Fits a4 ∧ Fits a5 := by
  have c23 : Tryd.prog.cellsOf 23 = 6 := by kernel_rfl
  have c3 : Tryd.prog.cellsOf 3 = 1 := by kernel_rfl
  obtain ⟨cs, rfl, hsz⟩ := okWide_struct Tryd.underlying23 hv
  rw [c23] at hsz
  obtain ⟨l⟩ := cs
  obtain ⟨c0, c1, c2, c3', c4, c5, rfl⟩ : ∃ c0 c1 c2 c3 c4 c5, l = [c0, c1, c2, c3, c4, c5] := by
    match l, hsz with
    | [c0, c1, c2, c3, c4, c5], _ => exact ⟨_, _, _, _, _, _, rfl⟩
  obtain ⟨fuel, hf⟩ := h
  obtain ⟨xs, n, _, hx, _, hlen, hg⟩ := DataW.trod_struct Tryd.underlying23 hf
  have e0 := hg 0 _ rfl
  have e1 := hg 1 _ rfl
  have e2 := hg 2 _ rfl
  have e3 := hg 3 _ rfl
  have e4 := hg 4 _ rfl
  have e5 := hg 5 _ rfl
  simp only [c3, Value.cells, List.drop, List.take] at e0 e1 e2 e3 e4 e5
  obtain ⟨y0, y1, y2, y3, y4, y5, rfl⟩ : ∃ y0 y1 y2 y3 y4 y5, xs = [y0, y1, y2, y3, y4, y5] := by
    match xs, hlen with
    | [c0, c1, c2, c3, c4, c5], _ => exact ⟨_, _, _, _, _, _, rfl⟩
  obtain ⟨a0, rfl, rfl, g0⟩ := int_field e0
  obtain ⟨a1, rfl, rfl, g1⟩ := int_field e1
  obtain ⟨a2, rfl, rfl, g2⟩ := int_field e2
  obtain ⟨a3, rfl, rfl, g3⟩ := int_field e3
  obtain ⟨a4, rfl, rfl, g4⟩ := int_field e4
  obtain ⟨a5, rfl, rfl, g5⟩ := int_field e5
  simp only [Prod.mk.injEq] at hx
  exact ⟨a0, a1, a2, a3, a4, a5, rfl, hx.1, hx.2, g0, g1, g2, g3, g4, g5⟩
end
end Go.Proofs.YtocdabmfcbmpaaaDoor
