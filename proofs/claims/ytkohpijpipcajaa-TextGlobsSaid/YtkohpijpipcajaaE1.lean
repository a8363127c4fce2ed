import Derived.Test.YtkohpijpipcajaaC1
import Derived.Test.YtkohpijpipcajaaShelf
import Derived.Laws.Rows
import Derived.OneCell
namespace Go.Proofs.Ytkohpijpipcajaa
open Go.RowKit
set_option linter.unusedVariables false
set_option linter.unusedSimpArgs false

theorem zc79 : Try.zeroCells79 = Array.replicate 257 (.bool false) := by kernel_rfl
theorem info79 : (Try.prog.info? 79).map (·.size) = some 257 := by kernel_rfl

set_option maxRecDepth 100000 in
theorem put_c (g f c : Nat) (v : Value) (w : World) (hc : c ≤ 255) (h1 : w.cell? ⟨g, 1 + c, none⟩ = some v) (h2 : w.frozen? ⟨g, 1 + c, none⟩ = false) (h3 : w.cell? ⟨f, 0, none⟩ = some (.bool false))
    (hne : g ≠ f) :
    Calls Try.prog 89 #[.int .u8 c, .pointer (some ⟨g, 0, none⟩), .pointer (some ⟨f, 0, none⟩)] w fun e w' => e = .returned (.tuple #[]) ∧ w' = w.setCell ⟨g, 1 + c, none⟩ (.bool true) := by
  go_enter Try.func89, Try.ntmps89
  go_wp2
  go_end0
  exact ⟨rfl, rfl⟩
end Go.Proofs.Ytkohpijpipcajaa
