import Derived.Test.YtocdabmfcbmpaaaGreatDoorCC7
import Derived.Test.YtocdabmfcbmpaaaGreatDoorCE2
namespace Go.Proofs.YtocdabmfcbmpaaaGreatDoor
open Go.RowKit
set_option linter.unusedVariables false
set_option linter.unusedSimpArgs false

abbrev D6 (a0 a1 a2 a3 a4 a5 : Int) : Value := .agg #[I a0, I a1, I a2, I a3, I a4, I a5]
abbrev inT' (t : Int) : Bool := inB t (-62135596800) 253402300799
theorem year_of {t : Int} (h0 : -62135596800 ≤ t) (h1 : t ≤ 253402300799) : vdP (dYI (t / 86400)) (dMI (t / 86400)) (dDI (t / 86400)) (t % 86400 / 3600) (t % 86400 / 60 % 60) (t % 86400 % 60) := by
  have := parts_bd h0 h1
  exact ⟨this.1, dt_date _, this.2.2.2.1, this.2.2.2.2.1, this.2.2.2.2.2⟩
theorem tm_of (t : Int) : tmI (dYI (t / 86400)) (dMI (t / 86400)) (dDI (t / 86400)) (t % 86400 / 3600) (t % 86400 / 60 % 60) (t % 86400 % 60) = t := by
  unfold tmI
  rw [dn_date]
  omega
theorem tm_in {y m d h mi s : Int} (hv : vdP y m d h mi s) : inB (tmI y m d h mi s) (-62135596800) 253402300799 = true := by
  have hn := nu_bd hv.1 hv.2.1
  have := dn_nu (d := d) (y := y) hv.2.1.1 hv.2.1.2.1
  obtain ⟨_, _, h3, h4, h5⟩ := hv
  refine inB_yes ?_ ?_ <;> unfold tmI <;> omega
end Go.Proofs.YtocdabmfcbmpaaaGreatDoor
