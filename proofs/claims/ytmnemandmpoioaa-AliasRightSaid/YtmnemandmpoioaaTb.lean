/- Package tape: how many slots; the reference's. -/
import Derived.Test.YtmnemandmpoioaaTa
namespace Go.Proofs.Ytmnemandmpoioaa
open Go.RowKit Fl

/-- How many slots a path has. -/
def slotsF (d : Int) : Int := if 0 ≤ d ∧ d ≤ 64 then 12 + 8 * d else 0
theorem slots_on {d : Int} (h : 0 ≤ d ∧ d ≤ 64) : slotsF d = 12 + 8 * d := if_pos h
theorem slots_off {d : Int} (h : ¬(0 ≤ d ∧ d ≤ 64)) : slotsF d = 0 := if_neg h
theorem slots_bound (d : Int) : 0 ≤ slotsF d ∧ slotsF d ≤ 524 := by unfold slotsF; split <;> omega
theorem slots_zero (d : Int) : slotsF d = 0 ↔ ¬(0 ≤ d ∧ d ≤ 64) := by
  unfold slotsF
  split <;> omega

end Go.Proofs.Ytmnemandmpoioaa