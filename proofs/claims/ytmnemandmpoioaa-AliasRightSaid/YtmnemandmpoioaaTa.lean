/- Package tape: whether all numbers are within. -/
import Derived.Deep.LoopGhost
import Derived.Test.YtmnemandmpoioaaRows
import Derived.Test.YtmnemandmpoioaaLq
namespace Go.Proofs.Ytmnemandmpoioaa
open Go.RowKit Fl

/-- All of them are from lo to hi. -/
def inB (lo hi : Int) (zs : List Int) : Bool := zs.all fun z => decide (lo ≤ z) && decide (z ≤ hi)

theorem inB_step {lo hi : Int} {zs : List Int} {k : Nat} (h : inB lo hi (zs.take k) = true) (hk : k < zs.length) (h1 : lo ≤ zs[k]) (h2 : zs[k] ≤ hi) : inB lo hi (zs.take (k + 1)) = true := by
  unfold inB at *
  rw [List.take_add_one, List.all_append, h, List.getElem?_eq_getElem hk]
  simp [h1, h2]
theorem inB_off {lo hi : Int} {zs : List Int} {k : Nat} (hk : k < zs.length) (h : zs[k] < lo ∨ hi < zs[k]) : inB lo hi zs = false := by
  unfold inB
  rw [List.all_eq_false]
  refine ⟨zs[k], List.getElem_mem hk, ?_⟩
  simp
  omega

end Go.Proofs.Ytmnemandmpoioaa