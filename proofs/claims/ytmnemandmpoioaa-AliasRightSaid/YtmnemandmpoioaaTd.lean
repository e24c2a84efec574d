/- Package tape: Need. -/
import Derived.Test.YtmnemandmpoioaaRows
import Derived.Test.YtmnemandmpoioaaTc
namespace Go.Proofs.Ytmnemandmpoioaa
open Go.RowKit Fl

theorem al_below {W w : World} (h : Below W.heap.size W w) (o : Obj) : Below W.heap.size W (w.alloc o) := Below.alloc h h.size o
theorem div_lt {e s : Int} (he : 1 ≤ e) : 4194304 / e < s ↔ 4194304 < e * s := by
  rw [Int.ediv_lt_iff_lt_mul (by omega), Int.mul_comm]
theorem pos_mul {a b : Int} (ha : 1 ≤ a) (hb : 1 ≤ b) : 1 ≤ a * b := by
  have := Int.mul_le_mul ha hb (by omega) (by omega)
  omega

end Go.Proofs.Ytmnemandmpoioaa