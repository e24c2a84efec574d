/- Package math, as far as it is called: IsNaN, Abs, IsInf, Sqrt; and vec.Number. -/
import Derived.Test.YtkcchnepllcghaaRows
import Derived.Test.YtkcchnepllcghaaVa
import Derived.Test.YtkcchnepllcghaaFm
namespace Go.Proofs.Ytkcchnepllcghaa
open Go.RowKit Fl

theorem ext45 (x : Nat) (w : World) : (callFunc 42 #[.float .f64 x]).run Try.prog w = (Extern.MathSqrt.sqrt #[.float .f64 x] >>= fun v => pure (Next.value v)).run Try.prog w := by kernel_rfl

set_option maxRecDepth 100000 in
set_option maxHeartbeats 400000 in
theorem sqrt_any (x : Nat) (w : World) : Ret Try.prog 34 #[.float .f64 x] w (isF (fsqrt x)) := by
  unfold Ret
  go_enter Try.func34, Try.ntmps34
  go_wp2_with fail
  obtain ⟨r, n, e, hr⟩ := run_sqrt (P := Try.prog) x w
  rw [ext45, Sem.run_bind, e]
  clear e
  go_wp2_with fail
  go_ret
  exact ⟨_, rfl, ⟨r, rfl, hr⟩, below_dr (Below.refl _ _) n⟩

theorem ord_nan_self (x : Nat) : (F64.order x x != some .eq) = isN x := by
  have := ford_self x
  unfold ford at this
  rw [bne, this, Bool.not_not]

end Go.Proofs.Ytkcchnepllcghaa