/- The parts of a vector that is a value. -/
import Derived.Test.YtgimkcbegalepaaRows
import Derived.Test.YtgimkcbegalepaaVa
namespace Go.Proofs.Ytgimkcbegalepaa
open Go.RowKit Fl

@[go_sem] theorem fld_0 (x y z : Nat) (w : World) : (Instr.field 24 (.agg #[.float .f64 x, .float .f64 y, .float .f64 z]) 0).run Try.prog w = .ok (.float .f64 x) w := by kernel_rfl

@[go_sem] theorem fld_1 (x y z : Nat) (w : World) : (Instr.field 24 (.agg #[.float .f64 x, .float .f64 y, .float .f64 z]) 1).run Try.prog w = .ok (.float .f64 y) w := by kernel_rfl

@[go_sem] theorem fld_2 (x y z : Nat) (w : World) : (Instr.field 24 (.agg #[.float .f64 x, .float .f64 y, .float .f64 z]) 2).run Try.prog w = .ok (.float .f64 z) w := by kernel_rfl

end Go.Proofs.Ytgimkcbegalepaa
