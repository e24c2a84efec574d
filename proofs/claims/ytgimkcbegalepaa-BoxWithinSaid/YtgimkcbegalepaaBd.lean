/- The empty boxes. -/
import Derived.Test.YtgimkcbegalepaaRows
import Derived.Test.YtgimkcbegalepaaBb
import Derived.Test.YtgimkcbegalepaaLp
namespace Go.Proofs.Ytgimkcbegalepaa
open Go.RowKit Fl

@[go_sem] theorem run_neg_float {P : Program} (w : World) (b : Nat) : (Op.unary .neg (.float .f64 b)).run P w = .ok (.float .f64 (Op.negFloat .f64 b)) w := rfl

@[go_sem] theorem neg_pinf : Op.negFloat .f64 pinf = ninf := by decide +kernel

set_option maxRecDepth 100000 in
set_option maxHeartbeats 1000000 in
theorem empty_any (w : World) : Ret Try.prog 9 #[] w (fun v => v = .agg #[.float .f64 pinf, .float .f64 pinf, .float .f64 pinf, .float .f64 ninf, .float .f64 ninf, .float .f64 ninf]) := by
  unfold Ret
  go_enter Try.func9, Try.ntmps9
  go_wp2_with fail
  refine Calls.mono (inf_pos _) ?_
  rintro e w' ⟨rfl, hw⟩
  obtain rfl := hw.symm
  go_wp2_with fail
  refine bodyPost_ret (v := .agg #[.float .f64 pinf, .float .f64 pinf, .float .f64 pinf, .float .f64 ninf, .float .f64 ninf, .float .f64 ninf]) (by simp [results, go_sem]) rfl ⟨_, rfl, rfl, ?_⟩
  exact (Below.refl _ _).alloc (Nat.le_refl _) _

set_option maxRecDepth 100000 in
set_option maxHeartbeats 1000000 in
theorem rempty_any (w : World) : Ret Try.prog 10 #[] w (fun v => v = .agg #[.float .f64 pinf, .float .f64 pinf, .float .f64 pinf, .float .f64 ninf, .float .f64 ninf, .float .f64 ninf]) := by
  unfold Ret
  go_enter Try.func10, Try.ntmps10
  go_wp2_with fail
  refine Calls.mono (inf_pos _) ?_
  rintro e w' ⟨rfl, hw⟩
  obtain rfl := hw.symm
  go_wp2_with fail
  refine Calls.mono (inf_neg _) ?_
  rintro e w' ⟨rfl, hw⟩
  obtain rfl := hw.symm
  go_wp2_with fail
  refine bodyPost_ret (v := .agg #[.float .f64 pinf, .float .f64 pinf, .float .f64 pinf, .float .f64 ninf, .float .f64 ninf, .float .f64 ninf]) (by simp [results, go_sem]) rfl ⟨_, rfl, rfl, ?_⟩
  exact (Below.refl _ _).alloc (Nat.le_refl _) _

end Go.Proofs.Ytgimkcbegalepaa
