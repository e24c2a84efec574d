/- The reference: Finite, Along, Cross, Unit. -/
import Derived.Test.YtgimkcbegalepaaVr
namespace Go.Proofs.Ytgimkcbegalepaa
open Go.RowKit Fl

set_option maxRecDepth 100000 in
set_option maxHeartbeats 1000000 in
theorem rfinite_any (ax ay az : Nat) (w : World) : Ret Try.prog 19 #[.agg #[.float .f64 ax, .float .f64 ay, .float .f64 az]] w (fun v => v = .bool (numB ax && numB ay && numB az)) := by
  unfold Ret
  have HX : Hid _ := rnumber_any ax
  have HY : Hid _ := rnumber_any ay
  have HZ : Hid _ := rnumber_any az
  generalize numB ax = p at HX ⊢
  generalize numB ay = q at HY ⊢
  generalize numB az = s at HZ ⊢
  cases p <;> cases q <;> cases s <;>
  · go_enter Try.func19, Try.ntmps19
    go_wp2_with fail
    refine Calls.mono (HX.out _) ?_
    rintro e w' ⟨rfl, n1, rfl⟩
    go_wp2_with fail
    try
      refine Calls.mono (HY.out _) ?_
      rintro e w' ⟨rfl, n2, rfl⟩
      go_wp2_with fail
    try
      refine Calls.mono (HZ.out _) ?_
      rintro e w' ⟨rfl, n3, rfl⟩
      go_wp2_with fail
    go_ret
    exact ⟨_, rfl, rfl, Cl.out1 (Cl.drewN (Below.refl _ _) _)⟩

end Go.Proofs.Ytgimkcbegalepaa
