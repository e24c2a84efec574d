/- The functions that pairs and parts are given. -/
import Derived.Test.YtgimkcbegalepaaVb
import Derived.Test.YtgimkcbegalepaaVe
namespace Go.Proofs.Ytgimkcbegalepaa
open Go.RowKit Fl

set_option maxRecDepth 100000 in
set_option maxHeartbeats 1000000 in
theorem add1 (x y : Nat) (w : World) : Ret Try.prog 52 #[.float .f64 x, .float .f64 y] w (isF (fadd x y)) := by
  unfold Ret
  go_enter Try.func52, Try.ntmps52
  go_wp2_with fail
  refine upon_add (Sm.refl _) (Sm.refl _) ?_
  intro r n hr
  go_wp2_with fail
  go_ret
  exact ⟨_, rfl, ⟨r, rfl, hr⟩, below_dr (Below.refl _ _) n⟩

set_option maxRecDepth 100000 in
set_option maxHeartbeats 1000000 in
theorem sub1 (x y : Nat) (w : World) : Ret Try.prog 53 #[.float .f64 x, .float .f64 y] w (isF (fsub x y)) := by
  unfold Ret
  go_enter Try.func53, Try.ntmps53
  go_wp2_with fail
  refine upon_sub (Sm.refl _) (Sm.refl _) ?_
  intro r n hr
  go_wp2_with fail
  go_ret
  exact ⟨_, rfl, ⟨r, rfl, hr⟩, below_dr (Below.refl _ _) n⟩

set_option maxRecDepth 100000 in
set_option maxHeartbeats 1000000 in
theorem scale1 (x k b : Nat) (w : World) (hk : w.cell? ⟨b, 0, none⟩ = some (.float .f64 k)) : Ret Try.prog 49 #[.float .f64 x, .pointer (some ⟨b, 0, none⟩)] w (isF (fmul x k)) := by
  unfold Ret
  go_enter Try.func49, Try.ntmps49
  go_wp2_with fail
  refine Calls.mono (product_any _ _ _) ?_
  rintro e w' ⟨v, rfl, ⟨r, rfl, hr⟩, hb⟩
  clear hk
  go_wp2_with fail
  go_ret
  exact ⟨_, rfl, ⟨r, rfl, hr⟩, hb⟩

/-- What Same's own function makes of two parts: 0 of two that are none, else the first. -/
def selF (x y : Nat) : Nat := if isN x && isN y then 0 else x
theorem wd_zero : Wd 0 := by unfold Wd; omega

end Go.Proofs.Ytgimkcbegalepaa
