/- Package rgb: the functions of one colour. -/
import Derived.Test.YtldblpgopgggdaaRows
import Derived.Test.YtldblpgopgggdaaVe
import Derived.Test.YtldblpgopgggdaaLq
import Derived.Test.YtldblpgopgggdaaFx
namespace Go.Proofs.Ytldblpgopgggdaa
open Go.RowKit Fl

set_option maxRecDepth 100000 in
set_option maxHeartbeats 1000000 in
theorem rgb_product (x y : Nat) (w : World) : Ret Try.prog 27 #[.float .f64 x, .float .f64 y] w (isF (fmul x y)) := by
  unfold Ret
  go_enter Try.func27, Try.ntmps27
  go_wp2_with fail
  refine upon_mul (Sm.refl _) (Sm.refl _) ?_
  intro r n hr
  go_wp2_with fail
  go_ret
  exact ⟨_, rfl, ⟨r, rfl, hr⟩, below_dr (Below.refl _ _) n⟩

set_option maxRecDepth 100000 in
set_option maxHeartbeats 1000000 in
theorem rgb_add1 (x y : Nat) (w : World) : Ret Try.prog 26 #[.float .f64 x, .float .f64 y] w (isF (fadd x y)) := by
  unfold Ret
  go_enter Try.func26, Try.ntmps26
  go_wp2_with fail
  refine upon_add (Sm.refl _) (Sm.refl _) ?_
  intro r n hr
  go_wp2_with fail
  go_ret
  exact ⟨_, rfl, ⟨r, rfl, hr⟩, below_dr (Below.refl _ _) n⟩

set_option maxRecDepth 100000 in
set_option maxHeartbeats 1000000 in
theorem rgb_scale1 (x k b : Nat) (w : World) (hk : w.cell? ⟨b, 0, none⟩ = some (.float .f64 k)) : Ret Try.prog 29 #[.float .f64 x, .pointer (some ⟨b, 0, none⟩)] w (isF (fmul x k)) := by
  unfold Ret
  go_enter Try.func29, Try.ntmps29
  go_wp2_with fail
  refine Calls.mono (rgb_product _ _ _) ?_
  rintro e w' ⟨v, rfl, ⟨r, rfl, hr⟩, hb⟩
  clear hk
  go_wp2_with fail
  go_ret
  exact ⟨_, rfl, ⟨r, rfl, hr⟩, hb⟩

set_option maxRecDepth 100000 in
set_option maxHeartbeats 1000000 in
theorem rgb_greater (x y : Nat) (w : World) : Calls Try.prog 30 #[.float .f64 x, .float .f64 y] w fun e w' => e = .returned (.float .f64 (highF x y)) ∧ w' = w := by
  unfold highF
  have hp : (FloatKind.f64.format.order y x == some .gt) = (ford y x == some .gt) := rfl
  generalize (ford y x == some .gt) = p at hp ⊢
  cases p <;>
  · go_enter Try.func30, Try.ntmps30
    go_wp2_with fail
    go_ret
    exact ⟨rfl, rfl⟩

set_option maxRecDepth 100000 in
set_option maxHeartbeats 1000000 in
theorem rhigh_rgb (x y : Nat) (w : World) : Calls Try.prog 31 #[.float .f64 x, .float .f64 y] w fun e w' => e = .returned (.float .f64 (highF x y)) ∧ w' = w := by
  unfold highF
  have hp : (FloatKind.f64.format.order y x == some .gt) = (ford y x == some .gt) := rfl
  generalize (ford y x == some .gt) = p at hp ⊢
  cases p <;>
  · go_enter Try.func31, Try.ntmps31
    go_wp2_with fail
    go_ret
    exact ⟨rfl, rfl⟩

end Go.Proofs.Ytldblpgopgggdaa
