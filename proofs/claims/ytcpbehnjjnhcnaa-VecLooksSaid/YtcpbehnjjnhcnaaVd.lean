/- The functions that pairs and parts are given. -/
import Derived.Test.YtcpbehnjjnhcnaaVb
import Derived.Test.YtcpbehnjjnhcnaaVe
namespace Go.Proofs.Ytcpbehnjjnhcnaa
open Go.RowKit Fl

set_option maxRecDepth 100000 in
set_option maxHeartbeats 1000000 in
theorem add1 (x y : Nat) (w : World) : Ret Try.prog 36 #[.float .f64 x, .float .f64 y] w (isF (fadd x y)) := by
  unfold Ret
  go_enter Try.func36, Try.ntmps36
  go_wp2_with fail
  refine upon_add (Sm.refl _) (Sm.refl _) ?_
  intro r n hr
  go_wp2_with fail
  go_ret
  exact ⟨_, rfl, ⟨r, rfl, hr⟩, below_dr (Below.refl _ _) n⟩

set_option maxRecDepth 100000 in
set_option maxHeartbeats 1000000 in
theorem sub1 (x y : Nat) (w : World) : Ret Try.prog 37 #[.float .f64 x, .float .f64 y] w (isF (fsub x y)) := by
  unfold Ret
  go_enter Try.func37, Try.ntmps37
  go_wp2_with fail
  refine upon_sub (Sm.refl _) (Sm.refl _) ?_
  intro r n hr
  go_wp2_with fail
  go_ret
  exact ⟨_, rfl, ⟨r, rfl, hr⟩, below_dr (Below.refl _ _) n⟩

set_option maxRecDepth 100000 in
set_option maxHeartbeats 1000000 in
theorem neg1 (x : Nat) (w : World) : Ret Try.prog 41 #[.float .f64 x] w (isF (fsub 0 x)) := by
  unfold Ret
  go_enter Try.func41, Try.ntmps41
  go_wp2_with fail
  refine upon_sub (Sm.refl _) (Sm.refl _) ?_
  intro r n hr
  go_wp2_with fail
  go_ret
  exact ⟨_, rfl, ⟨r, rfl, hr⟩, below_dr (Below.refl _ _) n⟩

set_option maxRecDepth 100000 in
set_option maxHeartbeats 1000000 in
theorem scale1 (x k b : Nat) (w : World) (hk : w.cell? ⟨b, 0, none⟩ = some (.float .f64 k)) : Ret Try.prog 40 #[.float .f64 x, .pointer (some ⟨b, 0, none⟩)] w (isF (fmul x k)) := by
  unfold Ret
  go_enter Try.func40, Try.ntmps40
  go_wp2_with fail
  refine Calls.mono (product_any _ _ _) ?_
  rintro e w' ⟨v, rfl, ⟨r, rfl, hr⟩, hb⟩
  clear hk
  go_wp2_with fail
  go_ret
  exact ⟨_, rfl, ⟨r, rfl, hr⟩, hb⟩

set_option maxRecDepth 100000 in
set_option maxHeartbeats 1000000 in
theorem unit1 (x k b : Nat) (w : World) (hk : w.cell? ⟨b, 0, none⟩ = some (.float .f64 k)) : Ret Try.prog 44 #[.float .f64 x, .pointer (some ⟨b, 0, none⟩)] w (isF (fdiv x k)) := by
  unfold Ret
  go_enter Try.func44, Try.ntmps44
  go_wp2_with fail
  refine upon_div (Sm.refl _) (Sm.refl _) ?_
  intro r n hr
  go_wp2_with fail
  go_ret
  exact ⟨_, rfl, ⟨r, rfl, hr⟩, below_dr (Below.refl _ _) n⟩

set_option maxRecDepth 100000 in
set_option maxHeartbeats 1000000 in
theorem along1 (x y k b : Nat) (w : World) (hk : w.cell? ⟨b, 0, none⟩ = some (.float .f64 k)) : Ret Try.prog 42 #[.float .f64 x, .float .f64 y, .pointer (some ⟨b, 0, none⟩)] w (isF (fadd x (fmul y k))) := by
  unfold Ret
  go_enter Try.func42, Try.ntmps42
  go_wp2_with fail
  refine Calls.mono (product_any _ _ _) ?_
  rintro e w' ⟨v, rfl, ⟨r, rfl, hr⟩, hb⟩
  clear hk
  go_wp2_with fail
  refine upon_add (Sm.refl _) hr.sm ?_
  intro r2 n hr2
  go_wp2_with fail
  go_ret
  exact ⟨_, rfl, ⟨r2, rfl, hr2⟩, below_dr hb n⟩

/-- What Same's own function makes of two parts: 0 of two that are none, else the first. -/
def selF (x y : Nat) : Nat := if isN x && isN y then 0 else x
theorem wd_zero : Wd 0 := by unfold Wd; omega

set_option maxRecDepth 100000 in
set_option maxHeartbeats 1000000 in
theorem same1 (x y : Nat) (hx : Wd x) (w : World) : Ret Try.prog 48 #[.float .f64 x, .float .f64 y] w (isF (selF x y)) := by
  unfold Ret selF
  have HX : Hid _ := isnan_any x
  have HY : Hid _ := isnan_any y
  generalize isN x = p at HX ⊢
  generalize isN y = q at HY ⊢
  cases p <;> cases q <;>
  · go_enter Try.func48, Try.ntmps48
    go_wp2_with fail
    refine Calls.mono (HX.out _) ?_
    rintro e w' ⟨rfl, hw⟩
    obtain rfl := hw.symm
    go_wp2_with fail
    try
      refine Calls.mono (HY.out _) ?_
      rintro e w' ⟨rfl, hw⟩
      obtain rfl := hw.symm
      go_wp2_with fail
    go_ret
    first
      | exact ⟨_, rfl, ⟨_, rfl, Eqv.refl hx⟩, Below.refl _ _⟩
      | exact ⟨_, rfl, ⟨_, rfl, Eqv.refl wd_zero⟩, Below.refl _ _⟩

end Go.Proofs.Ytcpbehnjjnhcnaa
