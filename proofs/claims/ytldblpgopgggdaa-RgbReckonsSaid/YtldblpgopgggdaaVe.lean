/- Package math, as far as it is called: IsNaN, Abs, IsInf, Sqrt; and vec.Number. -/
import Derived.Test.YtldblpgopgggdaaRows
import Derived.Test.YtldblpgopgggdaaVa
import Derived.Test.YtldblpgopgggdaaFm
namespace Go.Proofs.Ytldblpgopgggdaa
open Go.RowKit Fl

theorem ext51 (x : Nat) (w : World) : (callFunc 39 #[.float .f64 x]).run Try.prog w = .ok (.value (.int .u64 x)) w := by kernel_rfl

theorem ext50 (n : Int) (w : World) : (callFunc 38 #[.int .u64 n]).run Try.prog w = .ok (.value (.float .f64 n.toNat)) w := by kernel_rfl

set_option maxRecDepth 100000 in
set_option maxHeartbeats 400000 in
theorem abs_any (x : Nat) (w : World) : Calls Try.prog 37 #[.float .f64 x] w fun e w' => e = .returned (.float .f64 (fabs x)) ∧ w' = w := by
  go_enter Try.func37, Try.ntmps37
  have e1 := ext51
  have e2 := ext50
  go_wp2_with fail
  go_ret
  exact ⟨by rw [← andNot_sign]; rfl, rfl⟩

theorem ord_nan_self (x : Nat) : (F64.order x x != some .eq) = isN x := by
  have := ford_self x
  unfold ford at this
  rw [bne, this, Bool.not_not]

set_option maxRecDepth 100000 in
set_option maxHeartbeats 400000 in
theorem isnan_any (x : Nat) (w : World) : Calls Try.prog 35 #[.float .f64 x] w fun e w' => e = .returned (.bool (isN x)) ∧ w' = w := by
  go_enter Try.func35, Try.ntmps35
  go_wp2_with fail
  go_ret
  exact ⟨by rw [← ord_nan_self]; rfl, rfl⟩

set_option maxRecDepth 100000 in
set_option maxHeartbeats 400000 in
theorem isinf_any (x : Nat) (w : World) : Calls Try.prog 36 #[.float .f64 x, .int .i64 0] w fun e w' => e = .returned (.bool (infB x)) ∧ w' = w := by
  go_enter Try.func36, Try.ntmps36
  go_wp2_with fail
  refine (abs_any _ _).mono ?_
  rintro e w' ⟨rfl, hw⟩
  obtain rfl := hw.symm
  go_wp2_with fail
  go_ret
  exact ⟨rfl, rfl⟩

set_option maxRecDepth 100000 in
set_option maxHeartbeats 400000 in
theorem number_any (x : Nat) (w : World) : Calls Try.prog 33 #[.float .f64 x] w fun e w' => e = .returned (.bool (numB x)) ∧ w' = w := by
  unfold numB
  have HN : Hid _ := isnan_any x
  have HI : Hid _ := isinf_any x
  generalize isN x = p at HN ⊢
  generalize infB x = q at HI ⊢
  cases p <;> cases q <;>
  · go_enter Try.func33, Try.ntmps33
    go_wp2_with fail
    refine Calls.mono (HN.out _) ?_
    rintro e w' ⟨rfl, hw⟩
    obtain rfl := hw.symm
    go_wp2_with fail
    try
      refine Calls.mono (HI.out _) ?_
      rintro e w' ⟨rfl, hw⟩
      obtain rfl := hw.symm
      go_wp2_with fail
    go_ret
    exact ⟨rfl, rfl⟩
end Go.Proofs.Ytldblpgopgggdaa
