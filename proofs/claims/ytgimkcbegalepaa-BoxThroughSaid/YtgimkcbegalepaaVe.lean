/- Package math, as far as it is called: IsNaN, Abs, IsInf, Sqrt; and vec.Number. -/
import Derived.Test.YtgimkcbegalepaaRows
import Derived.Test.YtgimkcbegalepaaVa
import Derived.Test.YtgimkcbegalepaaFm
namespace Go.Proofs.Ytgimkcbegalepaa
open Go.RowKit Fl

theorem ext51 (x : Nat) (w : World) : (callFunc 57 #[.float .f64 x]).run Try.prog w = .ok (.value (.int .u64 x)) w := by kernel_rfl

theorem ext50 (n : Int) (w : World) : (callFunc 44 #[.int .u64 n]).run Try.prog w = .ok (.value (.float .f64 n.toNat)) w := by kernel_rfl

set_option maxRecDepth 100000 in
set_option maxHeartbeats 400000 in
theorem abs_any (x : Nat) (w : World) : Calls Try.prog 56 #[.float .f64 x] w fun e w' => e = .returned (.float .f64 (fabs x)) ∧ w' = w := by
  go_enter Try.func56, Try.ntmps56
  have e1 := ext51
  have e2 := ext50
  go_wp2_with fail
  go_ret
  exact ⟨by rw [← andNot_sign]; rfl, rfl⟩

theorem ord_nan_self (x : Nat) : (F64.order x x != some .eq) = isN x := by
  have := ford_self x
  unfold ford at this
  rw [bne, this, Bool.not_not]

set_option maxRecDepth 100000 in
set_option maxHeartbeats 400000 in
theorem isnan_any (x : Nat) (w : World) : Calls Try.prog 54 #[.float .f64 x] w fun e w' => e = .returned (.bool (isN x)) ∧ w' = w := by
  go_enter Try.func54, Try.ntmps54
  go_wp2_with fail
  go_ret
  exact ⟨by rw [← ord_nan_self]; rfl, rfl⟩

set_option maxRecDepth 100000 in
set_option maxHeartbeats 400000 in
theorem isinf_any (x : Nat) (w : World) : Calls Try.prog 55 #[.float .f64 x, .int .i64 0] w fun e w' => e = .returned (.bool (infB x)) ∧ w' = w := by
  go_enter Try.func55, Try.ntmps55
  go_wp2_with fail
  refine (abs_any _ _).mono ?_
  rintro e w' ⟨rfl, hw⟩
  obtain rfl := hw.symm
  go_wp2_with fail
  go_ret
  exact ⟨rfl, rfl⟩

set_option maxRecDepth 100000 in
set_option maxHeartbeats 400000 in
theorem number_any (x : Nat) (w : World) : Calls Try.prog 45 #[.float .f64 x] w fun e w' => e = .returned (.bool (numB x)) ∧ w' = w := by
  unfold numB
  have HN : Hid _ := isnan_any x
  have HI : Hid _ := isinf_any x
  generalize isN x = p at HN ⊢
  generalize infB x = q at HI ⊢
  cases p <;> cases q <;>
  · go_enter Try.func45, Try.ntmps45
    go_wp2_with fail
    refine Calls.mono (HN.out _) ?_
    rintro e w' ⟨rfl, hw⟩
    obtain rfl := hw.symm
    go_wp2_with fail
    try
      refine Calls.mono (HI.out _) ?_
      rintro e w' ⟨rfl, hw⟩
      obtain rfl := hw.symm
      go_wp2_with fail
    go_ret
    exact ⟨rfl, rfl⟩
end Go.Proofs.Ytgimkcbegalepaa
