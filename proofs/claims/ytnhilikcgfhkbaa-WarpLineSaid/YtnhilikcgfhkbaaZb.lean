/- Package warp: product, stretch, density; math.Sqrt; all of numbers. -/
import Derived.Test.YtnhilikcgfhkbaaZa
namespace Go.Proofs.Ytnhilikcgfhkbaa
open Go.RowKit Fl

set_option maxRecDepth 100000 in
set_option maxHeartbeats 1000000 in
theorem prod_num {x y : Nat} (hx : Num x) (hy : Num y) (w : World) : Calls Try.prog 27 #[.float .f64 x, .float .f64 y] w fun e w' => e = .returned (.float .f64 (fmul x y)) ∧ w' = w := by
  have hm : ∀ w, _ := fun w => run_mul_num (P := Try.prog) w 22 hx hy
  clear hx hy
  go_enter Try.func27, Try.ntmps27
  go_wp2_with fail
  go_ret
  exact ⟨rfl, rfl⟩

theorem ext_sqrt (x : Nat) (w : World) : (callFunc 28 #[.float .f64 x]).run Try.prog w = (Extern.MathSqrt.sqrt #[.float .f64 x] >>= fun v => pure (Next.value v)).run Try.prog w := by kernel_rfl
theorem run_ext_sqrt {x : Nat} (hx : Num x) (h0 : 0 ≤ val x) (w : World) : (callFunc 28 #[.float .f64 x]).run Try.prog w = .ok (.value (.float .f64 (fsqrt x))) w := by
  rw [ext_sqrt, Sem.run_bind, run_sqrt_num w hx h0]
  rfl

set_option maxRecDepth 100000 in
set_option maxHeartbeats 1000000 in
theorem root_num {x : Nat} (hx : Num x) (h0 : 0 ≤ val x) (w : World) : Calls Try.prog 14 #[.float .f64 x] w fun e w' => e = .returned (.float .f64 (fsqrt x)) ∧ w' = w := by
  have hm : ∀ w, _ := fun w => run_ext_sqrt hx h0 w
  clear hx h0
  go_enter Try.func14, Try.ntmps14
  go_wp2_with fail
  go_ret
  exact ⟨rfl, rfl⟩

set_option maxRecDepth 100000 in
set_option maxHeartbeats 1000000 in
theorem stretch_num {f : Nat} (hf : Num f) (hq : Num (fmul f f)) (w : World) : Calls Try.prog 34 #[.float .f64 f] w fun e w' => e = .returned (.float .f64 (secQ f)) ∧ w' = w := by
  have HP := hid (prod_num hf hf)
  have hm : ∀ w, (binOp .add 22 (.float .f64 4607182418800017408) (.float .f64 (fmul f f))).run Try.prog w = .ok (.float .f64 (secQ f)) w := fun w => run_add_num w 22 num_w1 hq
  clear hf hq
  go_enter Try.func34, Try.ntmps34
  go_wp2_with fail
  refine Calls.mono (HP.out _) ?_
  rintro e w' ⟨rfl, hw⟩
  obtain rfl := hw.symm
  clear hw
  go_wp2_with fail
  go_ret
  exact ⟨rfl, rfl⟩

set_option maxRecDepth 100000 in
set_option maxHeartbeats 1000000 in
theorem density_num {f : Nat} (hf : Num f) (hq : Num (fmul f f)) (hn : Num (secQ f)) (w : World) : Calls Try.prog 33 #[.float .f64 f] w fun e w' => e = .returned (.float .f64 (densF f)) ∧ w' = w := by
  have HS := hid (stretch_num hf hq)
  have HP := hid (prod_num hn num_eighth)
  unfold eighth at HP
  clear hf hq hn
  go_enter Try.func33, Try.ntmps33
  go_wp2_with fail
  refine Calls.mono (HS.out _) ?_
  rintro e w' ⟨rfl, hw⟩
  obtain rfl := hw.symm
  clear hw
  go_wp2_with fail
  refine Calls.mono (HP.out _) ?_
  rintro e w' ⟨rfl, hw⟩
  obtain rfl := hw.symm
  clear hw
  go_wp2_with fail
  go_ret
  exact ⟨rfl, rfl⟩
end Go.Proofs.Ytnhilikcgfhkbaa
