/- What must come at any rate (awake). -/
import Derived.Test.YtnhilikcgfhkbaaZm
import Derived.Test.YtnhilikcgfhkbaaZh
namespace Go.Proofs.Ytnhilikcgfhkbaa
open Go.RowKit Fl

theorem aw_c0 : cleanF 0 = 0 := by decide +kernel
theorem aw_x : (FloatKind.f64.format.order (fmul (secX (cleanF 0)) w1) 4607182418800017408 == some .eq) = true := by decide +kernel
theorem aw_y : (FloatKind.f64.format.order (fmul (secY (cleanF 0)) w1) 0 == some .eq) = true := by decide +kernel
theorem aw_p : (FloatKind.f64.format.order (densF (secF (cleanF 0))) 4593671619917905920 == some .eq) = true := by decide +kernel
theorem aw_k : sideN 13830554455654793216 4611686018427387904 = 2 := by decide +kernel
theorem aw_f : (FloatKind.f64.format.order (shareF (fabs 13830554455654793216) (fabs 4611686018427387904)) 4602678819172646912 == some .eq) = true := by decide +kernel
theorem aw_t : (FloatKind.f64.format.order (tentF (fmul two1 (cleanF 4602678819172646912))) 0 == some .eq) = true := by decide +kernel
theorem aw_vx : Op.floatEq .f64 (fmul (secX (cleanF 0)) (fsqrt (cleanF 0))) 0 = true := by decide +kernel
theorem aw_vy : Op.floatEq .f64 (fmul (secY (cleanF 0)) (fsqrt (cleanF 0))) 0 = true := by decide +kernel
theorem aw_vz : Op.floatEq .f64 (fsqrt (fsub w1 (cleanF 0))) 4607182418800017408 = true := by decide +kernel
theorem aw_q : (FloatKind.f64.format.order (fmul (fmul two1 (densF (secF (cleanF 0)))) (fsqrt (fsub w1 (cleanF 0)))) 4598175219545276416 == some .eq) = true := by decide +kernel
theorem aw_d : (FloatKind.f64.format.order (densF (shareF (fabs 4613937818241073152) (fabs 4613937818241073152))) 4598175219545276416 == some .eq) = true := by decide +kernel

set_option maxRecDepth 100000 in
set_option maxHeartbeats 2000000 in
theorem awake_any (w : World) : Calls Try.prog 11 #[] w fun e w' => e = .returned (.bool true) ∧ Below w.heap.size w w' := by
  have H1 := hid (fun w => sector_any 0 w)
  have H2 := hid (fun w => angle_any 13830554455654793216 4611686018427387904 w)
  have H3 := hid (fun w => hemi_any 0 0 w)
  have H4 := hid (fun w => tent_any 4602678819172646912 w)
  have H5 := hid (fun w => densi_any 4613937818241073152 4613937818241073152 w)
  have e1 := aw_x
  have e2 := aw_y
  have e3 := aw_p
  have e4 := aw_f
  have e5 := aw_t
  have e6 := aw_vx
  have e7 := aw_vy
  have e8 := aw_vz
  have e9 := aw_q
  have e10 := aw_d
  rw [aw_k] at H2
  generalize fmul (secX (cleanF 0)) w1 = x1 at *
  generalize fmul (secY (cleanF 0)) w1 = x2 at *
  generalize fmul (fmul two1 (densF (secF (cleanF 0)))) (fsqrt (fsub w1 (cleanF 0))) = x9 at *
  generalize densF (secF (cleanF 0)) = x3 at *
  generalize densF (shareF (fabs 4613937818241073152) (fabs 4613937818241073152)) = x10 at *
  generalize shareF (fabs 13830554455654793216) (fabs 4611686018427387904) = x4 at *
  generalize tentF (fmul two1 (cleanF 4602678819172646912)) = x5 at *
  generalize fmul (secX (cleanF 0)) (fsqrt (cleanF 0)) = x6 at *
  generalize fmul (secY (cleanF 0)) (fsqrt (cleanF 0)) = x7 at *
  generalize fsqrt (fsub w1 (cleanF 0)) = x8 at *
  go_enter Try.func11, Try.ntmps11
  go_wp2_with fail
  refine Calls.mono (H1.out _) ?_
  rintro e w1 ⟨rfl, hb⟩
  have HB1 := hid hb
  clear hb
  go_wp2_with fail
  refine Calls.mono (H2.out _) ?_
  rintro e w2 ⟨rfl, hb⟩
  have HB2 := hid (HB1.out.trans (hb.mono HB1.out.size))
  clear hb HB1
  go_wp2_with fail
  refine Calls.mono (H3.out _) ?_
  rintro e w3 ⟨rfl, hb⟩
  have HB3 := hid (HB2.out.trans (hb.mono HB2.out.size))
  clear hb HB2
  go_wp2_with fail
  refine Calls.mono (H4.out _) ?_
  rintro e w' ⟨rfl, hw⟩
  obtain rfl := hw.symm
  clear hw
  go_wp2_with fail
  refine Calls.mono (H5.out _) ?_
  rintro e w5 ⟨rfl, hb⟩
  have HB5 := hid ((HB3.out.alloc HB3.out.size _).trans (hb.mono (by have := HB3.out.size; simp; omega)))
  clear hb
  go_wp2_with fail
  go_ret
  exact ⟨rfl, HB5.out⟩
end Go.Proofs.Ytnhilikcgfhkbaa
