/- The walk of WarpLine. -/
import Derived.Test.YtnhilikcgfhkbaaZq
namespace Go.Proofs.Ytnhilikcgfhkbaa
open Go.RowKit Fl

def minus1 : Nat := 13830554455654793216
theorem num_minus1 : Num minus1 := ⟨true, 4503599627370496, -52, by decide +kernel⟩
theorem val_minus1 : val minus1 = -1 := by decide +kernel

set_option maxRecDepth 100000 in
set_option maxHeartbeats 1000000 in
theorem lines_any (u v : Nat) (w : World) : Calls Try.prog 5 #[.float .f64 u, .float .f64 v] w fun e w' => e = .returned (.bool true) ∧ Below w.heap.size w w' := by
  have H1 := hid (fun w => bary_any u v w)
  have H2 := hid (fun w => rclean_any u w)
  have H3 := hid (fun w => rclean_any v w)
  have H4 := hid (fun w => tent_any u w)
  have H5 := hid awake_any
  have H6 := hid (fun w => rtent_any u w)
  obtain ⟨nc, c0, c1⟩ := clean_num u
  obtain ⟨nd, d0, d1⟩ := clean_num v
  obtain ⟨nr, _, _⟩ := root_c nc c0 c1
  obtain ⟨nw, _, _⟩ := unit_sub nd d0 (by grind)
  have HR := hid (root_num nc c0)
  obtain ⟨⟨na, a0, a1⟩, ⟨nb, b0, b1⟩, ⟨ne, e0, e1⟩, nn, en⟩ := bary_vals nc c0 (by grind) nd d0 (by grind)
  obtain ⟨t1, t2, t3, t4⟩ := twice nc c0 c1
  obtain ⟨ntl, ntr, tv, tl, tu⟩ := tent_same t1 t3 (by rw [t2]; grind) (by rw [t2]; grind) (by rw [t2, t4])
  obtain ⟨n2, _⟩ := num_of_add nn
  have m1 : ∀ w, (binOp .sub 22 (.float .f64 4607182418800017408) (.float .f64 (fsqrt (cleanF u)))).run Try.prog w = .ok (.float .f64 (fsub Fl.w1 (fsqrt (cleanF u)))) w := fun w => run_sub_num w 22 num_w1 nr
  have m2 : ∀ w, (binOp .sub 22 (.float .f64 4607182418800017408) (.float .f64 (cleanF v))).run Try.prog w = .ok (.float .f64 (fsub Fl.w1 (cleanF v))) w := fun w => run_sub_num w 22 num_w1 nd
  have m3 : ∀ w, _ := fun w => run_mul_num (P := Try.prog) w 22 nr nw
  have m4 : ∀ w, _ := fun w => run_mul_num (P := Try.prog) w 22 nr nd
  have m5 : ∀ w, _ := fun w => run_add_num (P := Try.prog) w 22 na nb
  have m6 : ∀ w, _ := fun w => run_add_num (P := Try.prog) w 22 n2 ne
  have ea := Fl.eq_self na
  have eb := Fl.eq_self nb
  have ee := Fl.eq_self ne
  have et := eq_true' ntl ntr tv
  have g1 := ge_true na num_zero (by rw [val_zero]; exact a0)
  have g2 := ge_true nb num_zero (by rw [val_zero]; exact b0)
  have g3 := ge_true ne num_zero (by rw [val_zero]; exact e0)
  have g4 := le_true na num_w1 (by rw [val_w1]; exact a1)
  have g5 := le_true nb num_w1 (by rw [val_w1]; exact b1)
  have g6 := le_true ne num_w1 (by rw [val_w1]; exact e1)
  have g7 := ge_true ntl num_minus1 (by rw [val_minus1]; exact tl)
  have g8 := le_true ntl num_w1 (by rw [val_w1]; exact tu)
  have HN := hid (near_true nn num_w1 (by rw [val_w1]; exact en.mono (by have := dl_ge; grind)))
  change Hid (∀ w, Calls Try.prog 12 #[.float .f64 _, .float .f64 4607182418800017408] w _) at HN
  change (FloatKind.f64.format.order _ 4607182418800017408 == some .lt || FloatKind.f64.format.order _ 4607182418800017408 == some .eq) = true at g4 g5 g6 g8
  unfold minus1 at g7
  clear nc c0 c1 nd d0 d1 nr nw na a0 a1 nb b0 b1 ne e0 e1 nn en t1 t2 t3 t4 ntl ntr tv tl tu n2
  generalize tentF (fmul two1 (cleanF u)) = T at *
  generalize tentF (fadd (cleanF u) (cleanF u)) = T' at *
  generalize cleanF u = c at *
  generalize cleanF v = d at *
  generalize fsqrt c = r at *
  generalize fsub Fl.w1 r = a at *
  generalize fsub Fl.w1 d = k at *
  generalize fmul r k = b at *
  generalize fmul r d = f at *
  generalize fadd a b = ab at *
  generalize fadd ab f = n at *
  go_enter Try.func5, Try.ntmps5
  go_wp2_with fail
  refine Calls.mono (H1.out _) ?_
  rintro e w' ⟨rfl, hw⟩
  obtain rfl := hw.symm
  clear hw
  go_wp2_with fail
  refine Calls.mono (H2.out _) ?_
  rintro e w' ⟨rfl, hw⟩
  obtain rfl := hw.symm
  clear hw
  go_wp2_with fail
  refine Calls.mono (HR.out _) ?_
  rintro e w' ⟨rfl, hw⟩
  obtain rfl := hw.symm
  clear hw
  go_wp2_with fail
  refine Calls.mono (H3.out _) ?_
  rintro e w' ⟨rfl, hw⟩
  obtain rfl := hw.symm
  clear hw
  go_wp2_with fail
  refine Calls.mono (H4.out _) ?_
  rintro e w' ⟨rfl, hw⟩
  obtain rfl := hw.symm
  clear hw
  go_wp2_with fail
  refine Calls.mono (H5.out _) ?_
  rintro e w3 ⟨rfl, hb⟩
  have HB3 := hid hb
  clear hb
  go_wp2_with fail
  refine Calls.mono (H3.out _) ?_
  rintro e w' ⟨rfl, hw⟩
  obtain rfl := hw.symm
  clear hw
  go_wp2_with fail
  refine Calls.mono (HN.out _) ?_
  rintro e w' ⟨rfl, hw⟩
  obtain rfl := hw.symm
  clear hw
  go_wp2_with fail
  refine Calls.mono (H6.out _) ?_
  rintro e w' ⟨rfl, hw⟩
  obtain rfl := hw.symm
  clear hw
  go_wp2_with fail
  go_ret
  exact ⟨rfl, HB3.out⟩
end Go.Proofs.Ytnhilikcgfhkbaa
