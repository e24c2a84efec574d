/- The walk of WarpAngles. -/
import Derived.Test.YtnhilikcgfhkbaaZq
import Derived.Test.YtnhilikcgfhkbaaZn
namespace Go.Proofs.Ytnhilikcgfhkbaa
open Go.RowKit Fl

set_option maxRecDepth 100000 in
set_option maxHeartbeats 1000000 in
theorem angles_any (x y u : Nat) (w : World) : Calls Try.prog 6 #[.float .f64 x, .float .f64 y, .float .f64 u] w fun e w' => e = .returned (.bool true) ∧ Below w.heap.size w w' := by
  have H1 := hid (fun w => angle_any x y w)
  have H2 := hid (fun w => rangle_any x y w)
  have H3 := hid (fun w => densi_any x y w)
  have H4 := hid (fun w => sector_any u w)
  have H5 := hid awake_any
  have H6 := hid (fun w => densi_any (fmul (secX (cleanF u)) Fl.w1) (fmul (secY (cleanF u)) Fl.w1) w)
  obtain ⟨nf, ng, f0, f1, ev⟩ := share_same x y
  obtain ⟨_, _, df, ngg, nq, dg, ed⟩ := dens_same nf ng f0 f1 ev
  obtain ⟨b1, b2, b3⟩ := back_near (sect_u u)
  have HN := hid (near_true b1 b2 (b3.mono (by have := dl_ge; grind)))
  have m1 : ∀ w, _ := fun w => run_mul_num (P := Try.prog) w 22 ng ng
  have m2 : ∀ w, (binOp .add 22 (.float .f64 4607182418800017408) (.float .f64 (fmul (shareR (absR x) (absR y)) (shareR (absR x) (absR y))))).run Try.prog w = .ok (.float .f64 (secQ (shareR (absR x) (absR y)))) w := fun w => run_add_num w 22 num_w1 ngg
  have m3 : ∀ w, (binOp .mul 22 (.float .f64 (secQ (shareR (absR x) (absR y)))) (.float .f64 4593671619917905920)).run Try.prog w = .ok (.float .f64 (densF (shareR (absR x) (absR y)))) w := fun w => run_mul_num w 22 nq num_eighth
  have hf := ne_false nf ng ev
  have hd := ne_false df dg ed
  clear nf ng f0 f1 ev df ngg nq dg ed b1 b2 b3
  generalize densF (shareF (fabs (fmul (secX (cleanF u)) Fl.w1)) (fabs (fmul (secY (cleanF u)) Fl.w1))) = D at *
  generalize fmul (secX (cleanF u)) Fl.w1 = a at *
  generalize fmul (secY (cleanF u)) Fl.w1 = b at *
  generalize densF (secF (cleanF u)) = p at *
  generalize densF (shareF (fabs x) (fabs y)) = E at *
  generalize shareF (fabs x) (fabs y) = f at *
  generalize densF (shareR (absR x) (absR y)) = G at *
  generalize secQ (shareR (absR x) (absR y)) = q at *
  generalize shareR (absR x) (absR y) = g at *
  generalize fmul g g = gg at *
  generalize sideN x y = k at *
  go_enter Try.func6, Try.ntmps6
  go_wp2_with fail
  refine Calls.mono (H1.out _) ?_
  rintro e w1 ⟨rfl, hb⟩
  have HB1 := hid hb
  clear hb
  go_wp2_with fail
  refine Calls.mono (H2.out _) ?_
  rintro e w2 ⟨rfl, hb⟩
  have HB2 := hid (HB1.out.trans (hb.mono HB1.out.size))
  clear hb HB1
  go_wp2_with fail
  refine Calls.mono (H3.out _) ?_
  rintro e w3 ⟨rfl, hb⟩
  have HB3 := hid (HB2.out.trans (hb.mono HB2.out.size))
  clear hb HB2
  go_wp2_with fail
  refine Calls.mono (H4.out _) ?_
  rintro e w4 ⟨rfl, hb⟩
  have HB4 := hid (HB3.out.trans (hb.mono HB3.out.size))
  clear hb HB3
  go_wp2_with fail
  refine Calls.mono (H5.out _) ?_
  rintro e w5 ⟨rfl, hb⟩
  have HB5 := hid (HB4.out.trans (hb.mono HB4.out.size))
  clear hb HB4
  go_wp2_with fail
  refine Calls.mono (H6.out _) ?_
  rintro e w6 ⟨rfl, hb⟩
  have HB6 := hid (HB5.out.trans (hb.mono HB5.out.size))
  clear hb HB5
  go_wp2_with fail
  refine Calls.mono (HN.out _) ?_
  rintro e w' ⟨rfl, hw⟩
  obtain rfl := hw.symm
  clear hw
  go_wp2_with fail
  go_ret
  exact ⟨rfl, HB6.out⟩
end Go.Proofs.Ytnhilikcgfhkbaa
