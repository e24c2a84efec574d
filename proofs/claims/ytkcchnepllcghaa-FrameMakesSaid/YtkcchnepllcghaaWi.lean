/- The walk of the law FrameMakes. -/
import Derived.Test.YtkcchnepllcghaaRows
import Derived.Test.YtkcchnepllcghaaWf
import Derived.Test.YtkcchnepllcghaaWg
import Derived.Test.YtkcchnepllcghaaWh
namespace Go.Proofs.Ytkcchnepllcghaa
open Go.RowKit Fl

set_option maxRecDepth 100000 in
set_option maxHeartbeats 1000000 in
theorem makes_walk (x y z : Nat) (gx : Wd x) (gy : Wd y) (gz : Wd z) (w : World) : Ret Try.prog 3 #[.agg #[.float .f64 x, .float .f64 y, .float .f64 z]] w (fun v => v = .bool true) := by
  unfold Ret
  go_enter Try.func3, Try.ntmps3
  go_wp2_with fail
  refine wp_region_loose (Cl _) [some (fun v => v = .bool true), none, none, some (isFr (fadd w1p (fmul (fmul (fmul (sideF z) x) x) (frA z))) (fmul (sideF z) (fmul (fmul x y) (frA z))) (fsub 0 (fmul (sideF z) x)) (fmul (fmul x y) (frA z)) (fadd (sideF z) (fmul (fmul y y) (frA z))) (fsub 0 y) x y z), none, some (isFr (fadd w1p (fmul (fmul (fmul (sideF z) x) x) (frA z))) (fmul (sideF z) (fmul (fmul x y) (frA z))) (fsub 0 (fmul (sideF z) x)) (fmul (fmul x y) (frA z)) (fadd (sideF z) (fmul (fmul y y) (frA z))) (fsub 0 y) x y z), some (fun v => v = .bool true), none] 8 (by kernel_rfl) (by kernel_rfl) (by kernel_rfl) (Cl.drew _) ?_
  have HA : Hid (∀ w', Cl (w.alloc (.cells #[.float .f64 x, .float .f64 y, .float .f64 z] 24)) w' → _) := fun w' h => h.three (b := w.heap.size) (by go_simp; exact rfl) (by go_simp; exact rfl) (by go_simp; exact rfl) (by go_simp; done)
  refine loose_any rfl (fun w hw => ?_) (fun K hK => ?_)
  · go_simp
    exact loose_ret (awake_any _) hw
  rintro v rfl
  go_simp
  refine hK _ ?_
  clear hK K
  repeat (
    refine loose_one ?_ rfl (fun w hw => ?_) (fun K hK => ?_)
    rotate_left
    ·obtain ⟨a0, a1, a2⟩ := HA.out _ hw
     go_simp
     exact rfl
    go_simp
    refine hK _ ?_
    clear hK K)
  refine loose_any rfl (fun w hw => ?_) (fun K hK => ?_)
  · go_simp
    exact loose_ret (new_any _ _ _ gx gy gz _) hw
  rintro v ⟨r0, r1, r2, r3, r4, r5, r6, r7, r8, rfl, hr0, hr1, hr2, hr3, hr4, hr5, hr6, hr7, hr8⟩
  go_simp
  refine hK _ ?_
  clear hK K
  repeat (
    refine loose_one ?_ rfl (fun w hw => ?_) (fun K hK => ?_)
    rotate_left
    ·obtain ⟨a0, a1, a2⟩ := HA.out _ hw
     go_simp
     exact rfl
    go_simp
    refine hK _ ?_
    clear hK K)
  refine loose_any rfl (fun w hw => ?_) (fun K hK => ?_)
  · go_simp
    exact loose_ret (rnew_any _ _ _ gx gy gz _) hw
  rintro v ⟨s0, s1, s2, s3, s4, s5, s6, s7, s8, rfl, hs0, hs1, hs2, hs3, hs4, hs5, hs6, hs7, hs8⟩
  go_simp
  refine hK _ ?_
  clear hK K
  refine loose_any rfl (fun w hw => ?_) (fun K hK => ?_)
  · go_simp
    exact loose_ret (fis_true (hr0.sm.trans hs0.sm.symm) (hr1.sm.trans hs1.sm.symm) (hr2.sm.trans hs2.sm.symm) (hr3.sm.trans hs3.sm.symm) (hr4.sm.trans hs4.sm.symm) (hr5.sm.trans hs5.sm.symm) (hr6.sm.trans hs6.sm.symm) (hr7.sm.trans hs7.sm.symm) (hr8.sm.trans hs8.sm.symm) _) hw
  rintro v rfl
  go_simp
  refine hK _ ?_
  clear hK K
  repeat (
    refine loose_one ?_ rfl (fun w hw => ?_) (fun K hK => ?_)
    rotate_left
    ·obtain ⟨a0, a1, a2⟩ := HA.out _ hw
     go_simp
     exact rfl
    go_simp
    refine hK _ ?_
    clear hK K)
  intro w' hw'
  go_wp2_with fail
  go_ret
  exact ⟨_, rfl, rfl, hw'.out1⟩
end Go.Proofs.Ytkcchnepllcghaa
