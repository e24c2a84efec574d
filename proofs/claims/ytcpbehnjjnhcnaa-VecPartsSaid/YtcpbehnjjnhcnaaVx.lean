/- The walk of the law VecParts. -/
import Derived.Test.YtcpbehnjjnhcnaaVi
import Derived.Test.YtcpbehnjjnhcnaaVw
namespace Go.Proofs.Ytcpbehnjjnhcnaa
open Go.RowKit Fl

set_option maxRecDepth 100000 in
set_option maxHeartbeats 4000000 in
theorem parts_walk (ax ay az bx bY bz k : Nat) (w : World) : Ret Try.prog 3 #[.agg #[.float .f64 ax, .float .f64 ay, .float .f64 az], .agg #[.float .f64 bx, .float .f64 bY, .float .f64 bz], .float .f64 k] w (fun v => v = .bool true) := by
  unfold Ret
  go_enter Try.func3, Try.ntmps3
  go_wp2_with fail
  refine upon_mul (Sm.refl _) (Sm.refl _) ?_
  intro mx nx hmx
  go_wp2_with fail
  refine upon_mul (Sm.refl _) (Sm.refl _) ?_
  intro my ny hmy
  go_wp2_with fail
  refine upon_mul (Sm.refl _) (Sm.refl _) ?_
  intro mz nz hmz
  go_wp2_with fail
  refine wp_region_loose (Cl _) [some (fun v => v = .bool true), none, none, none, some (isV (fadd ax bx) (fadd ay bY) (fadd az bz)), none, none, some (isV (fadd ax bx) (fadd ay bY) (fadd az bz)), some (fun v => v = .bool true), none, none, none, none, some (isV (fsub ax bx) (fsub ay bY) (fsub az bz)), none, none, some (isV (fsub ax bx) (fsub ay bY) (fsub az bz)), some (fun v => v = .bool true), none, none, none, none, some (isV (fmul ax bx) (fmul ay bY) (fmul az bz)), none, some (fun v => v = .bool true), none, none, none, none, some (isV (fmul ax k) (fmul ay k) (fmul az k)), none, none, some (isV (fmul ax k) (fmul ay k) (fmul az k)), some (fun v => v = .bool true), none, none, none, some (isV (fsub 0 ax) (fsub 0 ay) (fsub 0 az)), none, none, some (isV (fsub 0 ax) (fsub 0 ay) (fsub 0 az)), some (fun v => v = .bool true), none, none, none, none, none, none, some (isV (fadd ax (fmul bx k)) (fadd ay (fmul bY k)) (fadd az (fmul bz k))), none, none, none, none, some (isV (fadd ax (fmul bx k)) (fadd ay (fmul bY k)) (fadd az (fmul bz k))), some (fun v => v = .bool true), none] 56 (by kernel_rfl) (by kernel_rfl) (by kernel_rfl) (Cl.drew _) ?_
  have HA : Hid (∀ w', Cl ((((w.alloc (.cells #[.float .f64 ax, .float .f64 ay, .float .f64 az] 24)).alloc (.cells #[.float .f64 bx, .float .f64 bY, .float .f64 bz] 24)).drewN (nx + ny + nz)).alloc (.cells #[.float .f64 mx, .float .f64 my, .float .f64 mz] 24)) w' → _) := fun w' h => h.three (b := w.heap.size) (by go_simp; exact rfl) (by go_simp; exact rfl) (by go_simp; exact rfl) (by go_simp; done)
  have HB : Hid (∀ w', Cl ((((w.alloc (.cells #[.float .f64 ax, .float .f64 ay, .float .f64 az] 24)).alloc (.cells #[.float .f64 bx, .float .f64 bY, .float .f64 bz] 24)).drewN (nx + ny + nz)).alloc (.cells #[.float .f64 mx, .float .f64 my, .float .f64 mz] 24)) w' → _) := fun w' h => h.three (b := w.heap.size + 1) (by go_simp; exact rfl) (by go_simp; exact rfl) (by go_simp; exact rfl) (by go_simp; done)
  have HM : Hid (∀ w', Cl ((((w.alloc (.cells #[.float .f64 ax, .float .f64 ay, .float .f64 az] 24)).alloc (.cells #[.float .f64 bx, .float .f64 bY, .float .f64 bz] 24)).drewN (nx + ny + nz)).alloc (.cells #[.float .f64 mx, .float .f64 my, .float .f64 mz] 24)) w' → _) := fun w' h => h.three (b := w.heap.size + 1 + 1) (by go_simp; exact rfl) (by go_simp; exact rfl) (by go_simp; exact rfl) (by go_simp; done)
  refine loose_any rfl (fun w hw => ?_) (fun K hK => ?_)
  · go_simp
    exact loose_ret (awake_any _) hw
  rintro v rfl
  go_simp
  refine hK _ ?_
  clear hK K
  repeat (
    refine loose_one ?_ rfl (fun w hw => ?_) (fun K hK => ?_)
    rotate_left
    ·obtain ⟨a0, a1, a2⟩ := HA.out _ hw
     obtain ⟨b0, b1, b2⟩ := HB.out _ hw
     obtain ⟨m0, m1, m2⟩ := HM.out _ hw
     go_simp
     exact rfl
    go_simp
    refine hK _ ?_
    clear hK K)
  refine loose_any rfl (fun w hw => ?_) (fun K hK => ?_)
  · go_simp
    exact loose_ret (add_any _ _ _ _ _ _ _) hw
  rintro v ⟨r1x, r1y, r1z, rfl, h1x, h1y, h1z⟩
  go_simp
  refine hK _ ?_
  clear hK K
  repeat (
    refine loose_one ?_ rfl (fun w hw => ?_) (fun K hK => ?_)
    rotate_left
    ·obtain ⟨a0, a1, a2⟩ := HA.out _ hw
     obtain ⟨b0, b1, b2⟩ := HB.out _ hw
     obtain ⟨m0, m1, m2⟩ := HM.out _ hw
     go_simp
     exact rfl
    go_simp
    refine hK _ ?_
    clear hK K)
  refine loose_any rfl (fun w hw => ?_) (fun K hK => ?_)
  · go_simp
    exact loose_ret (radd_any _ _ _ _ _ _ _) hw
  rintro v ⟨r2x, r2y, r2z, rfl, h2x, h2y, h2z⟩
  go_simp
  refine hK _ ?_
  clear hK K
  refine loose_any rfl (fun w hw => ?_) (fun K hK => ?_)
  · go_simp
    exact loose_ret (ris_true (Sm.trans (Eqv.sm h1x) (Sm.symm (Eqv.sm h2x))) (Sm.trans (Eqv.sm h1y) (Sm.symm (Eqv.sm h2y))) (Sm.trans (Eqv.sm h1z) (Sm.symm (Eqv.sm h2z))) _) hw
  rintro v rfl
  go_simp
  refine hK _ ?_
  clear hK K
  repeat (
    refine loose_one ?_ rfl (fun w hw => ?_) (fun K hK => ?_)
    rotate_left
    ·obtain ⟨a0, a1, a2⟩ := HA.out _ hw
     obtain ⟨b0, b1, b2⟩ := HB.out _ hw
     obtain ⟨m0, m1, m2⟩ := HM.out _ hw
     go_simp
     exact rfl
    go_simp
    refine hK _ ?_
    clear hK K)
  refine loose_any rfl (fun w hw => ?_) (fun K hK => ?_)
  · go_simp
    exact loose_ret (sub_any _ _ _ _ _ _ _) hw
  rintro v ⟨r3x, r3y, r3z, rfl, h3x, h3y, h3z⟩
  go_simp
  refine hK _ ?_
  clear hK K
  repeat (
    refine loose_one ?_ rfl (fun w hw => ?_) (fun K hK => ?_)
    rotate_left
    ·obtain ⟨a0, a1, a2⟩ := HA.out _ hw
     obtain ⟨b0, b1, b2⟩ := HB.out _ hw
     obtain ⟨m0, m1, m2⟩ := HM.out _ hw
     go_simp
     exact rfl
    go_simp
    refine hK _ ?_
    clear hK K)
  refine loose_any rfl (fun w hw => ?_) (fun K hK => ?_)
  · go_simp
    exact loose_ret (rsub_any _ _ _ _ _ _ _) hw
  rintro v ⟨r4x, r4y, r4z, rfl, h4x, h4y, h4z⟩
  go_simp
  refine hK _ ?_
  clear hK K
  refine loose_any rfl (fun w hw => ?_) (fun K hK => ?_)
  · go_simp
    exact loose_ret (ris_true (Sm.trans (Eqv.sm h3x) (Sm.symm (Eqv.sm h4x))) (Sm.trans (Eqv.sm h3y) (Sm.symm (Eqv.sm h4y))) (Sm.trans (Eqv.sm h3z) (Sm.symm (Eqv.sm h4z))) _) hw
  rintro v rfl
  go_simp
  refine hK _ ?_
  clear hK K
  repeat (
    refine loose_one ?_ rfl (fun w hw => ?_) (fun K hK => ?_)
    rotate_left
    ·obtain ⟨a0, a1, a2⟩ := HA.out _ hw
     obtain ⟨b0, b1, b2⟩ := HB.out _ hw
     obtain ⟨m0, m1, m2⟩ := HM.out _ hw
     go_simp
     exact rfl
    go_simp
    refine hK _ ?_
    clear hK K)
  refine loose_any rfl (fun w hw => ?_) (fun K hK => ?_)
  · go_simp
    exact loose_ret (mul_any _ _ _ _ _ _ _) hw
  rintro v ⟨r5x, r5y, r5z, rfl, h5x, h5y, h5z⟩
  go_simp
  refine hK _ ?_
  clear hK K
  repeat (
    refine loose_one ?_ rfl (fun w hw => ?_) (fun K hK => ?_)
    rotate_left
    ·obtain ⟨a0, a1, a2⟩ := HA.out _ hw
     obtain ⟨b0, b1, b2⟩ := HB.out _ hw
     obtain ⟨m0, m1, m2⟩ := HM.out _ hw
     go_simp
     exact rfl
    go_simp
    refine hK _ ?_
    clear hK K)
  refine loose_any rfl (fun w hw => ?_) (fun K hK => ?_)
  · go_simp
    exact loose_ret (ris_true (Sm.trans (Eqv.sm h5x) (Sm.symm (Eqv.sm hmx))) (Sm.trans (Eqv.sm h5y) (Sm.symm (Eqv.sm hmy))) (Sm.trans (Eqv.sm h5z) (Sm.symm (Eqv.sm hmz))) _) hw
  rintro v rfl
  go_simp
  refine hK _ ?_
  clear hK K
  repeat (
    refine loose_one ?_ rfl (fun w hw => ?_) (fun K hK => ?_)
    rotate_left
    ·obtain ⟨a0, a1, a2⟩ := HA.out _ hw
     obtain ⟨b0, b1, b2⟩ := HB.out _ hw
     obtain ⟨m0, m1, m2⟩ := HM.out _ hw
     go_simp
     exact rfl
    go_simp
    refine hK _ ?_
    clear hK K)
  refine loose_any rfl (fun w hw => ?_) (fun K hK => ?_)
  · go_simp
    exact loose_ret (scale_any _ _ _ _ _) hw
  rintro v ⟨r6x, r6y, r6z, rfl, h6x, h6y, h6z⟩
  go_simp
  refine hK _ ?_
  clear hK K
  repeat (
    refine loose_one ?_ rfl (fun w hw => ?_) (fun K hK => ?_)
    rotate_left
    ·obtain ⟨a0, a1, a2⟩ := HA.out _ hw
     obtain ⟨b0, b1, b2⟩ := HB.out _ hw
     obtain ⟨m0, m1, m2⟩ := HM.out _ hw
     go_simp
     exact rfl
    go_simp
    refine hK _ ?_
    clear hK K)
  refine loose_any rfl (fun w hw => ?_) (fun K hK => ?_)
  · go_simp
    exact loose_ret (rscale_any _ _ _ _ _) hw
  rintro v ⟨r7x, r7y, r7z, rfl, h7x, h7y, h7z⟩
  go_simp
  refine hK _ ?_
  clear hK K
  refine loose_any rfl (fun w hw => ?_) (fun K hK => ?_)
  · go_simp
    exact loose_ret (ris_true (Sm.trans (Eqv.sm h6x) (Sm.symm (Eqv.sm h7x))) (Sm.trans (Eqv.sm h6y) (Sm.symm (Eqv.sm h7y))) (Sm.trans (Eqv.sm h6z) (Sm.symm (Eqv.sm h7z))) _) hw
  rintro v rfl
  go_simp
  refine hK _ ?_
  clear hK K
  repeat (
    refine loose_one ?_ rfl (fun w hw => ?_) (fun K hK => ?_)
    rotate_left
    ·obtain ⟨a0, a1, a2⟩ := HA.out _ hw
     obtain ⟨b0, b1, b2⟩ := HB.out _ hw
     obtain ⟨m0, m1, m2⟩ := HM.out _ hw
     go_simp
     exact rfl
    go_simp
    refine hK _ ?_
    clear hK K)
  refine loose_any rfl (fun w hw => ?_) (fun K hK => ?_)
  · go_simp
    exact loose_ret (neg_any _ _ _ _) hw
  rintro v ⟨r8x, r8y, r8z, rfl, h8x, h8y, h8z⟩
  go_simp
  refine hK _ ?_
  clear hK K
  repeat (
    refine loose_one ?_ rfl (fun w hw => ?_) (fun K hK => ?_)
    rotate_left
    ·obtain ⟨a0, a1, a2⟩ := HA.out _ hw
     obtain ⟨b0, b1, b2⟩ := HB.out _ hw
     obtain ⟨m0, m1, m2⟩ := HM.out _ hw
     go_simp
     exact rfl
    go_simp
    refine hK _ ?_
    clear hK K)
  refine loose_any rfl (fun w hw => ?_) (fun K hK => ?_)
  · go_simp
    exact loose_ret (rsub_any _ _ _ _ _ _ _) hw
  rintro v ⟨r9x, r9y, r9z, rfl, h9x, h9y, h9z⟩
  go_simp
  refine hK _ ?_
  clear hK K
  refine loose_any rfl (fun w hw => ?_) (fun K hK => ?_)
  · go_simp
    exact loose_ret (ris_true (Sm.trans (Eqv.sm h8x) (Sm.symm (Eqv.sm h9x))) (Sm.trans (Eqv.sm h8y) (Sm.symm (Eqv.sm h9y))) (Sm.trans (Eqv.sm h8z) (Sm.symm (Eqv.sm h9z))) _) hw
  rintro v rfl
  go_simp
  refine hK _ ?_
  clear hK K
  repeat (
    refine loose_one ?_ rfl (fun w hw => ?_) (fun K hK => ?_)
    rotate_left
    ·obtain ⟨a0, a1, a2⟩ := HA.out _ hw
     obtain ⟨b0, b1, b2⟩ := HB.out _ hw
     obtain ⟨m0, m1, m2⟩ := HM.out _ hw
     go_simp
     exact rfl
    go_simp
    refine hK _ ?_
    clear hK K)
  refine loose_any rfl (fun w hw => ?_) (fun K hK => ?_)
  · go_simp
    exact loose_ret (along_any _ _ _ _ _ _ _ _) hw
  rintro v ⟨r10x, r10y, r10z, rfl, h10x, h10y, h10z⟩
  go_simp
  refine hK _ ?_
  clear hK K
  repeat (
    refine loose_one ?_ rfl (fun w hw => ?_) (fun K hK => ?_)
    rotate_left
    ·obtain ⟨a0, a1, a2⟩ := HA.out _ hw
     obtain ⟨b0, b1, b2⟩ := HB.out _ hw
     obtain ⟨m0, m1, m2⟩ := HM.out _ hw
     go_simp
     exact rfl
    go_simp
    refine hK _ ?_
    clear hK K)
  refine loose_any rfl (fun w hw => ?_) (fun K hK => ?_)
  · go_simp
    exact loose_ret (ralong_any _ _ _ _ _ _ _ _) hw
  rintro v ⟨r11x, r11y, r11z, rfl, h11x, h11y, h11z⟩
  go_simp
  refine hK _ ?_
  clear hK K
  refine loose_any rfl (fun w hw => ?_) (fun K hK => ?_)
  · go_simp
    exact loose_ret (ris_true (Sm.trans (Eqv.sm h10x) (Sm.symm (Eqv.sm h11x))) (Sm.trans (Eqv.sm h10y) (Sm.symm (Eqv.sm h11y))) (Sm.trans (Eqv.sm h10z) (Sm.symm (Eqv.sm h11z))) _) hw
  rintro v rfl
  go_simp
  refine hK _ ?_
  clear hK K
  repeat (
    refine loose_one ?_ rfl (fun w hw => ?_) (fun K hK => ?_)
    rotate_left
    ·obtain ⟨a0, a1, a2⟩ := HA.out _ hw
     obtain ⟨b0, b1, b2⟩ := HB.out _ hw
     obtain ⟨m0, m1, m2⟩ := HM.out _ hw
     go_simp
     exact rfl
    go_simp
    refine hK _ ?_
    clear hK K)
  intro w' hw'
  go_wp2_with fail
  go_ret
  exact ⟨_, rfl, rfl, (Cl.out2 (Cl.alloc (Cl.drewN (Below.refl _ _) _) _)).trans (Below.mono hw' (by simp; omega))⟩

end Go.Proofs.Ytcpbehnjjnhcnaa
