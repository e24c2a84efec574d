/- pairs, with each function that it is given. -/
import Derived.Test.YtgimkcbegalepaaVd
namespace Go.Proofs.Ytgimkcbegalepaa
open Go.RowKit Fl

set_option maxRecDepth 100000 in
set_option maxHeartbeats 1000000 in
theorem pairs_add (ax ay az bx bY bz : Nat) (w : World) : Ret Try.prog 51 #[.agg #[.float .f64 ax, .float .f64 ay, .float .f64 az], .agg #[.float .f64 bx, .float .f64 bY, .float .f64 bz], .func (.func 52) #[] #[]] w (isV (fadd ax bx) (fadd ay bY) (fadd az bz)) := by
  unfold Ret
  go_enter Try.func51, Try.ntmps51
  go_wp2_with fail
  refine wp_region_loose (Cl _) [none, none, none, none, none, some (isF (fadd ax bx)), none, none, none, none, none, some (isF (fadd ay bY)), none, none, none, none, none, some (isF (fadd az bz)), none] 19 (by kernel_rfl) (by kernel_rfl) (by kernel_rfl) (Cl.drew _) ?_
  have HA : Hid (∀ w', Cl (((w.alloc (.cells #[.float .f64 ax, .float .f64 ay, .float .f64 az] 24)).alloc (.cells #[.float .f64 bx, .float .f64 bY, .float .f64 bz] 24)).alloc (.cells #[.float .f64 0, .float .f64 0, .float .f64 0] 24)) w' → _) := fun w' h => h.three (b := w.heap.size) (by go_simp; exact rfl) (by go_simp; exact rfl) (by go_simp; exact rfl) (by go_simp; done)
  have HB : Hid (∀ w', Cl (((w.alloc (.cells #[.float .f64 ax, .float .f64 ay, .float .f64 az] 24)).alloc (.cells #[.float .f64 bx, .float .f64 bY, .float .f64 bz] 24)).alloc (.cells #[.float .f64 0, .float .f64 0, .float .f64 0] 24)) w' → _) := fun w' h => h.three (b := w.heap.size + 1) (by go_simp; exact rfl) (by go_simp; exact rfl) (by go_simp; exact rfl) (by go_simp; done)
  have HZ : Hid (∀ w', Cl (((w.alloc (.cells #[.float .f64 ax, .float .f64 ay, .float .f64 az] 24)).alloc (.cells #[.float .f64 bx, .float .f64 bY, .float .f64 bz] 24)).alloc (.cells #[.float .f64 0, .float .f64 0, .float .f64 0] 24)) w' → _) := fun w' h => h.three (b := w.heap.size + 1 + 1) (by go_simp; exact rfl) (by go_simp; exact rfl) (by go_simp; exact rfl) (by go_simp; done)
  have HY : Hid (∀ w', Cl (((w.alloc (.cells #[.float .f64 ax, .float .f64 ay, .float .f64 az] 24)).alloc (.cells #[.float .f64 bx, .float .f64 bY, .float .f64 bz] 24)).alloc (.cells #[.float .f64 0, .float .f64 0, .float .f64 0] 24)) w' → _) := fun w' h => h.frz (b := w.heap.size + 1 + 1) (by go_simp; done) (by go_simp; done) (by go_simp; done) (by go_simp; done)
  repeat (
    refine loose_one ?_ rfl (fun w hw => ?_) (fun K hK => ?_)
    rotate_left
    ·obtain ⟨a0, a1, a2⟩ := HA.out _ hw
     obtain ⟨b0, b1, b2⟩ := HB.out _ hw
     go_simp
     exact rfl
    go_simp
    refine hK _ ?_
    clear hK K)
  refine loose_any rfl (fun w hw => ?_) (fun K hK => ?_)
  · go_simp
    exact loose_ret (add1 _ _ _) hw
  rintro v ⟨r1, rfl, h1⟩
  go_simp
  refine hK _ ?_
  clear hK K
  repeat (
    refine loose_one ?_ rfl (fun w hw => ?_) (fun K hK => ?_)
    rotate_left
    ·obtain ⟨a0, a1, a2⟩ := HA.out _ hw
     obtain ⟨b0, b1, b2⟩ := HB.out _ hw
     go_simp
     exact rfl
    go_simp
    refine hK _ ?_
    clear hK K)
  refine loose_any rfl (fun w hw => ?_) (fun K hK => ?_)
  · go_simp
    exact loose_ret (add1 _ _ _) hw
  rintro v ⟨r2, rfl, h2⟩
  go_simp
  refine hK _ ?_
  clear hK K
  repeat (
    refine loose_one ?_ rfl (fun w hw => ?_) (fun K hK => ?_)
    rotate_left
    ·obtain ⟨a0, a1, a2⟩ := HA.out _ hw
     obtain ⟨b0, b1, b2⟩ := HB.out _ hw
     go_simp
     exact rfl
    go_simp
    refine hK _ ?_
    clear hK K)
  refine loose_any rfl (fun w hw => ?_) (fun K hK => ?_)
  · go_simp
    exact loose_ret (add1 _ _ _) hw
  rintro v ⟨r3, rfl, h3⟩
  go_simp
  refine hK _ ?_
  clear hK K
  repeat (
    refine loose_one ?_ rfl (fun w hw => ?_) (fun K hK => ?_)
    rotate_left
    ·obtain ⟨a0, a1, a2⟩ := HA.out _ hw
     obtain ⟨b0, b1, b2⟩ := HB.out _ hw
     go_simp
     exact rfl
    go_simp
    refine hK _ ?_
    clear hK K)
  intro w' hw'
  obtain ⟨z0, z1, z2⟩ := HZ.out _ hw'
  obtain ⟨f0, f1, f2⟩ := HY.out _ hw'
  have HW : Hid (Cl (((w.alloc (.cells #[.float .f64 ax, .float .f64 ay, .float .f64 az] 24)).alloc (.cells #[.float .f64 bx, .float .f64 bY, .float .f64 bz] 24)).alloc (.cells #[.float .f64 0, .float .f64 0, .float .f64 0] 24)) w') := hw'
  clear hw'
  go_wp2_with fail
  refine bodyPost_ret (v := .agg #[.float .f64 r1, .float .f64 r2, .float .f64 r3]) (by simp [results, go_sem, z0, z1, z2]) rfl ⟨_, rfl, ⟨_, _, _, rfl, by assumption, by assumption, by assumption⟩, ((((HW.out.out3).setCell (by simp <;> omega) _).setCell (by simp <;> omega) _).setCell (by simp <;> omega) _)⟩

set_option maxRecDepth 100000 in
set_option maxHeartbeats 1000000 in
theorem pairs_sub (ax ay az bx bY bz : Nat) (w : World) : Ret Try.prog 51 #[.agg #[.float .f64 ax, .float .f64 ay, .float .f64 az], .agg #[.float .f64 bx, .float .f64 bY, .float .f64 bz], .func (.func 53) #[] #[]] w (isV (fsub ax bx) (fsub ay bY) (fsub az bz)) := by
  unfold Ret
  go_enter Try.func51, Try.ntmps51
  go_wp2_with fail
  refine wp_region_loose (Cl _) [none, none, none, none, none, some (isF (fsub ax bx)), none, none, none, none, none, some (isF (fsub ay bY)), none, none, none, none, none, some (isF (fsub az bz)), none] 19 (by kernel_rfl) (by kernel_rfl) (by kernel_rfl) (Cl.drew _) ?_
  have HA : Hid (∀ w', Cl (((w.alloc (.cells #[.float .f64 ax, .float .f64 ay, .float .f64 az] 24)).alloc (.cells #[.float .f64 bx, .float .f64 bY, .float .f64 bz] 24)).alloc (.cells #[.float .f64 0, .float .f64 0, .float .f64 0] 24)) w' → _) := fun w' h => h.three (b := w.heap.size) (by go_simp; exact rfl) (by go_simp; exact rfl) (by go_simp; exact rfl) (by go_simp; done)
  have HB : Hid (∀ w', Cl (((w.alloc (.cells #[.float .f64 ax, .float .f64 ay, .float .f64 az] 24)).alloc (.cells #[.float .f64 bx, .float .f64 bY, .float .f64 bz] 24)).alloc (.cells #[.float .f64 0, .float .f64 0, .float .f64 0] 24)) w' → _) := fun w' h => h.three (b := w.heap.size + 1) (by go_simp; exact rfl) (by go_simp; exact rfl) (by go_simp; exact rfl) (by go_simp; done)
  have HZ : Hid (∀ w', Cl (((w.alloc (.cells #[.float .f64 ax, .float .f64 ay, .float .f64 az] 24)).alloc (.cells #[.float .f64 bx, .float .f64 bY, .float .f64 bz] 24)).alloc (.cells #[.float .f64 0, .float .f64 0, .float .f64 0] 24)) w' → _) := fun w' h => h.three (b := w.heap.size + 1 + 1) (by go_simp; exact rfl) (by go_simp; exact rfl) (by go_simp; exact rfl) (by go_simp; done)
  have HY : Hid (∀ w', Cl (((w.alloc (.cells #[.float .f64 ax, .float .f64 ay, .float .f64 az] 24)).alloc (.cells #[.float .f64 bx, .float .f64 bY, .float .f64 bz] 24)).alloc (.cells #[.float .f64 0, .float .f64 0, .float .f64 0] 24)) w' → _) := fun w' h => h.frz (b := w.heap.size + 1 + 1) (by go_simp; done) (by go_simp; done) (by go_simp; done) (by go_simp; done)
  repeat (
    refine loose_one ?_ rfl (fun w hw => ?_) (fun K hK => ?_)
    rotate_left
    ·obtain ⟨a0, a1, a2⟩ := HA.out _ hw
     obtain ⟨b0, b1, b2⟩ := HB.out _ hw
     go_simp
     exact rfl
    go_simp
    refine hK _ ?_
    clear hK K)
  refine loose_any rfl (fun w hw => ?_) (fun K hK => ?_)
  · go_simp
    exact loose_ret (sub1 _ _ _) hw
  rintro v ⟨r1, rfl, h1⟩
  go_simp
  refine hK _ ?_
  clear hK K
  repeat (
    refine loose_one ?_ rfl (fun w hw => ?_) (fun K hK => ?_)
    rotate_left
    ·obtain ⟨a0, a1, a2⟩ := HA.out _ hw
     obtain ⟨b0, b1, b2⟩ := HB.out _ hw
     go_simp
     exact rfl
    go_simp
    refine hK _ ?_
    clear hK K)
  refine loose_any rfl (fun w hw => ?_) (fun K hK => ?_)
  · go_simp
    exact loose_ret (sub1 _ _ _) hw
  rintro v ⟨r2, rfl, h2⟩
  go_simp
  refine hK _ ?_
  clear hK K
  repeat (
    refine loose_one ?_ rfl (fun w hw => ?_) (fun K hK => ?_)
    rotate_left
    ·obtain ⟨a0, a1, a2⟩ := HA.out _ hw
     obtain ⟨b0, b1, b2⟩ := HB.out _ hw
     go_simp
     exact rfl
    go_simp
    refine hK _ ?_
    clear hK K)
  refine loose_any rfl (fun w hw => ?_) (fun K hK => ?_)
  · go_simp
    exact loose_ret (sub1 _ _ _) hw
  rintro v ⟨r3, rfl, h3⟩
  go_simp
  refine hK _ ?_
  clear hK K
  repeat (
    refine loose_one ?_ rfl (fun w hw => ?_) (fun K hK => ?_)
    rotate_left
    ·obtain ⟨a0, a1, a2⟩ := HA.out _ hw
     obtain ⟨b0, b1, b2⟩ := HB.out _ hw
     go_simp
     exact rfl
    go_simp
    refine hK _ ?_
    clear hK K)
  intro w' hw'
  obtain ⟨z0, z1, z2⟩ := HZ.out _ hw'
  obtain ⟨f0, f1, f2⟩ := HY.out _ hw'
  have HW : Hid (Cl (((w.alloc (.cells #[.float .f64 ax, .float .f64 ay, .float .f64 az] 24)).alloc (.cells #[.float .f64 bx, .float .f64 bY, .float .f64 bz] 24)).alloc (.cells #[.float .f64 0, .float .f64 0, .float .f64 0] 24)) w') := hw'
  clear hw'
  go_wp2_with fail
  refine bodyPost_ret (v := .agg #[.float .f64 r1, .float .f64 r2, .float .f64 r3]) (by simp [results, go_sem, z0, z1, z2]) rfl ⟨_, rfl, ⟨_, _, _, rfl, by assumption, by assumption, by assumption⟩, ((((HW.out.out3).setCell (by simp <;> omega) _).setCell (by simp <;> omega) _).setCell (by simp <;> omega) _)⟩

set_option maxRecDepth 100000 in
set_option maxHeartbeats 1000000 in
theorem pairs_mul (ax ay az bx bY bz : Nat) (w : World) : Ret Try.prog 51 #[.agg #[.float .f64 ax, .float .f64 ay, .float .f64 az], .agg #[.float .f64 bx, .float .f64 bY, .float .f64 bz], .func (.func 50) #[] #[]] w (isV (fmul ax bx) (fmul ay bY) (fmul az bz)) := by
  unfold Ret
  go_enter Try.func51, Try.ntmps51
  go_wp2_with fail
  refine wp_region_loose (Cl _) [none, none, none, none, none, some (isF (fmul ax bx)), none, none, none, none, none, some (isF (fmul ay bY)), none, none, none, none, none, some (isF (fmul az bz)), none] 19 (by kernel_rfl) (by kernel_rfl) (by kernel_rfl) (Cl.drew _) ?_
  have HA : Hid (∀ w', Cl (((w.alloc (.cells #[.float .f64 ax, .float .f64 ay, .float .f64 az] 24)).alloc (.cells #[.float .f64 bx, .float .f64 bY, .float .f64 bz] 24)).alloc (.cells #[.float .f64 0, .float .f64 0, .float .f64 0] 24)) w' → _) := fun w' h => h.three (b := w.heap.size) (by go_simp; exact rfl) (by go_simp; exact rfl) (by go_simp; exact rfl) (by go_simp; done)
  have HB : Hid (∀ w', Cl (((w.alloc (.cells #[.float .f64 ax, .float .f64 ay, .float .f64 az] 24)).alloc (.cells #[.float .f64 bx, .float .f64 bY, .float .f64 bz] 24)).alloc (.cells #[.float .f64 0, .float .f64 0, .float .f64 0] 24)) w' → _) := fun w' h => h.three (b := w.heap.size + 1) (by go_simp; exact rfl) (by go_simp; exact rfl) (by go_simp; exact rfl) (by go_simp; done)
  have HZ : Hid (∀ w', Cl (((w.alloc (.cells #[.float .f64 ax, .float .f64 ay, .float .f64 az] 24)).alloc (.cells #[.float .f64 bx, .float .f64 bY, .float .f64 bz] 24)).alloc (.cells #[.float .f64 0, .float .f64 0, .float .f64 0] 24)) w' → _) := fun w' h => h.three (b := w.heap.size + 1 + 1) (by go_simp; exact rfl) (by go_simp; exact rfl) (by go_simp; exact rfl) (by go_simp; done)
  have HY : Hid (∀ w', Cl (((w.alloc (.cells #[.float .f64 ax, .float .f64 ay, .float .f64 az] 24)).alloc (.cells #[.float .f64 bx, .float .f64 bY, .float .f64 bz] 24)).alloc (.cells #[.float .f64 0, .float .f64 0, .float .f64 0] 24)) w' → _) := fun w' h => h.frz (b := w.heap.size + 1 + 1) (by go_simp; done) (by go_simp; done) (by go_simp; done) (by go_simp; done)
  repeat (
    refine loose_one ?_ rfl (fun w hw => ?_) (fun K hK => ?_)
    rotate_left
    ·obtain ⟨a0, a1, a2⟩ := HA.out _ hw
     obtain ⟨b0, b1, b2⟩ := HB.out _ hw
     go_simp
     exact rfl
    go_simp
    refine hK _ ?_
    clear hK K)
  refine loose_any rfl (fun w hw => ?_) (fun K hK => ?_)
  · go_simp
    exact loose_ret (product_any _ _ _) hw
  rintro v ⟨r1, rfl, h1⟩
  go_simp
  refine hK _ ?_
  clear hK K
  repeat (
    refine loose_one ?_ rfl (fun w hw => ?_) (fun K hK => ?_)
    rotate_left
    ·obtain ⟨a0, a1, a2⟩ := HA.out _ hw
     obtain ⟨b0, b1, b2⟩ := HB.out _ hw
     go_simp
     exact rfl
    go_simp
    refine hK _ ?_
    clear hK K)
  refine loose_any rfl (fun w hw => ?_) (fun K hK => ?_)
  · go_simp
    exact loose_ret (product_any _ _ _) hw
  rintro v ⟨r2, rfl, h2⟩
  go_simp
  refine hK _ ?_
  clear hK K
  repeat (
    refine loose_one ?_ rfl (fun w hw => ?_) (fun K hK => ?_)
    rotate_left
    ·obtain ⟨a0, a1, a2⟩ := HA.out _ hw
     obtain ⟨b0, b1, b2⟩ := HB.out _ hw
     go_simp
     exact rfl
    go_simp
    refine hK _ ?_
    clear hK K)
  refine loose_any rfl (fun w hw => ?_) (fun K hK => ?_)
  · go_simp
    exact loose_ret (product_any _ _ _) hw
  rintro v ⟨r3, rfl, h3⟩
  go_simp
  refine hK _ ?_
  clear hK K
  repeat (
    refine loose_one ?_ rfl (fun w hw => ?_) (fun K hK => ?_)
    rotate_left
    ·obtain ⟨a0, a1, a2⟩ := HA.out _ hw
     obtain ⟨b0, b1, b2⟩ := HB.out _ hw
     go_simp
     exact rfl
    go_simp
    refine hK _ ?_
    clear hK K)
  intro w' hw'
  obtain ⟨z0, z1, z2⟩ := HZ.out _ hw'
  obtain ⟨f0, f1, f2⟩ := HY.out _ hw'
  have HW : Hid (Cl (((w.alloc (.cells #[.float .f64 ax, .float .f64 ay, .float .f64 az] 24)).alloc (.cells #[.float .f64 bx, .float .f64 bY, .float .f64 bz] 24)).alloc (.cells #[.float .f64 0, .float .f64 0, .float .f64 0] 24)) w') := hw'
  clear hw'
  go_wp2_with fail
  refine bodyPost_ret (v := .agg #[.float .f64 r1, .float .f64 r2, .float .f64 r3]) (by simp [results, go_sem, z0, z1, z2]) rfl ⟨_, rfl, ⟨_, _, _, rfl, by assumption, by assumption, by assumption⟩, ((((HW.out.out3).setCell (by simp <;> omega) _).setCell (by simp <;> omega) _).setCell (by simp <;> omega) _)⟩

end Go.Proofs.Ytgimkcbegalepaa
