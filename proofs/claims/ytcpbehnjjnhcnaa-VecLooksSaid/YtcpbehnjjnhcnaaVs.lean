/- The reference: Finite, Along, Cross, Unit. -/
import Derived.Test.YtcpbehnjjnhcnaaVr
namespace Go.Proofs.Ytcpbehnjjnhcnaa
open Go.RowKit Fl

set_option maxRecDepth 100000 in
set_option maxHeartbeats 1000000 in
theorem rfinite_any (ax ay az : Nat) (w : World) : Ret Try.prog 30 #[.agg #[.float .f64 ax, .float .f64 ay, .float .f64 az]] w (fun v => v = .bool (numB ax && numB ay && numB az)) := by
  unfold Ret
  have HX : Hid _ := rnumber_any ax
  have HY : Hid _ := rnumber_any ay
  have HZ : Hid _ := rnumber_any az
  generalize numB ax = p at HX ⊢
  generalize numB ay = q at HY ⊢
  generalize numB az = s at HZ ⊢
  cases p <;> cases q <;> cases s <;>
  · go_enter Try.func30, Try.ntmps30
    go_wp2_with fail
    refine Calls.mono (HX.out _) ?_
    rintro e w' ⟨rfl, n1, rfl⟩
    go_wp2_with fail
    try
      refine Calls.mono (HY.out _) ?_
      rintro e w' ⟨rfl, n2, rfl⟩
      go_wp2_with fail
    try
      refine Calls.mono (HZ.out _) ?_
      rintro e w' ⟨rfl, n3, rfl⟩
      go_wp2_with fail
    go_ret
    exact ⟨_, rfl, rfl, Cl.out1 (Cl.drewN (Below.refl _ _) _)⟩

set_option maxRecDepth 100000 in
set_option maxHeartbeats 1000000 in
theorem ralong_any (ax ay az bx bY bz k : Nat) (w : World) : Ret Try.prog 18 #[.agg #[.float .f64 ax, .float .f64 ay, .float .f64 az, .float .f64 bx, .float .f64 bY, .float .f64 bz], .float .f64 k] w (isV (fadd ax (fmul bx k)) (fadd ay (fmul bY k)) (fadd az (fmul bz k))) := by
  unfold Ret
  go_enter Try.func18, Try.ntmps18
  go_wp2_with fail
  refine wp_region_loose (Cl _) [none, none, none, none, none, some (isV (fmul bx k) (fmul bY k) (fmul bz k)), some (isV (fadd ax (fmul bx k)) (fadd ay (fmul bY k)) (fadd az (fmul bz k)))] 7 (by kernel_rfl) (by kernel_rfl) (by kernel_rfl) (Cl.drew _) ?_
  have HA : Hid (∀ w', Cl ((w.alloc (.cells #[.float .f64 ax, .float .f64 ay, .float .f64 az, .float .f64 bx, .float .f64 bY, .float .f64 bz] 32)).alloc (.cells #[.float .f64 0, .float .f64 0, .float .f64 0] 24)) w' → _) := fun w' h => h.three (b := w.heap.size) (by go_simp; exact rfl) (by go_simp; exact rfl) (by go_simp; exact rfl) (by go_simp; done)
  have HB : Hid (∀ w', Cl ((w.alloc (.cells #[.float .f64 ax, .float .f64 ay, .float .f64 az, .float .f64 bx, .float .f64 bY, .float .f64 bz] 32)).alloc (.cells #[.float .f64 0, .float .f64 0, .float .f64 0] 24)) w' → _) := fun w' h => h.next3 (b := w.heap.size) (by go_simp; exact rfl) (by go_simp; exact rfl) (by go_simp; exact rfl) (by go_simp; done)
  have HZ : Hid (∀ w', Cl ((w.alloc (.cells #[.float .f64 ax, .float .f64 ay, .float .f64 az, .float .f64 bx, .float .f64 bY, .float .f64 bz] 32)).alloc (.cells #[.float .f64 0, .float .f64 0, .float .f64 0] 24)) w' → _) := fun w' h => h.three (b := w.heap.size + 1) (by go_simp; exact rfl) (by go_simp; exact rfl) (by go_simp; exact rfl) (by go_simp; done)
  have HY : Hid (∀ w', Cl ((w.alloc (.cells #[.float .f64 ax, .float .f64 ay, .float .f64 az, .float .f64 bx, .float .f64 bY, .float .f64 bz] 32)).alloc (.cells #[.float .f64 0, .float .f64 0, .float .f64 0] 24)) w' → _) := fun w' h => h.frz (b := w.heap.size + 1) (by go_simp; done) (by go_simp; done) (by go_simp; done) (by go_simp; done)
  repeat (
    refine loose_one ?_ rfl (fun w hw => ?_) (fun K hK => ?_)
    rotate_left
    ·obtain ⟨a0, a1, a2⟩ := HA.out _ hw
     obtain ⟨b0, b1, b2⟩ := HB.out _ hw
     go_simp
     exact rfl
    go_simp
    refine hK _ ?_
    clear hK K)
  refine loose_any rfl (fun w hw => ?_) (fun K hK => ?_)
  · go_simp
    exact loose_ret (rscale_any _ _ _ _ _) hw
  rintro v ⟨r1x, r1y, r1z, rfl, h1x, h1y, h1z⟩
  go_simp
  refine hK _ ?_
  clear hK K
  refine loose_any rfl (fun w hw => ?_) (fun K hK => ?_)
  · go_simp
    exact loose_ret (Ret.mono (radd_any _ _ _ _ _ _ _) (isV.to (fadd_congr (Sm.refl _) h1x.sm) (fadd_congr (Sm.refl _) h1y.sm) (fadd_congr (Sm.refl _) h1z.sm))) hw
  rintro v ⟨r2x, r2y, r2z, rfl, h2x, h2y, h2z⟩
  go_simp
  refine hK _ ?_
  clear hK K
  intro w' hw'
  obtain ⟨z0, z1, z2⟩ := HZ.out _ hw'
  obtain ⟨f0, f1, f2⟩ := HY.out _ hw'
  have HW : Hid (Cl ((w.alloc (.cells #[.float .f64 ax, .float .f64 ay, .float .f64 az, .float .f64 bx, .float .f64 bY, .float .f64 bz] 32)).alloc (.cells #[.float .f64 0, .float .f64 0, .float .f64 0] 24)) w') := hw'
  clear hw'
  go_wp2_with fail
  refine bodyPost_ret (v := .agg #[.float .f64 r2x, .float .f64 r2y, .float .f64 r2z]) (by simp [results, go_sem, z0, z1, z2]) rfl ⟨_, rfl, ⟨_, _, _, rfl, by assumption, by assumption, by assumption⟩, ((((HW.out.out2).setCell (by simp <;> omega) _).setCell (by simp <;> omega) _).setCell (by simp <;> omega) _)⟩

set_option maxRecDepth 100000 in
set_option maxHeartbeats 1000000 in
theorem rcross_any (ax ay az bx bY bz : Nat) (w : World) : Ret Try.prog 23 #[.agg #[.float .f64 ax, .float .f64 ay, .float .f64 az], .agg #[.float .f64 bx, .float .f64 bY, .float .f64 bz]] w (isV (fsub (fmul ay bz) (fmul az bY)) (fsub (fmul az bx) (fmul ax bz)) (fsub (fmul ax bY) (fmul ay bx))) := by
  unfold Ret
  go_enter Try.func23, Try.ntmps23
  go_wp2_with fail
  refine wp_region_loose (Cl _) [none, none, none, none, none, none, none, none, some (isF (fsub (fmul ay bz) (fmul az bY))), none, none, none, none, none, none, none, none, some (isF (fsub (fmul az bx) (fmul ax bz))), none, none, none, none, none, none, none, none, some (isF (fsub (fmul ax bY) (fmul ay bx))), none] 28 (by kernel_rfl) (by kernel_rfl) (by kernel_rfl) (Cl.drew _) ?_
  have HA : Hid (∀ w', Cl (((w.alloc (.cells #[.float .f64 ax, .float .f64 ay, .float .f64 az] 24)).alloc (.cells #[.float .f64 bx, .float .f64 bY, .float .f64 bz] 24)).alloc (.cells #[.float .f64 0, .float .f64 0, .float .f64 0] 24)) w' → _) := fun w' h => h.three (b := w.heap.size) (by go_simp; exact rfl) (by go_simp; exact rfl) (by go_simp; exact rfl) (by go_simp; done)
  have HB : Hid (∀ w', Cl (((w.alloc (.cells #[.float .f64 ax, .float .f64 ay, .float .f64 az] 24)).alloc (.cells #[.float .f64 bx, .float .f64 bY, .float .f64 bz] 24)).alloc (.cells #[.float .f64 0, .float .f64 0, .float .f64 0] 24)) w' → _) := fun w' h => h.three (b := w.heap.size + 1) (by go_simp; exact rfl) (by go_simp; exact rfl) (by go_simp; exact rfl) (by go_simp; done)
  have HZ : Hid (∀ w', Cl (((w.alloc (.cells #[.float .f64 ax, .float .f64 ay, .float .f64 az] 24)).alloc (.cells #[.float .f64 bx, .float .f64 bY, .float .f64 bz] 24)).alloc (.cells #[.float .f64 0, .float .f64 0, .float .f64 0] 24)) w' → _) := fun w' h => h.three (b := w.heap.size + 1 + 1) (by go_simp; exact rfl) (by go_simp; exact rfl) (by go_simp; exact rfl) (by go_simp; done)
  have HY : Hid (∀ w', Cl (((w.alloc (.cells #[.float .f64 ax, .float .f64 ay, .float .f64 az] 24)).alloc (.cells #[.float .f64 bx, .float .f64 bY, .float .f64 bz] 24)).alloc (.cells #[.float .f64 0, .float .f64 0, .float .f64 0] 24)) w' → _) := fun w' h => h.frz (b := w.heap.size + 1 + 1) (by go_simp; done) (by go_simp; done) (by go_simp; done) (by go_simp; done)
  repeat (
    refine loose_one ?_ rfl (fun w hw => ?_) (fun K hK => ?_)
    rotate_left
    ·obtain ⟨a0, a1, a2⟩ := HA.out _ hw
     obtain ⟨b0, b1, b2⟩ := HB.out _ hw
     go_simp
     exact rfl
    go_simp
    refine hK _ ?_
    clear hK K)
  refine loose_any rfl (fun w hw => ?_) (fun K hK => ?_)
  · go_simp
    exact loose_ret (less_any _ _ _ _ _) hw
  rintro v ⟨r1, rfl, h1⟩
  go_simp
  refine hK _ ?_
  clear hK K
  repeat (
    refine loose_one ?_ rfl (fun w hw => ?_) (fun K hK => ?_)
    rotate_left
    ·obtain ⟨a0, a1, a2⟩ := HA.out _ hw
     obtain ⟨b0, b1, b2⟩ := HB.out _ hw
     go_simp
     exact rfl
    go_simp
    refine hK _ ?_
    clear hK K)
  refine loose_any rfl (fun w hw => ?_) (fun K hK => ?_)
  · go_simp
    exact loose_ret (less_any _ _ _ _ _) hw
  rintro v ⟨r2, rfl, h2⟩
  go_simp
  refine hK _ ?_
  clear hK K
  repeat (
    refine loose_one ?_ rfl (fun w hw => ?_) (fun K hK => ?_)
    rotate_left
    ·obtain ⟨a0, a1, a2⟩ := HA.out _ hw
     obtain ⟨b0, b1, b2⟩ := HB.out _ hw
     go_simp
     exact rfl
    go_simp
    refine hK _ ?_
    clear hK K)
  refine loose_any rfl (fun w hw => ?_) (fun K hK => ?_)
  · go_simp
    exact loose_ret (less_any _ _ _ _ _) hw
  rintro v ⟨r3, rfl, h3⟩
  go_simp
  refine hK _ ?_
  clear hK K
  repeat (
    refine loose_one ?_ rfl (fun w hw => ?_) (fun K hK => ?_)
    rotate_left
    ·obtain ⟨a0, a1, a2⟩ := HA.out _ hw
     obtain ⟨b0, b1, b2⟩ := HB.out _ hw
     go_simp
     exact rfl
    go_simp
    refine hK _ ?_
    clear hK K)
  intro w' hw'
  obtain ⟨z0, z1, z2⟩ := HZ.out _ hw'
  obtain ⟨f0, f1, f2⟩ := HY.out _ hw'
  have HW : Hid (Cl (((w.alloc (.cells #[.float .f64 ax, .float .f64 ay, .float .f64 az] 24)).alloc (.cells #[.float .f64 bx, .float .f64 bY, .float .f64 bz] 24)).alloc (.cells #[.float .f64 0, .float .f64 0, .float .f64 0] 24)) w') := hw'
  clear hw'
  go_wp2_with fail
  refine bodyPost_ret (v := .agg #[.float .f64 r1, .float .f64 r2, .float .f64 r3]) (by simp [results, go_sem, z0, z1, z2]) rfl ⟨_, rfl, ⟨_, _, _, rfl, by assumption, by assumption, by assumption⟩, ((((HW.out.out3).setCell (by simp <;> omega) _).setCell (by simp <;> omega) _).setCell (by simp <;> omega) _)⟩

end Go.Proofs.Ytcpbehnjjnhcnaa
