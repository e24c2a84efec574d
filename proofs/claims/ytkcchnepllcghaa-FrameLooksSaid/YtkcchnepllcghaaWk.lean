/- The walk of the law FrameLooks. -/
import Derived.Test.YtkcchnepllcghaaRows
import Derived.Test.YtkcchnepllcghaaWf
import Derived.Test.YtkcchnepllcghaaWg
import Derived.Test.YtkcchnepllcghaaWh
namespace Go.Proofs.Ytkcchnepllcghaa
open Go.RowKit Fl

set_option maxRecDepth 100000 in
set_option maxHeartbeats 1000000 in
theorem looks_walk (ax ay az bx bY bz : Nat) (gz : Wd az) (w : World) : Ret Try.prog 6 #[.agg #[.float .f64 ax, .float .f64 ay, .float .f64 az], .agg #[.float .f64 bx, .float .f64 bY, .float .f64 bz]] w (fun v => v = .bool true) := by
  unfold Ret
  have hp : (FloatKind.f64.format.order az 0 == some .gt) = (ford az 0 == some .gt) := rfl
  have hq : (FloatKind.f64.format.order bz 0 == some .gt) = (ford bz 0 == some .gt) := rfl
  have HU : Hid _ := upper_any ax ay az bx bY bz
  unfold upperB at HU
  generalize (ford az 0 == some .gt) = p at hp HU
  generalize (ford bz 0 == some .gt) = q at hq HU
  cases p <;> cases q
  · go_enter Try.func6, Try.ntmps6
    go_wp2_with fail
    refine upon_sub (Sm.refl _) (Sm.refl _) ?_
    intro m1 n1 hm1
    go_wp2_with fail
    refine upon_sub (Sm.refl _) (Sm.refl _) ?_
    intro m2 n2 hm2
    go_wp2_with fail
    refine wp_region_loose (Cl _) [some (fun v => v = .bool true), none, none, some (fun v => v = .float .f64 az), none, none, some (fun v => v = .bool true), none, none, none, some (isV (fsub 0 ax) (fsub 0 ay) az), none, some (fun v => v = .bool true), none, none, none, none, some (fun v => v = .bool false), none, none, none, none, none, none, none, none, none, none] 28 (by kernel_rfl) (by kernel_rfl) (by kernel_rfl) (Cl.drew _) ?_
    have HA : Hid (∀ w', Cl ((((w.alloc (.cells #[.float .f64 ax, .float .f64 ay, .float .f64 az] 24)).alloc (.cells #[.float .f64 bx, .float .f64 bY, .float .f64 bz] 24)).drewN (n1 + n2)).alloc (.cells #[.float .f64 m1, .float .f64 m2, .float .f64 az] 24)) w' → _) := fun w' h => h.three (b := w.heap.size) (by go_simp; exact rfl) (by go_simp; exact rfl) (by go_simp; exact rfl) (by go_simp; done)
    have HB : Hid (∀ w', Cl ((((w.alloc (.cells #[.float .f64 ax, .float .f64 ay, .float .f64 az] 24)).alloc (.cells #[.float .f64 bx, .float .f64 bY, .float .f64 bz] 24)).drewN (n1 + n2)).alloc (.cells #[.float .f64 m1, .float .f64 m2, .float .f64 az] 24)) w' → _) := fun w' h => h.three (b := w.heap.size + 1) (by go_simp; exact rfl) (by go_simp; exact rfl) (by go_simp; exact rfl) (by go_simp; done)
    have HM : Hid (∀ w', Cl ((((w.alloc (.cells #[.float .f64 ax, .float .f64 ay, .float .f64 az] 24)).alloc (.cells #[.float .f64 bx, .float .f64 bY, .float .f64 bz] 24)).drewN (n1 + n2)).alloc (.cells #[.float .f64 m1, .float .f64 m2, .float .f64 az] 24)) w' → _) := fun w' h => h.three (b := w.heap.size + 1 + 1) (by go_simp; exact rfl) (by go_simp; exact rfl) (by go_simp; exact rfl) (by go_simp; done)
    refine loose_any rfl (fun w hw => ?_) (fun K hK => ?_)
    · go_simp
      exact loose_ret (awake_any _) hw
    rintro v rfl
    go_simp
    refine hK _ ?_
    clear hK K
    repeat (
      refine loose_one ?_ rfl (fun w hw => ?_) (fun K hK => ?_)
      rotate_left
      ·obtain ⟨a0, a1, a2⟩ := HA.out _ hw
       obtain ⟨b0, b1, b2⟩ := HB.out _ hw
       obtain ⟨m0, m1, m2⟩ := HM.out _ hw
       go_simp
       exact rfl
      go_simp
      refine hK _ ?_
      clear hK K)
    refine loose_any rfl (fun w hw => ?_) (fun K hK => ?_)
    · go_simp
      exact loose_ret (cos_any _ _ _ _) hw
    rintro v rfl
    go_simp
    refine hK _ ?_
    clear hK K
    repeat (
      refine loose_one ?_ rfl (fun w hw => ?_) (fun K hK => ?_)
      rotate_left
      ·obtain ⟨a0, a1, a2⟩ := HA.out _ hw
       obtain ⟨b0, b1, b2⟩ := HB.out _ hw
       obtain ⟨m0, m1, m2⟩ := HM.out _ hw
       go_simp
       exact rfl
      go_simp
      refine hK _ ?_
      clear hK K)
    refine loose_any rfl (fun w hw => ?_) (fun K hK => ?_)
    · go_simp
      exact loose_ret (rsame_true (Sm.refl _) _) hw
    rintro v rfl
    go_simp
    refine hK _ ?_
    clear hK K
    repeat (
      refine loose_one ?_ rfl (fun w hw => ?_) (fun K hK => ?_)
      rotate_left
      ·obtain ⟨a0, a1, a2⟩ := HA.out _ hw
       obtain ⟨b0, b1, b2⟩ := HB.out _ hw
       obtain ⟨m0, m1, m2⟩ := HM.out _ hw
       go_simp
       exact rfl
      go_simp
      refine hK _ ?_
      clear hK K)
    refine loose_any rfl (fun w hw => ?_) (fun K hK => ?_)
    · go_simp
      exact loose_ret (mirror_any _ _ _ gz _) hw
    rintro v ⟨r0, r1, r2, rfl, hr0, hr1, hr2⟩
    go_simp
    refine hK _ ?_
    clear hK K
    repeat (
      refine loose_one ?_ rfl (fun w hw => ?_) (fun K hK => ?_)
      rotate_left
      ·obtain ⟨a0, a1, a2⟩ := HA.out _ hw
       obtain ⟨b0, b1, b2⟩ := HB.out _ hw
       obtain ⟨m0, m1, m2⟩ := HM.out _ hw
       go_simp
       exact rfl
      go_simp
      refine hK _ ?_
      clear hK K)
    refine loose_any rfl (fun w hw => ?_) (fun K hK => ?_)
    · go_simp
      exact loose_ret (ris_true (hr0.sm.trans hm1.sm.symm) (hr1.sm.trans hm2.sm.symm) hr2.sm _) hw
    rintro v rfl
    go_simp
    refine hK _ ?_
    clear hK K
    repeat (
      refine loose_one ?_ rfl (fun w hw => ?_) (fun K hK => ?_)
      rotate_left
      ·obtain ⟨a0, a1, a2⟩ := HA.out _ hw
       obtain ⟨b0, b1, b2⟩ := HB.out _ hw
       obtain ⟨m0, m1, m2⟩ := HM.out _ hw
       go_simp
       exact rfl
      go_simp
      refine hK _ ?_
      clear hK K)
    refine loose_any rfl (fun w hw => ?_) (fun K hK => ?_)
    · go_simp
      exact loose_ret (HU.out _) hw
    rintro v rfl
    go_simp
    refine hK _ ?_
    clear hK K
    repeat (
      refine loose_one ?_ rfl (fun w hw => ?_) (fun K hK => ?_)
      rotate_left
      ·obtain ⟨a0, a1, a2⟩ := HA.out _ hw
       obtain ⟨b0, b1, b2⟩ := HB.out _ hw
       obtain ⟨m0, m1, m2⟩ := HM.out _ hw
       go_simp
       exact rfl
      go_simp
      refine hK _ ?_
      clear hK K)
    repeat (
      refine loose_skip rfl (fun K hK => ?_)
      go_simp
      refine hK _ ?_
      clear hK K)
    repeat (
      refine loose_one ?_ rfl (fun w hw => ?_) (fun K hK => ?_)
      rotate_left
      ·obtain ⟨a0, a1, a2⟩ := HA.out _ hw
       obtain ⟨b0, b1, b2⟩ := HB.out _ hw
       obtain ⟨m0, m1, m2⟩ := HM.out _ hw
       go_simp
       exact rfl
      go_simp
      refine hK _ ?_
      clear hK K)
    intro w' hw'
    go_wp2_with fail
    go_ret
    exact ⟨_, rfl, rfl, Cl.out2 (Cl.drewN (Below.refl _ _) _) |>.trans ((Cl.out1 hw').mono (by simp <;> omega))⟩
  · go_enter Try.func6, Try.ntmps6
    go_wp2_with fail
    refine upon_sub (Sm.refl _) (Sm.refl _) ?_
    intro m1 n1 hm1
    go_wp2_with fail
    refine upon_sub (Sm.refl _) (Sm.refl _) ?_
    intro m2 n2 hm2
    go_wp2_with fail
    refine wp_region_loose (Cl _) [some (fun v => v = .bool true), none, none, some (fun v => v = .float .f64 az), none, none, some (fun v => v = .bool true), none, none, none, some (isV (fsub 0 ax) (fsub 0 ay) az), none, some (fun v => v = .bool true), none, none, none, none, some (fun v => v = .bool false), none, none, none, none, none, none, none, none, none, none] 28 (by kernel_rfl) (by kernel_rfl) (by kernel_rfl) (Cl.drew _) ?_
    have HA : Hid (∀ w', Cl ((((w.alloc (.cells #[.float .f64 ax, .float .f64 ay, .float .f64 az] 24)).alloc (.cells #[.float .f64 bx, .float .f64 bY, .float .f64 bz] 24)).drewN (n1 + n2)).alloc (.cells #[.float .f64 m1, .float .f64 m2, .float .f64 az] 24)) w' → _) := fun w' h => h.three (b := w.heap.size) (by go_simp; exact rfl) (by go_simp; exact rfl) (by go_simp; exact rfl) (by go_simp; done)
    have HB : Hid (∀ w', Cl ((((w.alloc (.cells #[.float .f64 ax, .float .f64 ay, .float .f64 az] 24)).alloc (.cells #[.float .f64 bx, .float .f64 bY, .float .f64 bz] 24)).drewN (n1 + n2)).alloc (.cells #[.float .f64 m1, .float .f64 m2, .float .f64 az] 24)) w' → _) := fun w' h => h.three (b := w.heap.size + 1) (by go_simp; exact rfl) (by go_simp; exact rfl) (by go_simp; exact rfl) (by go_simp; done)
    have HM : Hid (∀ w', Cl ((((w.alloc (.cells #[.float .f64 ax, .float .f64 ay, .float .f64 az] 24)).alloc (.cells #[.float .f64 bx, .float .f64 bY, .float .f64 bz] 24)).drewN (n1 + n2)).alloc (.cells #[.float .f64 m1, .float .f64 m2, .float .f64 az] 24)) w' → _) := fun w' h => h.three (b := w.heap.size + 1 + 1) (by go_simp; exact rfl) (by go_simp; exact rfl) (by go_simp; exact rfl) (by go_simp; done)
    refine loose_any rfl (fun w hw => ?_) (fun K hK => ?_)
    · go_simp
      exact loose_ret (awake_any _) hw
    rintro v rfl
    go_simp
    refine hK _ ?_
    clear hK K
    repeat (
      refine loose_one ?_ rfl (fun w hw => ?_) (fun K hK => ?_)
      rotate_left
      ·obtain ⟨a0, a1, a2⟩ := HA.out _ hw
       obtain ⟨b0, b1, b2⟩ := HB.out _ hw
       obtain ⟨m0, m1, m2⟩ := HM.out _ hw
       go_simp
       exact rfl
      go_simp
      refine hK _ ?_
      clear hK K)
    refine loose_any rfl (fun w hw => ?_) (fun K hK => ?_)
    · go_simp
      exact loose_ret (cos_any _ _ _ _) hw
    rintro v rfl
    go_simp
    refine hK _ ?_
    clear hK K
    repeat (
      refine loose_one ?_ rfl (fun w hw => ?_) (fun K hK => ?_)
      rotate_left
      ·obtain ⟨a0, a1, a2⟩ := HA.out _ hw
       obtain ⟨b0, b1, b2⟩ := HB.out _ hw
       obtain ⟨m0, m1, m2⟩ := HM.out _ hw
       go_simp
       exact rfl
      go_simp
      refine hK _ ?_
      clear hK K)
    refine loose_any rfl (fun w hw => ?_) (fun K hK => ?_)
    · go_simp
      exact loose_ret (rsame_true (Sm.refl _) _) hw
    rintro v rfl
    go_simp
    refine hK _ ?_
    clear hK K
    repeat (
      refine loose_one ?_ rfl (fun w hw => ?_) (fun K hK => ?_)
      rotate_left
      ·obtain ⟨a0, a1, a2⟩ := HA.out _ hw
       obtain ⟨b0, b1, b2⟩ := HB.out _ hw
       obtain ⟨m0, m1, m2⟩ := HM.out _ hw
       go_simp
       exact rfl
      go_simp
      refine hK _ ?_
      clear hK K)
    refine loose_any rfl (fun w hw => ?_) (fun K hK => ?_)
    · go_simp
      exact loose_ret (mirror_any _ _ _ gz _) hw
    rintro v ⟨r0, r1, r2, rfl, hr0, hr1, hr2⟩
    go_simp
    refine hK _ ?_
    clear hK K
    repeat (
      refine loose_one ?_ rfl (fun w hw => ?_) (fun K hK => ?_)
      rotate_left
      ·obtain ⟨a0, a1, a2⟩ := HA.out _ hw
       obtain ⟨b0, b1, b2⟩ := HB.out _ hw
       obtain ⟨m0, m1, m2⟩ := HM.out _ hw
       go_simp
       exact rfl
      go_simp
      refine hK _ ?_
      clear hK K)
    refine loose_any rfl (fun w hw => ?_) (fun K hK => ?_)
    · go_simp
      exact loose_ret (ris_true (hr0.sm.trans hm1.sm.symm) (hr1.sm.trans hm2.sm.symm) hr2.sm _) hw
    rintro v rfl
    go_simp
    refine hK _ ?_
    clear hK K
    repeat (
      refine loose_one ?_ rfl (fun w hw => ?_) (fun K hK => ?_)
      rotate_left
      ·obtain ⟨a0, a1, a2⟩ := HA.out _ hw
       obtain ⟨b0, b1, b2⟩ := HB.out _ hw
       obtain ⟨m0, m1, m2⟩ := HM.out _ hw
       go_simp
       exact rfl
      go_simp
      refine hK _ ?_
      clear hK K)
    refine loose_any rfl (fun w hw => ?_) (fun K hK => ?_)
    · go_simp
      exact loose_ret (HU.out _) hw
    rintro v rfl
    go_simp
    refine hK _ ?_
    clear hK K
    repeat (
      refine loose_one ?_ rfl (fun w hw => ?_) (fun K hK => ?_)
      rotate_left
      ·obtain ⟨a0, a1, a2⟩ := HA.out _ hw
       obtain ⟨b0, b1, b2⟩ := HB.out _ hw
       obtain ⟨m0, m1, m2⟩ := HM.out _ hw
       go_simp
       exact rfl
      go_simp
      refine hK _ ?_
      clear hK K)
    repeat (
      refine loose_skip rfl (fun K hK => ?_)
      go_simp
      refine hK _ ?_
      clear hK K)
    repeat (
      refine loose_one ?_ rfl (fun w hw => ?_) (fun K hK => ?_)
      rotate_left
      ·obtain ⟨a0, a1, a2⟩ := HA.out _ hw
       obtain ⟨b0, b1, b2⟩ := HB.out _ hw
       obtain ⟨m0, m1, m2⟩ := HM.out _ hw
       go_simp
       exact rfl
      go_simp
      refine hK _ ?_
      clear hK K)
    intro w' hw'
    go_wp2_with fail
    go_ret
    exact ⟨_, rfl, rfl, Cl.out2 (Cl.drewN (Below.refl _ _) _) |>.trans ((Cl.out1 hw').mono (by simp <;> omega))⟩
  · go_enter Try.func6, Try.ntmps6
    go_wp2_with fail
    refine upon_sub (Sm.refl _) (Sm.refl _) ?_
    intro m1 n1 hm1
    go_wp2_with fail
    refine upon_sub (Sm.refl _) (Sm.refl _) ?_
    intro m2 n2 hm2
    go_wp2_with fail
    refine wp_region_loose (Cl _) [some (fun v => v = .bool true), none, none, some (fun v => v = .float .f64 az), none, none, some (fun v => v = .bool true), none, none, none, some (isV (fsub 0 ax) (fsub 0 ay) az), none, some (fun v => v = .bool true), none, none, none, none, some (fun v => v = .bool false), none, none, none, none, none, none, none, none, none, none] 28 (by kernel_rfl) (by kernel_rfl) (by kernel_rfl) (Cl.drew _) ?_
    have HA : Hid (∀ w', Cl ((((w.alloc (.cells #[.float .f64 ax, .float .f64 ay, .float .f64 az] 24)).alloc (.cells #[.float .f64 bx, .float .f64 bY, .float .f64 bz] 24)).drewN (n1 + n2)).alloc (.cells #[.float .f64 m1, .float .f64 m2, .float .f64 az] 24)) w' → _) := fun w' h => h.three (b := w.heap.size) (by go_simp; exact rfl) (by go_simp; exact rfl) (by go_simp; exact rfl) (by go_simp; done)
    have HB : Hid (∀ w', Cl ((((w.alloc (.cells #[.float .f64 ax, .float .f64 ay, .float .f64 az] 24)).alloc (.cells #[.float .f64 bx, .float .f64 bY, .float .f64 bz] 24)).drewN (n1 + n2)).alloc (.cells #[.float .f64 m1, .float .f64 m2, .float .f64 az] 24)) w' → _) := fun w' h => h.three (b := w.heap.size + 1) (by go_simp; exact rfl) (by go_simp; exact rfl) (by go_simp; exact rfl) (by go_simp; done)
    have HM : Hid (∀ w', Cl ((((w.alloc (.cells #[.float .f64 ax, .float .f64 ay, .float .f64 az] 24)).alloc (.cells #[.float .f64 bx, .float .f64 bY, .float .f64 bz] 24)).drewN (n1 + n2)).alloc (.cells #[.float .f64 m1, .float .f64 m2, .float .f64 az] 24)) w' → _) := fun w' h => h.three (b := w.heap.size + 1 + 1) (by go_simp; exact rfl) (by go_simp; exact rfl) (by go_simp; exact rfl) (by go_simp; done)
    refine loose_any rfl (fun w hw => ?_) (fun K hK => ?_)
    · go_simp
      exact loose_ret (awake_any _) hw
    rintro v rfl
    go_simp
    refine hK _ ?_
    clear hK K
    repeat (
      refine loose_one ?_ rfl (fun w hw => ?_) (fun K hK => ?_)
      rotate_left
      ·obtain ⟨a0, a1, a2⟩ := HA.out _ hw
       obtain ⟨b0, b1, b2⟩ := HB.out _ hw
       obtain ⟨m0, m1, m2⟩ := HM.out _ hw
       go_simp
       exact rfl
      go_simp
      refine hK _ ?_
      clear hK K)
    refine loose_any rfl (fun w hw => ?_) (fun K hK => ?_)
    · go_simp
      exact loose_ret (cos_any _ _ _ _) hw
    rintro v rfl
    go_simp
    refine hK _ ?_
    clear hK K
    repeat (
      refine loose_one ?_ rfl (fun w hw => ?_) (fun K hK => ?_)
      rotate_left
      ·obtain ⟨a0, a1, a2⟩ := HA.out _ hw
       obtain ⟨b0, b1, b2⟩ := HB.out _ hw
       obtain ⟨m0, m1, m2⟩ := HM.out _ hw
       go_simp
       exact rfl
      go_simp
      refine hK _ ?_
      clear hK K)
    refine loose_any rfl (fun w hw => ?_) (fun K hK => ?_)
    · go_simp
      exact loose_ret (rsame_true (Sm.refl _) _) hw
    rintro v rfl
    go_simp
    refine hK _ ?_
    clear hK K
    repeat (
      refine loose_one ?_ rfl (fun w hw => ?_) (fun K hK => ?_)
      rotate_left
      ·obtain ⟨a0, a1, a2⟩ := HA.out _ hw
       obtain ⟨b0, b1, b2⟩ := HB.out _ hw
       obtain ⟨m0, m1, m2⟩ := HM.out _ hw
       go_simp
       exact rfl
      go_simp
      refine hK _ ?_
      clear hK K)
    refine loose_any rfl (fun w hw => ?_) (fun K hK => ?_)
    · go_simp
      exact loose_ret (mirror_any _ _ _ gz _) hw
    rintro v ⟨r0, r1, r2, rfl, hr0, hr1, hr2⟩
    go_simp
    refine hK _ ?_
    clear hK K
    repeat (
      refine loose_one ?_ rfl (fun w hw => ?_) (fun K hK => ?_)
      rotate_left
      ·obtain ⟨a0, a1, a2⟩ := HA.out _ hw
       obtain ⟨b0, b1, b2⟩ := HB.out _ hw
       obtain ⟨m0, m1, m2⟩ := HM.out _ hw
       go_simp
       exact rfl
      go_simp
      refine hK _ ?_
      clear hK K)
    refine loose_any rfl (fun w hw => ?_) (fun K hK => ?_)
    · go_simp
      exact loose_ret (ris_true (hr0.sm.trans hm1.sm.symm) (hr1.sm.trans hm2.sm.symm) hr2.sm _) hw
    rintro v rfl
    go_simp
    refine hK _ ?_
    clear hK K
    repeat (
      refine loose_one ?_ rfl (fun w hw => ?_) (fun K hK => ?_)
      rotate_left
      ·obtain ⟨a0, a1, a2⟩ := HA.out _ hw
       obtain ⟨b0, b1, b2⟩ := HB.out _ hw
       obtain ⟨m0, m1, m2⟩ := HM.out _ hw
       go_simp
       exact rfl
      go_simp
      refine hK _ ?_
      clear hK K)
    refine loose_any rfl (fun w hw => ?_) (fun K hK => ?_)
    · go_simp
      exact loose_ret (HU.out _) hw
    rintro v rfl
    go_simp
    refine hK _ ?_
    clear hK K
    repeat (
      refine loose_one ?_ rfl (fun w hw => ?_) (fun K hK => ?_)
      rotate_left
      ·obtain ⟨a0, a1, a2⟩ := HA.out _ hw
       obtain ⟨b0, b1, b2⟩ := HB.out _ hw
       obtain ⟨m0, m1, m2⟩ := HM.out _ hw
       go_simp
       exact rfl
      go_simp
      refine hK _ ?_
      clear hK K)
    intro w' hw'
    go_wp2_with fail
    go_ret
    exact ⟨_, rfl, rfl, Cl.out2 (Cl.drewN (Below.refl _ _) _) |>.trans ((Cl.out1 hw').mono (by simp <;> omega))⟩
  · go_enter Try.func6, Try.ntmps6
    go_wp2_with fail
    refine upon_sub (Sm.refl _) (Sm.refl _) ?_
    intro m1 n1 hm1
    go_wp2_with fail
    refine upon_sub (Sm.refl _) (Sm.refl _) ?_
    intro m2 n2 hm2
    go_wp2_with fail
    refine wp_region_loose (Cl _) [some (fun v => v = .bool true), none, none, some (fun v => v = .float .f64 az), none, none, some (fun v => v = .bool true), none, none, none, some (isV (fsub 0 ax) (fsub 0 ay) az), none, some (fun v => v = .bool true), none, none, none, none, some (fun v => v = .bool true), none, none, none, none, none, none, none, none, none, none] 28 (by kernel_rfl) (by kernel_rfl) (by kernel_rfl) (Cl.drew _) ?_
    have HA : Hid (∀ w', Cl ((((w.alloc (.cells #[.float .f64 ax, .float .f64 ay, .float .f64 az] 24)).alloc (.cells #[.float .f64 bx, .float .f64 bY, .float .f64 bz] 24)).drewN (n1 + n2)).alloc (.cells #[.float .f64 m1, .float .f64 m2, .float .f64 az] 24)) w' → _) := fun w' h => h.three (b := w.heap.size) (by go_simp; exact rfl) (by go_simp; exact rfl) (by go_simp; exact rfl) (by go_simp; done)
    have HB : Hid (∀ w', Cl ((((w.alloc (.cells #[.float .f64 ax, .float .f64 ay, .float .f64 az] 24)).alloc (.cells #[.float .f64 bx, .float .f64 bY, .float .f64 bz] 24)).drewN (n1 + n2)).alloc (.cells #[.float .f64 m1, .float .f64 m2, .float .f64 az] 24)) w' → _) := fun w' h => h.three (b := w.heap.size + 1) (by go_simp; exact rfl) (by go_simp; exact rfl) (by go_simp; exact rfl) (by go_simp; done)
    have HM : Hid (∀ w', Cl ((((w.alloc (.cells #[.float .f64 ax, .float .f64 ay, .float .f64 az] 24)).alloc (.cells #[.float .f64 bx, .float .f64 bY, .float .f64 bz] 24)).drewN (n1 + n2)).alloc (.cells #[.float .f64 m1, .float .f64 m2, .float .f64 az] 24)) w' → _) := fun w' h => h.three (b := w.heap.size + 1 + 1) (by go_simp; exact rfl) (by go_simp; exact rfl) (by go_simp; exact rfl) (by go_simp; done)
    refine loose_any rfl (fun w hw => ?_) (fun K hK => ?_)
    · go_simp
      exact loose_ret (awake_any _) hw
    rintro v rfl
    go_simp
    refine hK _ ?_
    clear hK K
    repeat (
      refine loose_one ?_ rfl (fun w hw => ?_) (fun K hK => ?_)
      rotate_left
      ·obtain ⟨a0, a1, a2⟩ := HA.out _ hw
       obtain ⟨b0, b1, b2⟩ := HB.out _ hw
       obtain ⟨m0, m1, m2⟩ := HM.out _ hw
       go_simp
       exact rfl
      go_simp
      refine hK _ ?_
      clear hK K)
    refine loose_any rfl (fun w hw => ?_) (fun K hK => ?_)
    · go_simp
      exact loose_ret (cos_any _ _ _ _) hw
    rintro v rfl
    go_simp
    refine hK _ ?_
    clear hK K
    repeat (
      refine loose_one ?_ rfl (fun w hw => ?_) (fun K hK => ?_)
      rotate_left
      ·obtain ⟨a0, a1, a2⟩ := HA.out _ hw
       obtain ⟨b0, b1, b2⟩ := HB.out _ hw
       obtain ⟨m0, m1, m2⟩ := HM.out _ hw
       go_simp
       exact rfl
      go_simp
      refine hK _ ?_
      clear hK K)
    refine loose_any rfl (fun w hw => ?_) (fun K hK => ?_)
    · go_simp
      exact loose_ret (rsame_true (Sm.refl _) _) hw
    rintro v rfl
    go_simp
    refine hK _ ?_
    clear hK K
    repeat (
      refine loose_one ?_ rfl (fun w hw => ?_) (fun K hK => ?_)
      rotate_left
      ·obtain ⟨a0, a1, a2⟩ := HA.out _ hw
       obtain ⟨b0, b1, b2⟩ := HB.out _ hw
       obtain ⟨m0, m1, m2⟩ := HM.out _ hw
       go_simp
       exact rfl
      go_simp
      refine hK _ ?_
      clear hK K)
    refine loose_any rfl (fun w hw => ?_) (fun K hK => ?_)
    · go_simp
      exact loose_ret (mirror_any _ _ _ gz _) hw
    rintro v ⟨r0, r1, r2, rfl, hr0, hr1, hr2⟩
    go_simp
    refine hK _ ?_
    clear hK K
    repeat (
      refine loose_one ?_ rfl (fun w hw => ?_) (fun K hK => ?_)
      rotate_left
      ·obtain ⟨a0, a1, a2⟩ := HA.out _ hw
       obtain ⟨b0, b1, b2⟩ := HB.out _ hw
       obtain ⟨m0, m1, m2⟩ := HM.out _ hw
       go_simp
       exact rfl
      go_simp
      refine hK _ ?_
      clear hK K)
    refine loose_any rfl (fun w hw => ?_) (fun K hK => ?_)
    · go_simp
      exact loose_ret (ris_true (hr0.sm.trans hm1.sm.symm) (hr1.sm.trans hm2.sm.symm) hr2.sm _) hw
    rintro v rfl
    go_simp
    refine hK _ ?_
    clear hK K
    repeat (
      refine loose_one ?_ rfl (fun w hw => ?_) (fun K hK => ?_)
      rotate_left
      ·obtain ⟨a0, a1, a2⟩ := HA.out _ hw
       obtain ⟨b0, b1, b2⟩ := HB.out _ hw
       obtain ⟨m0, m1, m2⟩ := HM.out _ hw
       go_simp
       exact rfl
      go_simp
      refine hK _ ?_
      clear hK K)
    refine loose_any rfl (fun w hw => ?_) (fun K hK => ?_)
    · go_simp
      exact loose_ret (HU.out _) hw
    rintro v rfl
    go_simp
    refine hK _ ?_
    clear hK K
    repeat (
      refine loose_one ?_ rfl (fun w hw => ?_) (fun K hK => ?_)
      rotate_left
      ·obtain ⟨a0, a1, a2⟩ := HA.out _ hw
       obtain ⟨b0, b1, b2⟩ := HB.out _ hw
       obtain ⟨m0, m1, m2⟩ := HM.out _ hw
       go_simp
       exact rfl
      go_simp
      refine hK _ ?_
      clear hK K)
    intro w' hw'
    go_wp2_with fail
    go_ret
    exact ⟨_, rfl, rfl, Cl.out2 (Cl.drewN (Below.refl _ _) _) |>.trans ((Cl.out1 hw').mono (by simp <;> omega))⟩
end Go.Proofs.Ytkcchnepllcghaa
