/- The walk of the law FrameTells. -/
import Derived.Test.YtkcchnepllcghaaRows
import Derived.Test.YtkcchnepllcghaaWg
import Derived.Test.YtkcchnepllcghaaWh
namespace Go.Proofs.Ytkcchnepllcghaa
open Go.RowKit Fl

set_option maxRecDepth 100000 in
set_option maxHeartbeats 1000000 in
theorem tells_walk (tx ty tz bx bY bz nx ny nz vx vy vz : Nat) (gx : Wd vx) (gy : Wd vy) (gz : Wd vz) (w : World) : Ret Try.prog 4 #[.agg #[.float .f64 tx, .float .f64 ty, .float .f64 tz, .float .f64 bx, .float .f64 bY, .float .f64 bz, .float .f64 nx, .float .f64 ny, .float .f64 nz], .agg #[.float .f64 vx, .float .f64 vy, .float .f64 vz]] w (fun v => v = .bool true) := by
  unfold Ret
  go_enter Try.func4, Try.ntmps4
  go_wp2_with fail
  refine wp_region_loose (Cl _) [some (fun v => v = .bool true), none, none, none, some (isV (dotF vx vy vz tx ty tz) (dotF vx vy vz bx bY bz) (dotF vx vy vz nx ny nz)), none, none, some (isV (dotF vx vy vz tx ty tz) (dotF vx vy vz bx bY bz) (dotF vx vy vz nx ny nz)), some (fun v => v = .bool true), none, none, none, none, some (isV (fadd (fadd (fmul tx vx) (fmul bx vy)) (fmul nx vz)) (fadd (fadd (fmul ty vx) (fmul bY vy)) (fmul ny vz)) (fadd (fadd (fmul tz vx) (fmul bz vy)) (fmul nz vz))), none, none, some (isV (fadd (fadd (fmul tx vx) (fmul bx vy)) (fmul nx vz)) (fadd (fadd (fmul ty vx) (fmul bY vy)) (fmul ny vz)) (fadd (fadd (fmul tz vx) (fmul bz vy)) (fmul nz vz))), some (fun v => v = .bool true), none] 19 (by kernel_rfl) (by kernel_rfl) (by kernel_rfl) (Cl.drew _) ?_
  have HA : Hid (∀ w', Cl ((w.alloc (.cells #[.float .f64 tx, .float .f64 ty, .float .f64 tz, .float .f64 bx, .float .f64 bY, .float .f64 bz, .float .f64 nx, .float .f64 ny, .float .f64 nz] 28)).alloc (.cells #[.float .f64 vx, .float .f64 vy, .float .f64 vz] 24)) w' → _) := fun w' h => h.three (b := w.heap.size) (by go_simp; exact rfl) (by go_simp; exact rfl) (by go_simp; exact rfl) (by go_simp; done)
  have HB : Hid (∀ w', Cl ((w.alloc (.cells #[.float .f64 tx, .float .f64 ty, .float .f64 tz, .float .f64 bx, .float .f64 bY, .float .f64 bz, .float .f64 nx, .float .f64 ny, .float .f64 nz] 28)).alloc (.cells #[.float .f64 vx, .float .f64 vy, .float .f64 vz] 24)) w' → _) := fun w' h => h.next3 (b := w.heap.size) (by go_simp; exact rfl) (by go_simp; exact rfl) (by go_simp; exact rfl) (by go_simp; done)
  have HC : Hid (∀ w', Cl ((w.alloc (.cells #[.float .f64 tx, .float .f64 ty, .float .f64 tz, .float .f64 bx, .float .f64 bY, .float .f64 bz, .float .f64 nx, .float .f64 ny, .float .f64 nz] 28)).alloc (.cells #[.float .f64 vx, .float .f64 vy, .float .f64 vz] 24)) w' → _) := fun w' h => h.more3 (b := w.heap.size) (by go_simp; exact rfl) (by go_simp; exact rfl) (by go_simp; exact rfl) (by go_simp; done)
  have HV : Hid (∀ w', Cl ((w.alloc (.cells #[.float .f64 tx, .float .f64 ty, .float .f64 tz, .float .f64 bx, .float .f64 bY, .float .f64 bz, .float .f64 nx, .float .f64 ny, .float .f64 nz] 28)).alloc (.cells #[.float .f64 vx, .float .f64 vy, .float .f64 vz] 24)) w' → _) := fun w' h => h.three (b := w.heap.size + 1) (by go_simp; exact rfl) (by go_simp; exact rfl) (by go_simp; exact rfl) (by go_simp; done)
  refine loose_any rfl (fun w hw => ?_) (fun K hK => ?_)
  · go_simp
    exact loose_ret (awake_any _) hw
  rintro v rfl
  go_simp
  refine hK _ ?_
  clear hK K
  repeat (
    refine loose_one ?_ rfl (fun w hw => ?_) (fun K hK => ?_)
    rotate_left
    ·obtain ⟨a0, a1, a2⟩ := HA.out _ hw
     obtain ⟨b0, b1, b2⟩ := HB.out _ hw
     obtain ⟨c0, c1, c2⟩ := HC.out _ hw
     obtain ⟨v0, v1, v2⟩ := HV.out _ hw
     go_simp
     exact rfl
    go_simp
    refine hK _ ?_
    clear hK K)
  refine loose_any rfl (fun w hw => ?_) (fun K hK => ?_)
  · go_simp
    exact loose_ret (to_any _ _ _ _ _ _ _ _ _ _ _ _ _) hw
  rintro v ⟨p0, p1, p2, rfl, hp0, hp1, hp2⟩
  go_simp
  refine hK _ ?_
  clear hK K
  repeat (
    refine loose_one ?_ rfl (fun w hw => ?_) (fun K hK => ?_)
    rotate_left
    ·obtain ⟨a0, a1, a2⟩ := HA.out _ hw
     obtain ⟨b0, b1, b2⟩ := HB.out _ hw
     obtain ⟨c0, c1, c2⟩ := HC.out _ hw
     obtain ⟨v0, v1, v2⟩ := HV.out _ hw
     go_simp
     exact rfl
    go_simp
    refine hK _ ?_
    clear hK K)
  refine loose_any rfl (fun w hw => ?_) (fun K hK => ?_)
  · go_simp
    exact loose_ret (rto_any _ _ _ _ _ _ _ _ _ _ _ _ _) hw
  rintro v ⟨q0, q1, q2, rfl, hq0, hq1, hq2⟩
  go_simp
  refine hK _ ?_
  clear hK K
  refine loose_any rfl (fun w hw => ?_) (fun K hK => ?_)
  · go_simp
    exact loose_ret (ris_true (hp0.sm.trans hq0.sm.symm) (hp1.sm.trans hq1.sm.symm) (hp2.sm.trans hq2.sm.symm) _) hw
  rintro v rfl
  go_simp
  refine hK _ ?_
  clear hK K
  repeat (
    refine loose_one ?_ rfl (fun w hw => ?_) (fun K hK => ?_)
    rotate_left
    ·obtain ⟨a0, a1, a2⟩ := HA.out _ hw
     obtain ⟨b0, b1, b2⟩ := HB.out _ hw
     obtain ⟨c0, c1, c2⟩ := HC.out _ hw
     obtain ⟨v0, v1, v2⟩ := HV.out _ hw
     go_simp
     exact rfl
    go_simp
    refine hK _ ?_
    clear hK K)
  refine loose_any rfl (fun w hw => ?_) (fun K hK => ?_)
  · go_simp
    exact loose_ret (from_any _ _ _ _ _ _ _ _ _ _ _ _ gx gy gz _) hw
  rintro v ⟨s0, s1, s2, rfl, hs0, hs1, hs2⟩
  go_simp
  refine hK _ ?_
  clear hK K
  repeat (
    refine loose_one ?_ rfl (fun w hw => ?_) (fun K hK => ?_)
    rotate_left
    ·obtain ⟨a0, a1, a2⟩ := HA.out _ hw
     obtain ⟨b0, b1, b2⟩ := HB.out _ hw
     obtain ⟨c0, c1, c2⟩ := HC.out _ hw
     obtain ⟨v0, v1, v2⟩ := HV.out _ hw
     go_simp
     exact rfl
    go_simp
    refine hK _ ?_
    clear hK K)
  refine loose_any rfl (fun w hw => ?_) (fun K hK => ?_)
  · go_simp
    exact loose_ret (rfrom_any _ _ _ _ _ _ _ _ _ _ _ _ _) hw
  rintro v ⟨t0, t1, t2, rfl, ht0, ht1, ht2⟩
  go_simp
  refine hK _ ?_
  clear hK K
  refine loose_any rfl (fun w hw => ?_) (fun K hK => ?_)
  · go_simp
    exact loose_ret (ris_true (hs0.sm.trans ht0.sm.symm) (hs1.sm.trans ht1.sm.symm) (hs2.sm.trans ht2.sm.symm) _) hw
  rintro v rfl
  go_simp
  refine hK _ ?_
  clear hK K
  repeat (
    refine loose_one ?_ rfl (fun w hw => ?_) (fun K hK => ?_)
    rotate_left
    ·obtain ⟨a0, a1, a2⟩ := HA.out _ hw
     obtain ⟨b0, b1, b2⟩ := HB.out _ hw
     obtain ⟨c0, c1, c2⟩ := HC.out _ hw
     obtain ⟨v0, v1, v2⟩ := HV.out _ hw
     go_simp
     exact rfl
    go_simp
    refine hK _ ?_
    clear hK K)
  intro w' hw'
  go_wp2_with fail
  go_ret
  exact ⟨_, rfl, rfl, hw'.out2⟩
end Go.Proofs.Ytkcchnepllcghaa
