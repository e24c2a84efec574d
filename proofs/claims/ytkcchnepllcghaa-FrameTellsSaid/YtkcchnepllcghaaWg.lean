/- The reference of layer 3: Is, To, From. -/
import Derived.Test.YtkcchnepllcghaaRows
import Derived.Test.YtkcchnepllcghaaWa
import Derived.Test.YtkcchnepllcghaaVr
import Derived.Test.YtkcchnepllcghaaVb
namespace Go.Proofs.Ytkcchnepllcghaa
open Go.RowKit Fl

theorem rsame_true {x y : Nat} (h : Sm x y) (w : World) : Ret Try.prog 19 #[.float .f64 x, .float .f64 y] w (fun v => v = .bool true) :=
  (rsame_any x y w).mono fun _ _ ⟨he, hw⟩ => ⟨_, he, by rw [sameB_of h], by rw [hw]; exact Below.refl _ _⟩

theorem ris_true {ax ay az bx bY bz : Nat} (hx : Sm ax bx) (hy : Sm ay bY) (hz : Sm az bz) (w : World) : Ret Try.prog 11 #[.agg #[.float .f64 ax, .float .f64 ay, .float .f64 az], .agg #[.float .f64 bx, .float .f64 bY, .float .f64 bz]] w (fun v => v = .bool true) :=
  (ris_any ax ay az bx bY bz w).mono fun v h => by rw [h, sameB_of hx, sameB_of hy, sameB_of hz]; rfl

set_option maxRecDepth 100000 in
set_option maxHeartbeats 1000000 in
theorem fis_true {a0 a1 a2 a3 a4 a5 a6 a7 a8 b0 b1 b2 b3 b4 b5 b6 b7 b8 : Nat} (h0 : Sm a0 b0) (h1 : Sm a1 b1) (h2 : Sm a2 b2) (h3 : Sm a3 b3) (h4 : Sm a4 b4) (h5 : Sm a5 b5) (h6 : Sm a6 b6) (h7 : Sm a7 b7) (h8 : Sm a8 b8) (w : World) : Ret Try.prog 8 #[.agg #[.float .f64 a0, .float .f64 a1, .float .f64 a2, .float .f64 a3, .float .f64 a4, .float .f64 a5, .float .f64 a6, .float .f64 a7, .float .f64 a8], .agg #[.float .f64 b0, .float .f64 b1, .float .f64 b2, .float .f64 b3, .float .f64 b4, .float .f64 b5, .float .f64 b6, .float .f64 b7, .float .f64 b8]] w (fun v => v = .bool true) := by
  unfold Ret
  have HX : Hid _ := ris_true h0 h1 h2
  have HY : Hid _ := ris_true h3 h4 h5
  have HZ : Hid _ := ris_true h6 h7 h8
  clear h0 h1 h2 h3 h4 h5 h6 h7 h8
  go_enter Try.func8, Try.ntmps8
  go_wp2_with fail
  refine Calls.mono (HX.out _) ?_
  rintro e w1 ⟨v, rfl, rfl, hb⟩
  have HW1 : Hid (Cl ((w.alloc (.cells #[.float .f64 a0, .float .f64 a1, .float .f64 a2, .float .f64 a3, .float .f64 a4, .float .f64 a5, .float .f64 a6, .float .f64 a7, .float .f64 a8] 28)).alloc (.cells #[.float .f64 b0, .float .f64 b1, .float .f64 b2, .float .f64 b3, .float .f64 b4, .float .f64 b5, .float .f64 b6, .float .f64 b7, .float .f64 b8] 28)) w1) := hb
  clear hb
  obtain ⟨c3, c4, c5⟩ := HW1.out.next3 (b := w.heap.size) (by go_simp; exact rfl) (by go_simp; exact rfl) (by go_simp; exact rfl) (by go_simp; done)
  obtain ⟨d3, d4, d5⟩ := HW1.out.next3 (b := w.heap.size + 1) (by go_simp; exact rfl) (by go_simp; exact rfl) (by go_simp; exact rfl) (by go_simp; done)
  go_wp2_with fail
  refine Calls.mono (HY.out _) ?_
  rintro e w2 ⟨v, rfl, rfl, hb⟩
  have HW2 : Hid (Cl ((w.alloc (.cells #[.float .f64 a0, .float .f64 a1, .float .f64 a2, .float .f64 a3, .float .f64 a4, .float .f64 a5, .float .f64 a6, .float .f64 a7, .float .f64 a8] 28)).alloc (.cells #[.float .f64 b0, .float .f64 b1, .float .f64 b2, .float .f64 b3, .float .f64 b4, .float .f64 b5, .float .f64 b6, .float .f64 b7, .float .f64 b8] 28)) w2) := HW1.out.call hb
  clear hb c3 c4 c5 d3 d4 d5
  obtain ⟨c6, c7, c8⟩ := HW2.out.more3 (b := w.heap.size) (by go_simp; exact rfl) (by go_simp; exact rfl) (by go_simp; exact rfl) (by go_simp; done)
  obtain ⟨d6, d7, d8⟩ := HW2.out.more3 (b := w.heap.size + 1) (by go_simp; exact rfl) (by go_simp; exact rfl) (by go_simp; exact rfl) (by go_simp; done)
  go_wp2_with fail
  refine Calls.mono (HZ.out _) ?_
  rintro e w3 ⟨v, rfl, rfl, hb⟩
  have HW3 : Hid (Cl ((w.alloc (.cells #[.float .f64 a0, .float .f64 a1, .float .f64 a2, .float .f64 a3, .float .f64 a4, .float .f64 a5, .float .f64 a6, .float .f64 a7, .float .f64 a8] 28)).alloc (.cells #[.float .f64 b0, .float .f64 b1, .float .f64 b2, .float .f64 b3, .float .f64 b4, .float .f64 b5, .float .f64 b6, .float .f64 b7, .float .f64 b8] 28)) w3) := HW2.out.call hb
  clear hb
  go_wp2_with fail
  go_ret
  exact ⟨_, rfl, rfl, HW3.out.out2⟩

set_option maxRecDepth 100000 in
set_option maxHeartbeats 1000000 in
theorem rto_any (tx ty tz bx bY bz nx ny nz vx vy vz : Nat) (w : World) : Ret Try.prog 13 #[.agg #[.float .f64 tx, .float .f64 ty, .float .f64 tz, .float .f64 bx, .float .f64 bY, .float .f64 bz, .float .f64 nx, .float .f64 ny, .float .f64 nz], .agg #[.float .f64 vx, .float .f64 vy, .float .f64 vz]] w (isV (dotF vx vy vz tx ty tz) (dotF vx vy vz bx bY bz) (dotF vx vy vz nx ny nz)) := by
  unfold Ret
  go_enter Try.func13, Try.ntmps13
  go_wp2_with fail
  refine wp_region_loose (Cl _) [none, none, none, some (isF (dotF vx vy vz tx ty tz)), none, none, none, some (isF (dotF vx vy vz bx bY bz)), none, none, none, some (isF (dotF vx vy vz nx ny nz)), none] 13 (by kernel_rfl) (by kernel_rfl) (by kernel_rfl) (Cl.drew _) ?_
  have HA : Hid (∀ w', Cl (((w.alloc (.cells #[.float .f64 tx, .float .f64 ty, .float .f64 tz, .float .f64 bx, .float .f64 bY, .float .f64 bz, .float .f64 nx, .float .f64 ny, .float .f64 nz] 28)).alloc (.cells #[.float .f64 vx, .float .f64 vy, .float .f64 vz] 24)).alloc (.cells #[.float .f64 0, .float .f64 0, .float .f64 0] 24)) w' → _) := fun w' h => h.three (b := w.heap.size) (by go_simp; exact rfl) (by go_simp; exact rfl) (by go_simp; exact rfl) (by go_simp; done)
  have HB : Hid (∀ w', Cl (((w.alloc (.cells #[.float .f64 tx, .float .f64 ty, .float .f64 tz, .float .f64 bx, .float .f64 bY, .float .f64 bz, .float .f64 nx, .float .f64 ny, .float .f64 nz] 28)).alloc (.cells #[.float .f64 vx, .float .f64 vy, .float .f64 vz] 24)).alloc (.cells #[.float .f64 0, .float .f64 0, .float .f64 0] 24)) w' → _) := fun w' h => h.next3 (b := w.heap.size) (by go_simp; exact rfl) (by go_simp; exact rfl) (by go_simp; exact rfl) (by go_simp; done)
  have HC : Hid (∀ w', Cl (((w.alloc (.cells #[.float .f64 tx, .float .f64 ty, .float .f64 tz, .float .f64 bx, .float .f64 bY, .float .f64 bz, .float .f64 nx, .float .f64 ny, .float .f64 nz] 28)).alloc (.cells #[.float .f64 vx, .float .f64 vy, .float .f64 vz] 24)).alloc (.cells #[.float .f64 0, .float .f64 0, .float .f64 0] 24)) w' → _) := fun w' h => h.more3 (b := w.heap.size) (by go_simp; exact rfl) (by go_simp; exact rfl) (by go_simp; exact rfl) (by go_simp; done)
  have HV : Hid (∀ w', Cl (((w.alloc (.cells #[.float .f64 tx, .float .f64 ty, .float .f64 tz, .float .f64 bx, .float .f64 bY, .float .f64 bz, .float .f64 nx, .float .f64 ny, .float .f64 nz] 28)).alloc (.cells #[.float .f64 vx, .float .f64 vy, .float .f64 vz] 24)).alloc (.cells #[.float .f64 0, .float .f64 0, .float .f64 0] 24)) w' → _) := fun w' h => h.three (b := w.heap.size + 1) (by go_simp; exact rfl) (by go_simp; exact rfl) (by go_simp; exact rfl) (by go_simp; done)
  have HZ : Hid (∀ w', Cl (((w.alloc (.cells #[.float .f64 tx, .float .f64 ty, .float .f64 tz, .float .f64 bx, .float .f64 bY, .float .f64 bz, .float .f64 nx, .float .f64 ny, .float .f64 nz] 28)).alloc (.cells #[.float .f64 vx, .float .f64 vy, .float .f64 vz] 24)).alloc (.cells #[.float .f64 0, .float .f64 0, .float .f64 0] 24)) w' → _) := fun w' h => h.three (b := w.heap.size + 1 + 1) (by go_simp; exact rfl) (by go_simp; exact rfl) (by go_simp; exact rfl) (by go_simp; done)
  have HY : Hid (∀ w', Cl (((w.alloc (.cells #[.float .f64 tx, .float .f64 ty, .float .f64 tz, .float .f64 bx, .float .f64 bY, .float .f64 bz, .float .f64 nx, .float .f64 ny, .float .f64 nz] 28)).alloc (.cells #[.float .f64 vx, .float .f64 vy, .float .f64 vz] 24)).alloc (.cells #[.float .f64 0, .float .f64 0, .float .f64 0] 24)) w' → _) := fun w' h => h.frz (b := w.heap.size + 1 + 1) (by go_simp; done) (by go_simp; done) (by go_simp; done) (by go_simp; done)
  repeat (
    refine loose_one ?_ rfl (fun w hw => ?_) (fun K hK => ?_)
    rotate_left
    ·obtain ⟨a0, a1, a2⟩ := HA.out _ hw
     obtain ⟨b0, b1, b2⟩ := HB.out _ hw
     obtain ⟨c0, c1, c2⟩ := HC.out _ hw
     obtain ⟨v0, v1, v2⟩ := HV.out _ hw
     go_simp
     exact rfl
    go_simp
    refine hK _ ?_
    clear hK K)
  refine loose_any rfl (fun w hw => ?_) (fun K hK => ?_)
  · go_simp
    exact loose_ret (rdot_any _ _ _ _ _ _ _) hw
  rintro v ⟨r0, rfl, h0⟩
  go_simp
  refine hK _ ?_
  clear hK K
  repeat (
    refine loose_one ?_ rfl (fun w hw => ?_) (fun K hK => ?_)
    rotate_left
    ·obtain ⟨a0, a1, a2⟩ := HA.out _ hw
     obtain ⟨b0, b1, b2⟩ := HB.out _ hw
     obtain ⟨c0, c1, c2⟩ := HC.out _ hw
     obtain ⟨v0, v1, v2⟩ := HV.out _ hw
     go_simp
     exact rfl
    go_simp
    refine hK _ ?_
    clear hK K)
  refine loose_any rfl (fun w hw => ?_) (fun K hK => ?_)
  · go_simp
    exact loose_ret (rdot_any _ _ _ _ _ _ _) hw
  rintro v ⟨r1, rfl, h1⟩
  go_simp
  refine hK _ ?_
  clear hK K
  repeat (
    refine loose_one ?_ rfl (fun w hw => ?_) (fun K hK => ?_)
    rotate_left
    ·obtain ⟨a0, a1, a2⟩ := HA.out _ hw
     obtain ⟨b0, b1, b2⟩ := HB.out _ hw
     obtain ⟨c0, c1, c2⟩ := HC.out _ hw
     obtain ⟨v0, v1, v2⟩ := HV.out _ hw
     go_simp
     exact rfl
    go_simp
    refine hK _ ?_
    clear hK K)
  refine loose_any rfl (fun w hw => ?_) (fun K hK => ?_)
  · go_simp
    exact loose_ret (rdot_any _ _ _ _ _ _ _) hw
  rintro v ⟨r2, rfl, h2⟩
  go_simp
  refine hK _ ?_
  clear hK K
  repeat (
    refine loose_one ?_ rfl (fun w hw => ?_) (fun K hK => ?_)
    rotate_left
    ·obtain ⟨a0, a1, a2⟩ := HA.out _ hw
     obtain ⟨b0, b1, b2⟩ := HB.out _ hw
     obtain ⟨c0, c1, c2⟩ := HC.out _ hw
     obtain ⟨v0, v1, v2⟩ := HV.out _ hw
     go_simp
     exact rfl
    go_simp
    refine hK _ ?_
    clear hK K)
  intro w' hw'
  obtain ⟨z0, z1, z2⟩ := HZ.out _ hw'
  obtain ⟨f0, f1, f2⟩ := HY.out _ hw'
  have HW : Hid (Cl (((w.alloc (.cells #[.float .f64 tx, .float .f64 ty, .float .f64 tz, .float .f64 bx, .float .f64 bY, .float .f64 bz, .float .f64 nx, .float .f64 ny, .float .f64 nz] 28)).alloc (.cells #[.float .f64 vx, .float .f64 vy, .float .f64 vz] 24)).alloc (.cells #[.float .f64 0, .float .f64 0, .float .f64 0] 24)) w') := hw'
  clear hw' HA HB HC HV
  go_wp2_with fail
  refine bodyPost_ret (v := .agg #[.float .f64 r0, .float .f64 r1, .float .f64 r2]) (by simp [results, go_sem, z0, z1, z2]) rfl ⟨_, rfl, ⟨_, _, _, rfl, by assumption, by assumption, by assumption⟩, ((((HW.out.out3).setCell (by simp <;> omega) _).setCell (by simp <;> omega) _).setCell (by simp <;> omega) _)⟩

set_option maxRecDepth 100000 in
set_option maxHeartbeats 1000000 in
theorem rfrom_any (tx ty tz bx bY bz nx ny nz vx vy vz : Nat) (w : World) : Ret Try.prog 15 #[.agg #[.float .f64 tx, .float .f64 ty, .float .f64 tz, .float .f64 bx, .float .f64 bY, .float .f64 bz, .float .f64 nx, .float .f64 ny, .float .f64 nz], .agg #[.float .f64 vx, .float .f64 vy, .float .f64 vz]] w (isV (fadd (fadd (fmul tx vx) (fmul bx vy)) (fmul nx vz)) (fadd (fadd (fmul ty vx) (fmul bY vy)) (fmul ny vz)) (fadd (fadd (fmul tz vx) (fmul bz vy)) (fmul nz vz))) := by
  unfold Ret
  go_enter Try.func15, Try.ntmps15
  go_wp2_with fail
  refine wp_region_loose (Cl _) [none, none, none, none, some (isV (fmul tx vx) (fmul ty vx) (fmul tz vx)), none, none, none, none, some (isV (fmul bx vy) (fmul bY vy) (fmul bz vy)), some (isV (fadd (fmul tx vx) (fmul bx vy)) (fadd (fmul ty vx) (fmul bY vy)) (fadd (fmul tz vx) (fmul bz vy))), none, none, none, none, some (isV (fmul nx vz) (fmul ny vz) (fmul nz vz)), some (isV (fadd (fadd (fmul tx vx) (fmul bx vy)) (fmul nx vz)) (fadd (fadd (fmul ty vx) (fmul bY vy)) (fmul ny vz)) (fadd (fadd (fmul tz vx) (fmul bz vy)) (fmul nz vz)))] 17 (by kernel_rfl) (by kernel_rfl) (by kernel_rfl) (Cl.drew _) ?_
  have HA : Hid (∀ w', Cl (((w.alloc (.cells #[.float .f64 tx, .float .f64 ty, .float .f64 tz, .float .f64 bx, .float .f64 bY, .float .f64 bz, .float .f64 nx, .float .f64 ny, .float .f64 nz] 28)).alloc (.cells #[.float .f64 vx, .float .f64 vy, .float .f64 vz] 24)).alloc (.cells #[.float .f64 0, .float .f64 0, .float .f64 0] 24)) w' → _) := fun w' h => h.three (b := w.heap.size) (by go_simp; exact rfl) (by go_simp; exact rfl) (by go_simp; exact rfl) (by go_simp; done)
  have HB : Hid (∀ w', Cl (((w.alloc (.cells #[.float .f64 tx, .float .f64 ty, .float .f64 tz, .float .f64 bx, .float .f64 bY, .float .f64 bz, .float .f64 nx, .float .f64 ny, .float .f64 nz] 28)).alloc (.cells #[.float .f64 vx, .float .f64 vy, .float .f64 vz] 24)).alloc (.cells #[.float .f64 0, .float .f64 0, .float .f64 0] 24)) w' → _) := fun w' h => h.next3 (b := w.heap.size) (by go_simp; exact rfl) (by go_simp; exact rfl) (by go_simp; exact rfl) (by go_simp; done)
  have HC : Hid (∀ w', Cl (((w.alloc (.cells #[.float .f64 tx, .float .f64 ty, .float .f64 tz, .float .f64 bx, .float .f64 bY, .float .f64 bz, .float .f64 nx, .float .f64 ny, .float .f64 nz] 28)).alloc (.cells #[.float .f64 vx, .float .f64 vy, .float .f64 vz] 24)).alloc (.cells #[.float .f64 0, .float .f64 0, .float .f64 0] 24)) w' → _) := fun w' h => h.more3 (b := w.heap.size) (by go_simp; exact rfl) (by go_simp; exact rfl) (by go_simp; exact rfl) (by go_simp; done)
  have HV : Hid (∀ w', Cl (((w.alloc (.cells #[.float .f64 tx, .float .f64 ty, .float .f64 tz, .float .f64 bx, .float .f64 bY, .float .f64 bz, .float .f64 nx, .float .f64 ny, .float .f64 nz] 28)).alloc (.cells #[.float .f64 vx, .float .f64 vy, .float .f64 vz] 24)).alloc (.cells #[.float .f64 0, .float .f64 0, .float .f64 0] 24)) w' → _) := fun w' h => h.three (b := w.heap.size + 1) (by go_simp; exact rfl) (by go_simp; exact rfl) (by go_simp; exact rfl) (by go_simp; done)
  have HZ : Hid (∀ w', Cl (((w.alloc (.cells #[.float .f64 tx, .float .f64 ty, .float .f64 tz, .float .f64 bx, .float .f64 bY, .float .f64 bz, .float .f64 nx, .float .f64 ny, .float .f64 nz] 28)).alloc (.cells #[.float .f64 vx, .float .f64 vy, .float .f64 vz] 24)).alloc (.cells #[.float .f64 0, .float .f64 0, .float .f64 0] 24)) w' → _) := fun w' h => h.three (b := w.heap.size + 1 + 1) (by go_simp; exact rfl) (by go_simp; exact rfl) (by go_simp; exact rfl) (by go_simp; done)
  have HY : Hid (∀ w', Cl (((w.alloc (.cells #[.float .f64 tx, .float .f64 ty, .float .f64 tz, .float .f64 bx, .float .f64 bY, .float .f64 bz, .float .f64 nx, .float .f64 ny, .float .f64 nz] 28)).alloc (.cells #[.float .f64 vx, .float .f64 vy, .float .f64 vz] 24)).alloc (.cells #[.float .f64 0, .float .f64 0, .float .f64 0] 24)) w' → _) := fun w' h => h.frz (b := w.heap.size + 1 + 1) (by go_simp; done) (by go_simp; done) (by go_simp; done) (by go_simp; done)
  repeat (
    refine loose_one ?_ rfl (fun w hw => ?_) (fun K hK => ?_)
    rotate_left
    ·obtain ⟨a0, a1, a2⟩ := HA.out _ hw
     obtain ⟨b0, b1, b2⟩ := HB.out _ hw
     obtain ⟨c0, c1, c2⟩ := HC.out _ hw
     obtain ⟨v0, v1, v2⟩ := HV.out _ hw
     go_simp
     exact rfl
    go_simp
    refine hK _ ?_
    clear hK K)
  refine loose_any rfl (fun w hw => ?_) (fun K hK => ?_)
  · go_simp
    exact loose_ret (rscale_any _ _ _ _ _) hw
  rintro v ⟨p0, p1, p2, rfl, hp0, hp1, hp2⟩
  go_simp
  refine hK _ ?_
  clear hK K
  repeat (
    refine loose_one ?_ rfl (fun w hw => ?_) (fun K hK => ?_)
    rotate_left
    ·obtain ⟨a0, a1, a2⟩ := HA.out _ hw
     obtain ⟨b0, b1, b2⟩ := HB.out _ hw
     obtain ⟨c0, c1, c2⟩ := HC.out _ hw
     obtain ⟨v0, v1, v2⟩ := HV.out _ hw
     go_simp
     exact rfl
    go_simp
    refine hK _ ?_
    clear hK K)
  refine loose_any rfl (fun w hw => ?_) (fun K hK => ?_)
  · go_simp
    exact loose_ret (rscale_any _ _ _ _ _) hw
  rintro v ⟨q0, q1, q2, rfl, hq0, hq1, hq2⟩
  go_simp
  refine hK _ ?_
  clear hK K
  refine loose_any rfl (fun w hw => ?_) (fun K hK => ?_)
  · go_simp
    exact loose_ret ((radd_any _ _ _ _ _ _ _).mono (isV.to (fadd_congr hp0.sm hq0.sm) (fadd_congr hp1.sm hq1.sm) (fadd_congr hp2.sm hq2.sm))) hw
  rintro v ⟨s0, s1, s2, rfl, hs0, hs1, hs2⟩
  go_simp
  refine hK _ ?_
  clear hK K
  repeat (
    refine loose_one ?_ rfl (fun w hw => ?_) (fun K hK => ?_)
    rotate_left
    ·obtain ⟨a0, a1, a2⟩ := HA.out _ hw
     obtain ⟨b0, b1, b2⟩ := HB.out _ hw
     obtain ⟨c0, c1, c2⟩ := HC.out _ hw
     obtain ⟨v0, v1, v2⟩ := HV.out _ hw
     go_simp
     exact rfl
    go_simp
    refine hK _ ?_
    clear hK K)
  refine loose_any rfl (fun w hw => ?_) (fun K hK => ?_)
  · go_simp
    exact loose_ret (rscale_any _ _ _ _ _) hw
  rintro v ⟨u0, u1, u2, rfl, hu0, hu1, hu2⟩
  go_simp
  refine hK _ ?_
  clear hK K
  refine loose_any rfl (fun w hw => ?_) (fun K hK => ?_)
  · go_simp
    exact loose_ret ((radd_any _ _ _ _ _ _ _).mono (isV.to (fadd_congr hs0.sm hu0.sm) (fadd_congr hs1.sm hu1.sm) (fadd_congr hs2.sm hu2.sm))) hw
  rintro v ⟨m0, m1, m2, rfl, hm0, hm1, hm2⟩
  go_simp
  refine hK _ ?_
  clear hK K
  intro w' hw'
  obtain ⟨z0, z1, z2⟩ := HZ.out _ hw'
  obtain ⟨f0, f1, f2⟩ := HY.out _ hw'
  have HW : Hid (Cl (((w.alloc (.cells #[.float .f64 tx, .float .f64 ty, .float .f64 tz, .float .f64 bx, .float .f64 bY, .float .f64 bz, .float .f64 nx, .float .f64 ny, .float .f64 nz] 28)).alloc (.cells #[.float .f64 vx, .float .f64 vy, .float .f64 vz] 24)).alloc (.cells #[.float .f64 0, .float .f64 0, .float .f64 0] 24)) w') := hw'
  clear hw' HA HB HC HV
  go_wp2_with fail
  refine bodyPost_ret (v := .agg #[.float .f64 m0, .float .f64 m1, .float .f64 m2]) (by simp [results, go_sem, z0, z1, z2]) rfl ⟨_, rfl, ⟨_, _, _, rfl, by assumption, by assumption, by assumption⟩, ((((HW.out.out3).setCell (by simp <;> omega) _).setCell (by simp <;> omega) _).setCell (by simp <;> omega) _)⟩

end Go.Proofs.Ytkcchnepllcghaa
