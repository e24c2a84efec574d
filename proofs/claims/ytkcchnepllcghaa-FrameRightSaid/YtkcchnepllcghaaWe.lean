/- Package frame: through, To, From. -/
import Derived.Test.YtkcchnepllcghaaRows
import Derived.Test.YtkcchnepllcghaaWc
namespace Go.Proofs.Ytkcchnepllcghaa
open Go.RowKit Fl

set_option maxRecDepth 100000 in
set_option maxHeartbeats 1000000 in
theorem through_any (tx ty tz bx bY bz nx ny nz : Nat) (w : World) : Calls Try.prog 25 #[.agg #[.float .f64 tx, .float .f64 ty, .float .f64 tz, .float .f64 bx, .float .f64 bY, .float .f64 bz, .float .f64 nx, .float .f64 ny, .float .f64 nz]] w fun e w' => e = .returned (.func (.func 36) #[] #[.pointer (some ⟨w.heap.size + 1, 0, none⟩)]) ∧ (w'.cell? ⟨w.heap.size + 1, 0, none⟩ = some (.float .f64 tx) ∧ w'.cell? ⟨w.heap.size + 1, 1, none⟩ = some (.float .f64 ty) ∧ w'.cell? ⟨w.heap.size + 1, 2, none⟩ = some (.float .f64 tz) ∧ w'.cell? ⟨w.heap.size + 1, 3, none⟩ = some (.float .f64 bx) ∧ w'.cell? ⟨w.heap.size + 1, 4, none⟩ = some (.float .f64 bY) ∧ w'.cell? ⟨w.heap.size + 1, 5, none⟩ = some (.float .f64 bz) ∧ w'.cell? ⟨w.heap.size + 1, 6, none⟩ = some (.float .f64 nx) ∧ w'.cell? ⟨w.heap.size + 1, 7, none⟩ = some (.float .f64 ny) ∧ w'.cell? ⟨w.heap.size + 1, 8, none⟩ = some (.float .f64 nz)) ∧ w.heap.size + 1 < w'.heap.size ∧ Cl w w' := by
  go_enter Try.func25, Try.ntmps25
  go_wp2_with fail
  go_ret
  refine ⟨rfl, ⟨by go_simp; done, by go_simp; done, by go_simp; done, by go_simp; done, by go_simp; done, by go_simp; done, by go_simp; done, by go_simp; done, by go_simp; done⟩, by go_simp; done, ?_⟩
  exact Below.alloc (Below.alloc (Below.refl _ _) (Nat.le_refl _) _) (by simp) _

set_option maxRecDepth 100000 in
set_option maxHeartbeats 1000000 in
theorem to_any (tx ty tz bx bY bz nx ny nz vx vy vz : Nat) (w : World) : Ret Try.prog 12 #[.agg #[.float .f64 tx, .float .f64 ty, .float .f64 tz, .float .f64 bx, .float .f64 bY, .float .f64 bz, .float .f64 nx, .float .f64 ny, .float .f64 nz], .agg #[.float .f64 vx, .float .f64 vy, .float .f64 vz]] w (isV (dotF vx vy vz tx ty tz) (dotF vx vy vz bx bY bz) (dotF vx vy vz nx ny nz)) := by
  unfold Ret
  go_enter Try.func12, Try.ntmps12
  go_wp2_with fail
  refine Calls.mono (through_any _ _ _ _ _ _ _ _ _ _) ?_
  rintro e w1 ⟨rfl, hs, hl, hb⟩
  have HW : Hid (Cl ((((w.alloc (.cells #[.float .f64 tx, .float .f64 ty, .float .f64 tz, .float .f64 bx, .float .f64 bY, .float .f64 bz, .float .f64 nx, .float .f64 ny, .float .f64 nz] 28)).alloc (.cells #[.float .f64 vx, .float .f64 vy, .float .f64 vz] 24)).alloc (.cells #[.float .f64 0, .float .f64 0, .float .f64 0] 24)).alloc (.cells #[.float .f64 0, .float .f64 0, .float .f64 0] 42)) w1) := hb
  have HS : Hid (w1.cell? ⟨w.heap.size + 1 + 1 + 1 + 1 + 1, 0, none⟩ = some (.float .f64 tx) ∧ w1.cell? ⟨w.heap.size + 1 + 1 + 1 + 1 + 1, 1, none⟩ = some (.float .f64 ty) ∧ w1.cell? ⟨w.heap.size + 1 + 1 + 1 + 1 + 1, 2, none⟩ = some (.float .f64 tz) ∧ w1.cell? ⟨w.heap.size + 1 + 1 + 1 + 1 + 1, 3, none⟩ = some (.float .f64 bx) ∧ w1.cell? ⟨w.heap.size + 1 + 1 + 1 + 1 + 1, 4, none⟩ = some (.float .f64 bY) ∧ w1.cell? ⟨w.heap.size + 1 + 1 + 1 + 1 + 1, 5, none⟩ = some (.float .f64 bz) ∧ w1.cell? ⟨w.heap.size + 1 + 1 + 1 + 1 + 1, 6, none⟩ = some (.float .f64 nx) ∧ w1.cell? ⟨w.heap.size + 1 + 1 + 1 + 1 + 1, 7, none⟩ = some (.float .f64 ny) ∧ w1.cell? ⟨w.heap.size + 1 + 1 + 1 + 1 + 1, 8, none⟩ = some (.float .f64 nz)) := by unfold Hid; simpa using hs
  clear hb hs
  have HT : Hid (Tri w1 (w.heap.size + 1 + 1 + 1) 0 0 0) := Tri.cl (w := (((w.alloc (.cells #[.float .f64 tx, .float .f64 ty, .float .f64 tz, .float .f64 bx, .float .f64 bY, .float .f64 bz, .float .f64 nx, .float .f64 ny, .float .f64 nz] 28)).alloc (.cells #[.float .f64 vx, .float .f64 vy, .float .f64 vz] 24)).alloc (.cells #[.float .f64 0, .float .f64 0, .float .f64 0] 24)).alloc (.cells #[.float .f64 0, .float .f64 0, .float .f64 0] 42)) ⟨by go_simp; done, by go_simp; done, by go_simp; done, by go_simp; done, by go_simp; done, by go_simp; done, by go_simp; done⟩ HW.out
  have HV : Hid _ := HW.out.three (b := w.heap.size + 1) (by go_simp; exact rfl) (by go_simp; exact rfl) (by go_simp; exact rfl) (by go_simp; done)
  go_wp2_with fail
  refine Calls.mono (through_to vx vy vz tx ty tz bx bY bz nx ny nz 0 0 0 (w.heap.size + 1) (w.heap.size + 1 + 1 + 1) (w.heap.size + 1 + 1 + 1 + 1 + 1) w1 HV.out (by omega) HT.out HS.out) ?_
  rintro e w2 ⟨rfl, r0, r1, r2, h0, h1, h2, hn, hb⟩
  have HB : Hid (Below (w.heap.size + 1 + 1 + 1) (((w.alloc (.cells #[.float .f64 tx, .float .f64 ty, .float .f64 tz, .float .f64 bx, .float .f64 bY, .float .f64 bz, .float .f64 nx, .float .f64 ny, .float .f64 nz] 28)).alloc (.cells #[.float .f64 vx, .float .f64 vy, .float .f64 vz] 24)).alloc (.cells #[.float .f64 0, .float .f64 0, .float .f64 0] 24)) w2) := Below.trans (Below.trans (Below.alloc (Below.refl _ _) (by simp) _) (Below.mono HW.out (by simp))) hb
  have HN : Hid _ := hn
  clear HV HT HS hb hn HW hl
  have z0 := (HB.out.cell (p := ⟨w.heap.size + 1 + 1, 0, none⟩) (by simp)).trans (by go_simp; exact rfl)
  have z1 := (HB.out.cell (p := ⟨w.heap.size + 1 + 1, 1, none⟩) (by simp)).trans (by go_simp; exact rfl)
  have z2 := (HB.out.cell (p := ⟨w.heap.size + 1 + 1, 2, none⟩) (by simp)).trans (by go_simp; exact rfl)
  have f0 := (HB.out.frozen (p := ⟨w.heap.size + 1 + 1, 0, none⟩) (by simp)).trans (c := false) (by go_simp; done)
  have f1 := (HB.out.frozen (p := ⟨w.heap.size + 1 + 1, 1, none⟩) (by simp)).trans (c := false) (by go_simp; done)
  have f2 := (HB.out.frozen (p := ⟨w.heap.size + 1 + 1, 2, none⟩) (by simp)).trans (c := false) (by go_simp; done)
  have d0 := HN.out.c0
  have d1 := HN.out.c1
  have d2 := HN.out.c2
  go_wp2_with fail
  refine bodyPost_ret (v := .agg #[.float .f64 r0, .float .f64 r1, .float .f64 r2]) (by simp [results, go_sem, z0, z1, z2]) rfl ⟨_, rfl, ⟨_, _, _, rfl, h0, h1, h2⟩, ?_⟩
  exact Below.setCell (Below.setCell (Below.setCell (((((Below.refl _ _).alloc (Nat.le_refl _) _).alloc (by simp) _).alloc (by simp <;> omega) _).trans (HB.out.mono (by omega))) (by simp <;> omega) _) (by simp <;> omega) _) (by simp <;> omega) _

set_option maxRecDepth 100000 in
set_option maxHeartbeats 1000000 in
theorem from_any (tx ty tz bx bY bz nx ny nz vx vy vz : Nat) (gx : Wd vx) (gy : Wd vy) (gz : Wd vz) (w : World) : Ret Try.prog 14 #[.agg #[.float .f64 tx, .float .f64 ty, .float .f64 tz, .float .f64 bx, .float .f64 bY, .float .f64 bz, .float .f64 nx, .float .f64 ny, .float .f64 nz], .agg #[.float .f64 vx, .float .f64 vy, .float .f64 vz]] w (isV (fadd (fadd (fmul tx vx) (fmul bx vy)) (fmul nx vz)) (fadd (fadd (fmul ty vx) (fmul bY vy)) (fmul ny vz)) (fadd (fadd (fmul tz vx) (fmul bz vy)) (fmul nz vz))) := by
  unfold Ret
  go_enter Try.func14, Try.ntmps14
  go_wp2_with fail
  refine Calls.mono (through_any _ _ _ _ _ _ _ _ _ _) ?_
  rintro e w1 ⟨rfl, hs, hl, hb⟩
  have HW : Hid (Cl ((((w.alloc (.cells #[.float .f64 tx, .float .f64 ty, .float .f64 tz, .float .f64 bx, .float .f64 bY, .float .f64 bz, .float .f64 nx, .float .f64 ny, .float .f64 nz] 28)).alloc (.cells #[.float .f64 vx, .float .f64 vy, .float .f64 vz] 24)).alloc (.cells #[.float .f64 0, .float .f64 0, .float .f64 0] 24)).alloc (.cells #[.float .f64 0, .float .f64 0, .float .f64 0, .float .f64 0, .float .f64 0, .float .f64 0, .float .f64 0, .float .f64 0, .float .f64 0] 46)) w1) := hb
  have HS : Hid (w1.cell? ⟨w.heap.size + 1 + 1 + 1 + 1 + 1, 0, none⟩ = some (.float .f64 tx) ∧ w1.cell? ⟨w.heap.size + 1 + 1 + 1 + 1 + 1, 1, none⟩ = some (.float .f64 ty) ∧ w1.cell? ⟨w.heap.size + 1 + 1 + 1 + 1 + 1, 2, none⟩ = some (.float .f64 tz) ∧ w1.cell? ⟨w.heap.size + 1 + 1 + 1 + 1 + 1, 3, none⟩ = some (.float .f64 bx) ∧ w1.cell? ⟨w.heap.size + 1 + 1 + 1 + 1 + 1, 4, none⟩ = some (.float .f64 bY) ∧ w1.cell? ⟨w.heap.size + 1 + 1 + 1 + 1 + 1, 5, none⟩ = some (.float .f64 bz) ∧ w1.cell? ⟨w.heap.size + 1 + 1 + 1 + 1 + 1, 6, none⟩ = some (.float .f64 nx) ∧ w1.cell? ⟨w.heap.size + 1 + 1 + 1 + 1 + 1, 7, none⟩ = some (.float .f64 ny) ∧ w1.cell? ⟨w.heap.size + 1 + 1 + 1 + 1 + 1, 8, none⟩ = some (.float .f64 nz)) := by unfold Hid; simpa using hs
  clear hb hs
  have HT : Hid (Nin w1 (w.heap.size + 1 + 1 + 1) 0 0 0 0 0 0 0 0 0) := Nin.cl (w := (((w.alloc (.cells #[.float .f64 tx, .float .f64 ty, .float .f64 tz, .float .f64 bx, .float .f64 bY, .float .f64 bz, .float .f64 nx, .float .f64 ny, .float .f64 nz] 28)).alloc (.cells #[.float .f64 vx, .float .f64 vy, .float .f64 vz] 24)).alloc (.cells #[.float .f64 0, .float .f64 0, .float .f64 0] 24)).alloc (.cells #[.float .f64 0, .float .f64 0, .float .f64 0, .float .f64 0, .float .f64 0, .float .f64 0, .float .f64 0, .float .f64 0, .float .f64 0] 46)) ⟨by go_simp; done, by go_simp; done, by go_simp; done, by go_simp; done, by go_simp; done, by go_simp; done, by go_simp; done, by go_simp; done, by go_simp; done, by go_simp; done, by go_simp; done, by go_simp; done, by go_simp; done, by go_simp; done, by go_simp; done, by go_simp; done, by go_simp; done, by go_simp; done, by go_simp; done⟩ HW.out
  have HV : Hid _ := HW.out.three (b := w.heap.size + 1) (by go_simp; exact rfl) (by go_simp; exact rfl) (by go_simp; exact rfl) (by go_simp; done)
  go_wp2_with fail
  refine Calls.mono (through_from vx vy vz tx ty tz bx bY bz nx ny nz 0 0 0 0 0 0 0 0 0 (w.heap.size + 1) (w.heap.size + 1 + 1 + 1) (w.heap.size + 1 + 1 + 1 + 1 + 1) gx gy gz w1 HV.out (by omega) HT.out HS.out) ?_
  rintro e w2 ⟨rfl, r0, r1, r2, r3, r4, r5, r6, r7, r8, h0, h1, h2, h3, h4, h5, h6, h7, h8, hn, hb⟩
  have HB : Hid (Below (w.heap.size + 1 + 1 + 1) (((w.alloc (.cells #[.float .f64 tx, .float .f64 ty, .float .f64 tz, .float .f64 bx, .float .f64 bY, .float .f64 bz, .float .f64 nx, .float .f64 ny, .float .f64 nz] 28)).alloc (.cells #[.float .f64 vx, .float .f64 vy, .float .f64 vz] 24)).alloc (.cells #[.float .f64 0, .float .f64 0, .float .f64 0] 24)) w2) := Below.trans (Below.trans (Below.alloc (Below.refl _ _) (by simp) _) (Below.mono HW.out (by simp))) hb
  have HN : Hid _ := hn
  clear HV HT HS hb hn HW hl
  have z0 := (HB.out.cell (p := ⟨w.heap.size + 1 + 1, 0, none⟩) (by simp)).trans (by go_simp; exact rfl)
  have z1 := (HB.out.cell (p := ⟨w.heap.size + 1 + 1, 1, none⟩) (by simp)).trans (by go_simp; exact rfl)
  have z2 := (HB.out.cell (p := ⟨w.heap.size + 1 + 1, 2, none⟩) (by simp)).trans (by go_simp; exact rfl)
  have f0 := (HB.out.frozen (p := ⟨w.heap.size + 1 + 1, 0, none⟩) (by simp)).trans (c := false) (by go_simp; done)
  have f1 := (HB.out.frozen (p := ⟨w.heap.size + 1 + 1, 1, none⟩) (by simp)).trans (c := false) (by go_simp; done)
  have f2 := (HB.out.frozen (p := ⟨w.heap.size + 1 + 1, 2, none⟩) (by simp)).trans (c := false) (by go_simp; done)
  go_wp2_with fail
  refine wp_region_loose (Cl w2) [none, none, none, none, some (isV (fadd (fmul tx vx) (fmul bx vy)) (fadd (fmul ty vx) (fmul bY vy)) (fadd (fmul tz vx) (fmul bz vy))), none, none, some (isV (fadd (fadd (fmul tx vx) (fmul bx vy)) (fmul nx vz)) (fadd (fadd (fmul ty vx) (fmul bY vy)) (fmul ny vz)) (fadd (fadd (fmul tz vx) (fmul bz vy)) (fmul nz vz)))] 8 (by kernel_rfl) (by kernel_rfl) (by kernel_rfl) (Cl.drew _) ?_
  have H0 : Hid (∀ w', Cl w2 w' → _) := fun w' h => h.three (b := w.heap.size + 1 + 1 + 1) HN.out.c0 HN.out.c1 HN.out.c2 HN.out.lt
  have H1 : Hid (∀ w', Cl w2 w' → _) := fun w' h => h.next3 (b := w.heap.size + 1 + 1 + 1) HN.out.c3 HN.out.c4 HN.out.c5 HN.out.lt
  have H2 : Hid (∀ w', Cl w2 w' → _) := fun w' h => h.more3 (b := w.heap.size + 1 + 1 + 1) HN.out.c6 HN.out.c7 HN.out.c8 HN.out.lt
  have HZ : Hid (∀ w', Cl w2 w' → _) := fun w' h => h.three (b := w.heap.size + 1 + 1) z0 z1 z2 (Nat.lt_of_lt_of_le (by simp) HB.out.size)
  have HY : Hid (∀ w', Cl w2 w' → _) := fun w' h => h.frz (b := w.heap.size + 1 + 1) f0 f1 f2 (Nat.lt_of_lt_of_le (by simp) HB.out.size)
  clear z0 z1 z2 f0 f1 f2
  repeat (
    refine loose_one ?_ rfl (fun w hw => ?_) (fun K hK => ?_)
    rotate_left
    ·obtain ⟨a0, a1, a2⟩ := H0.out _ hw
     obtain ⟨b0, b1, b2⟩ := H1.out _ hw
     obtain ⟨c0, c1, c2⟩ := H2.out _ hw
     go_simp
     exact rfl
    go_simp
    refine hK _ ?_
    clear hK K)
  refine loose_any rfl (fun w hw => ?_) (fun K hK => ?_)
  · go_simp
    exact loose_ret ((add_any _ _ _ _ _ _ _).mono (isV.to (fadd_congr h0.sm h3.sm) (fadd_congr h1.sm h4.sm) (fadd_congr h2.sm h5.sm))) hw
  rintro v ⟨s0, s1, s2, rfl, k0, k1, k2⟩
  go_simp
  refine hK _ ?_
  clear hK K
  repeat (
    refine loose_one ?_ rfl (fun w hw => ?_) (fun K hK => ?_)
    rotate_left
    ·obtain ⟨a0, a1, a2⟩ := H0.out _ hw
     obtain ⟨b0, b1, b2⟩ := H1.out _ hw
     obtain ⟨c0, c1, c2⟩ := H2.out _ hw
     go_simp
     exact rfl
    go_simp
    refine hK _ ?_
    clear hK K)
  refine loose_any rfl (fun w hw => ?_) (fun K hK => ?_)
  · go_simp
    exact loose_ret ((add_any _ _ _ _ _ _ _).mono (isV.to (fadd_congr k0.sm h6.sm) (fadd_congr k1.sm h7.sm) (fadd_congr k2.sm h8.sm))) hw
  rintro v ⟨u0, u1, u2, rfl, m0, m1, m2⟩
  go_simp
  refine hK _ ?_
  clear hK K
  intro w' hw'
  obtain ⟨z0, z1, z2⟩ := HZ.out _ hw'
  obtain ⟨f0, f1, f2⟩ := HY.out _ hw'
  have HC : Hid (Cl w2 w') := hw'
  clear hw' H0 H1 H2
  go_wp2_with fail
  refine bodyPost_ret (v := .agg #[.float .f64 u0, .float .f64 u1, .float .f64 u2]) (by simp [results, go_sem, z0, z1, z2]) rfl ⟨_, rfl, ⟨_, _, _, rfl, m0, m1, m2⟩, ?_⟩
  have hlt : w.heap.size ≤ w2.heap.size := Nat.le_trans (by simp <;> omega) HB.out.size
  exact Below.setCell (Below.setCell (Below.setCell ((((((Below.refl _ _).alloc (Nat.le_refl _) _).alloc (by simp) _).alloc (by simp <;> omega) _).trans (HB.out.mono (by omega))).trans (Below.mono HC.out hlt)) (by simp <;> omega) _) (by simp <;> omega) _) (by simp <;> omega) _

end Go.Proofs.Ytkcchnepllcghaa
