/- Package frame: the functions that To and From give to what goes through the directions. -/
import Derived.Test.YtkcchnepllcghaaRows
import Derived.Test.YtkcchnepllcghaaW0
import Derived.Test.YtkcchnepllcghaaVb
import Derived.Test.YtkcchnepllcghaaVi
import Derived.Test.YtkcchnepllcghaaVj
namespace Go.Proofs.Ytkcchnepllcghaa
open Go.RowKit Fl

/-- Three cells that may be written. -/
structure Tri (w : World) (b : Nat) (x y z : Nat) : Prop where
  c0 : w.cell? ⟨b, 0, none⟩ = some (.float .f64 x)
  c1 : w.cell? ⟨b, 1, none⟩ = some (.float .f64 y)
  c2 : w.cell? ⟨b, 2, none⟩ = some (.float .f64 z)
  f0 : w.frozen? ⟨b, 0, none⟩ = false
  f1 : w.frozen? ⟨b, 1, none⟩ = false
  f2 : w.frozen? ⟨b, 2, none⟩ = false
  lt : b < w.heap.size

theorem Tri.cl {w w' : World} {b x y z : Nat} (h : Tri w b x y z) (k : Cl w w') : Tri w' b x y z := by
  obtain ⟨c0, c1, c2⟩ := Cl.three k h.c0 h.c1 h.c2 h.lt
  obtain ⟨f0, f1, f2⟩ := Cl.frz k h.f0 h.f1 h.f2 h.lt
  exact ⟨c0, c1, c2, f0, f1, f2, Nat.lt_of_lt_of_le h.lt k.size⟩

theorem Tri.alloc {w : World} {b x y z : Nat} (h : Tri w b x y z) (o : Obj) : Tri (w.alloc o) b x y z :=
  h.cl (Below.alloc (Below.refl _ _) (Nat.le_refl _) o)

set_option maxRecDepth 100000 in
set_option maxHeartbeats 1000000 in
theorem to1_0 (vx vy vz dx dY dz x y z bv bd : Nat) (w : World) (hv : w.cell? ⟨bv, 0, none⟩ = some (.float .f64 vx) ∧ w.cell? ⟨bv, 1, none⟩ = some (.float .f64 vy) ∧ w.cell? ⟨bv, 2, none⟩ = some (.float .f64 vz)) (hb : bv < bd) (hd : Tri w bd x y z) :
    Calls Try.prog 26 #[.int .i64 0, .agg #[.float .f64 dx, .float .f64 dY, .float .f64 dz], .pointer (some ⟨bv, 0, none⟩), .pointer (some ⟨bd, 0, none⟩)] w fun e w' => e = .returned (.tuple #[]) ∧ ∃ r, Eqv r (dotF vx vy vz dx dY dz) ∧ Tri w' bd r y z ∧ Below bd w w' := by
  have HD : Hid _ := hd
  have hlt := hd.lt
  have hlt2 := Nat.lt_trans hb hlt
  obtain ⟨a0, a1, a2⟩ := hv
  go_enter Try.func26, Try.ntmps26
  clear hd
  go_wp2_with fail
  refine Calls.mono (dot_any _ _ _ _ _ _ _) ?_
  rintro e w1 ⟨v, rfl, ⟨r, rfl, hr⟩, hb1⟩
  have HW : Hid (Cl (w.alloc (.cells #[.float .f64 dx, .float .f64 dY, .float .f64 dz] 24)) w1) := hb1
  clear hb1
  have HT : Hid _ := (HD.out.alloc (.cells #[.float .f64 dx, .float .f64 dY, .float .f64 dz] 24)).cl HW.out
  have z0 := HT.out.c0
  have z1 := HT.out.c1
  have z2 := HT.out.c2
  have f0 := HT.out.f0
  have f1 := HT.out.f1
  have f2 := HT.out.f2
  have hl := HT.out.lt
  go_wp2_with fail
  go_end0
  refine ⟨rfl, r, hr, ⟨by go_simp; done, by go_simp; done, by go_simp; done, by go_simp; done, by go_simp; done, by go_simp; done, by go_simp; done⟩, ?_⟩
  exact Below.setCell (HW.out.out1.mono (Nat.le_of_lt hlt)) (Nat.le_refl _) _

set_option maxRecDepth 100000 in
set_option maxHeartbeats 1000000 in
theorem to1_1 (vx vy vz dx dY dz x y z bv bd : Nat) (w : World) (hv : w.cell? ⟨bv, 0, none⟩ = some (.float .f64 vx) ∧ w.cell? ⟨bv, 1, none⟩ = some (.float .f64 vy) ∧ w.cell? ⟨bv, 2, none⟩ = some (.float .f64 vz)) (hb : bv < bd) (hd : Tri w bd x y z) :
    Calls Try.prog 26 #[.int .i64 1, .agg #[.float .f64 dx, .float .f64 dY, .float .f64 dz], .pointer (some ⟨bv, 0, none⟩), .pointer (some ⟨bd, 0, none⟩)] w fun e w' => e = .returned (.tuple #[]) ∧ ∃ r, Eqv r (dotF vx vy vz dx dY dz) ∧ Tri w' bd x r z ∧ Below bd w w' := by
  have HD : Hid _ := hd
  have hlt := hd.lt
  have hlt2 := Nat.lt_trans hb hlt
  obtain ⟨a0, a1, a2⟩ := hv
  go_enter Try.func26, Try.ntmps26
  clear hd
  go_wp2_with fail
  refine Calls.mono (dot_any _ _ _ _ _ _ _) ?_
  rintro e w1 ⟨v, rfl, ⟨r, rfl, hr⟩, hb1⟩
  have HW : Hid (Cl (w.alloc (.cells #[.float .f64 dx, .float .f64 dY, .float .f64 dz] 24)) w1) := hb1
  clear hb1
  have HT : Hid _ := (HD.out.alloc (.cells #[.float .f64 dx, .float .f64 dY, .float .f64 dz] 24)).cl HW.out
  have z0 := HT.out.c0
  have z1 := HT.out.c1
  have z2 := HT.out.c2
  have f0 := HT.out.f0
  have f1 := HT.out.f1
  have f2 := HT.out.f2
  have hl := HT.out.lt
  go_wp2_with fail
  go_end0
  refine ⟨rfl, r, hr, ⟨by go_simp; done, by go_simp; done, by go_simp; done, by go_simp; done, by go_simp; done, by go_simp; done, by go_simp; done⟩, ?_⟩
  exact Below.setCell (HW.out.out1.mono (Nat.le_of_lt hlt)) (Nat.le_refl _) _

set_option maxRecDepth 100000 in
set_option maxHeartbeats 1000000 in
theorem to1_2 (vx vy vz dx dY dz x y z bv bd : Nat) (w : World) (hv : w.cell? ⟨bv, 0, none⟩ = some (.float .f64 vx) ∧ w.cell? ⟨bv, 1, none⟩ = some (.float .f64 vy) ∧ w.cell? ⟨bv, 2, none⟩ = some (.float .f64 vz)) (hb : bv < bd) (hd : Tri w bd x y z) :
    Calls Try.prog 26 #[.int .i64 2, .agg #[.float .f64 dx, .float .f64 dY, .float .f64 dz], .pointer (some ⟨bv, 0, none⟩), .pointer (some ⟨bd, 0, none⟩)] w fun e w' => e = .returned (.tuple #[]) ∧ ∃ r, Eqv r (dotF vx vy vz dx dY dz) ∧ Tri w' bd x y r ∧ Below bd w w' := by
  have HD : Hid _ := hd
  have hlt := hd.lt
  have hlt2 := Nat.lt_trans hb hlt
  obtain ⟨a0, a1, a2⟩ := hv
  go_enter Try.func26, Try.ntmps26
  clear hd
  go_wp2_with fail
  refine Calls.mono (dot_any _ _ _ _ _ _ _) ?_
  rintro e w1 ⟨v, rfl, ⟨r, rfl, hr⟩, hb1⟩
  have HW : Hid (Cl (w.alloc (.cells #[.float .f64 dx, .float .f64 dY, .float .f64 dz] 24)) w1) := hb1
  clear hb1
  have HT : Hid _ := (HD.out.alloc (.cells #[.float .f64 dx, .float .f64 dY, .float .f64 dz] 24)).cl HW.out
  have z0 := HT.out.c0
  have z1 := HT.out.c1
  have z2 := HT.out.c2
  have f0 := HT.out.f0
  have f1 := HT.out.f1
  have f2 := HT.out.f2
  have hl := HT.out.lt
  go_wp2_with fail
  go_end0
  refine ⟨rfl, r, hr, ⟨by go_simp; done, by go_simp; done, by go_simp; done, by go_simp; done, by go_simp; done, by go_simp; done, by go_simp; done⟩, ?_⟩
  exact Below.setCell (HW.out.out1.mono (Nat.le_of_lt hlt)) (Nat.le_refl _) _

/-- Nine cells that may be written. -/
structure Nin (w : World) (b : Nat) (x0 x1 x2 x3 x4 x5 x6 x7 x8 : Nat) : Prop where
  c0 : w.cell? ⟨b, 0, none⟩ = some (.float .f64 x0)
  c1 : w.cell? ⟨b, 1, none⟩ = some (.float .f64 x1)
  c2 : w.cell? ⟨b, 2, none⟩ = some (.float .f64 x2)
  c3 : w.cell? ⟨b, 3, none⟩ = some (.float .f64 x3)
  c4 : w.cell? ⟨b, 4, none⟩ = some (.float .f64 x4)
  c5 : w.cell? ⟨b, 5, none⟩ = some (.float .f64 x5)
  c6 : w.cell? ⟨b, 6, none⟩ = some (.float .f64 x6)
  c7 : w.cell? ⟨b, 7, none⟩ = some (.float .f64 x7)
  c8 : w.cell? ⟨b, 8, none⟩ = some (.float .f64 x8)
  f0 : w.frozen? ⟨b, 0, none⟩ = false
  f1 : w.frozen? ⟨b, 1, none⟩ = false
  f2 : w.frozen? ⟨b, 2, none⟩ = false
  f3 : w.frozen? ⟨b, 3, none⟩ = false
  f4 : w.frozen? ⟨b, 4, none⟩ = false
  f5 : w.frozen? ⟨b, 5, none⟩ = false
  f6 : w.frozen? ⟨b, 6, none⟩ = false
  f7 : w.frozen? ⟨b, 7, none⟩ = false
  f8 : w.frozen? ⟨b, 8, none⟩ = false
  lt : b < w.heap.size

theorem Nin.cl {w w' : World} {b x0 x1 x2 x3 x4 x5 x6 x7 x8 : Nat} (h : Nin w b x0 x1 x2 x3 x4 x5 x6 x7 x8) (k : Cl w w') : Nin w' b x0 x1 x2 x3 x4 x5 x6 x7 x8 := by
  obtain ⟨c0, c1, c2⟩ := Cl.three k h.c0 h.c1 h.c2 h.lt
  obtain ⟨c3, c4, c5⟩ := Cl.next3 k h.c3 h.c4 h.c5 h.lt
  obtain ⟨c6, c7, c8⟩ := Cl.more3 k h.c6 h.c7 h.c8 h.lt
  obtain ⟨f0, f1, f2⟩ := Cl.frz k h.f0 h.f1 h.f2 h.lt
  obtain ⟨f3, f4, f5⟩ := Cl.frz3 k h.f3 h.f4 h.f5 h.lt
  obtain ⟨f6, f7, f8⟩ := Cl.frz6 k h.f6 h.f7 h.f8 h.lt
  exact ⟨c0, c1, c2, c3, c4, c5, c6, c7, c8, f0, f1, f2, f3, f4, f5, f6, f7, f8, Nat.lt_of_lt_of_le h.lt k.size⟩

theorem Nin.alloc {w : World} {b x0 x1 x2 x3 x4 x5 x6 x7 x8 : Nat} (h : Nin w b x0 x1 x2 x3 x4 x5 x6 x7 x8) (o : Obj) : Nin (w.alloc o) b x0 x1 x2 x3 x4 x5 x6 x7 x8 :=
  h.cl (Below.alloc (Below.refl _ _) (Nat.le_refl _) o)

set_option maxRecDepth 100000 in
set_option maxHeartbeats 1000000 in
theorem from1_0 (vx vy vz dx dY dz x0 x1 x2 x3 x4 x5 x6 x7 x8 bv bd : Nat) (gx : Wd vx) (gy : Wd vy) (gz : Wd vz) (w : World) (hv : w.cell? ⟨bv, 0, none⟩ = some (.float .f64 vx) ∧ w.cell? ⟨bv, 1, none⟩ = some (.float .f64 vy) ∧ w.cell? ⟨bv, 2, none⟩ = some (.float .f64 vz)) (hb : bv < bd) (hd : Nin w bd x0 x1 x2 x3 x4 x5 x6 x7 x8) :
    Calls Try.prog 28 #[.int .i64 0, .agg #[.float .f64 dx, .float .f64 dY, .float .f64 dz], .pointer (some ⟨bv, 0, none⟩), .pointer (some ⟨bd, 0, none⟩)] w fun e w' => e = .returned (.tuple #[]) ∧ ∃ r0 r1 r2, Eqv r0 (fmul dx (partF vx vy vz 0)) ∧ Eqv r1 (fmul dY (partF vx vy vz 0)) ∧ Eqv r2 (fmul dz (partF vx vy vz 0)) ∧ Nin w' bd r0 r1 r2 x3 x4 x5 x6 x7 x8 ∧ Below bd w w' := by
  have HD : Hid _ := hd
  have hlt := hd.lt
  have hlt2 := Nat.lt_trans hb hlt
  obtain ⟨a0, a1, a2⟩ := hv
  go_enter Try.func28, Try.ntmps28
  clear hd
  go_wp2_with fail
  refine wp_region_loose (Cl _) [none, none, none, none, some (isF (partF vx vy vz 0)), some (isV (fmul dx (partF vx vy vz 0)) (fmul dY (partF vx vy vz 0)) (fmul dz (partF vx vy vz 0))), none] 7 (by kernel_rfl) (by kernel_rfl) (by kernel_rfl) (Cl.drew _) ?_
  have HV : Hid (∀ w', Cl (w.alloc (.cells #[.float .f64 dx, .float .f64 dY, .float .f64 dz] 24)) w' → _) := fun w' h => h.three (b := bv) (by go_simp; exact rfl) (by go_simp; exact rfl) (by go_simp; exact rfl) (by go_simp; done)
  have HB : Hid (∀ w', Cl (w.alloc (.cells #[.float .f64 dx, .float .f64 dY, .float .f64 dz] 24)) w' → _) := fun w' h => h.three (b := w.heap.size) (by go_simp; exact rfl) (by go_simp; exact rfl) (by go_simp; exact rfl) (by go_simp; done)
  repeat (
    refine loose_one ?_ rfl (fun w hw => ?_) (fun K hK => ?_)
    rotate_left
    ·obtain ⟨a0, a1, a2⟩ := HV.out _ hw
     obtain ⟨b0, b1, b2⟩ := HB.out _ hw
     go_simp
     exact rfl
    go_simp
    refine hK _ ?_
    clear hK K)
  refine loose_any rfl (fun w hw => ?_) (fun K hK => ?_)
  · go_simp
    exact loose_ret (part_any _ _ _ _ gx gy gz _) hw
  rintro v ⟨p, rfl, hp⟩
  go_simp
  refine hK _ ?_
  clear hK K
  refine loose_any rfl (fun w hw => ?_) (fun K hK => ?_)
  · go_simp
    exact loose_ret ((scale_any _ _ _ _ _).mono (isV.to (fmul_congr (Sm.refl _) hp.sm) (fmul_congr (Sm.refl _) hp.sm) (fmul_congr (Sm.refl _) hp.sm))) hw
  rintro v ⟨r0, r1, r2, rfl, h0, h1, h2⟩
  go_simp
  refine hK _ ?_
  clear hK K
  repeat (
    refine loose_one ?_ rfl (fun w hw => ?_) (fun K hK => ?_)
    rotate_left
    ·obtain ⟨a0, a1, a2⟩ := HV.out _ hw
     obtain ⟨b0, b1, b2⟩ := HB.out _ hw
     go_simp
     exact rfl
    go_simp
    refine hK _ ?_
    clear hK K)
  intro w1 hw1
  have HW : Hid (Cl (w.alloc (.cells #[.float .f64 dx, .float .f64 dY, .float .f64 dz] 24)) w1) := hw1
  clear hw1 HV HB
  have HT : Hid _ := (HD.out.alloc (.cells #[.float .f64 dx, .float .f64 dY, .float .f64 dz] 24)).cl HW.out
  have z0 := HT.out.c0
  have f0 := HT.out.f0
  have z1 := HT.out.c1
  have f1 := HT.out.f1
  have z2 := HT.out.c2
  have f2 := HT.out.f2
  have z3 := HT.out.c3
  have f3 := HT.out.f3
  have z4 := HT.out.c4
  have f4 := HT.out.f4
  have z5 := HT.out.c5
  have f5 := HT.out.f5
  have z6 := HT.out.c6
  have f6 := HT.out.f6
  have z7 := HT.out.c7
  have f7 := HT.out.f7
  have z8 := HT.out.c8
  have f8 := HT.out.f8
  have hl := HT.out.lt
  go_wp2_with fail
  go_end0
  refine ⟨rfl, r0, r1, r2, h0, h1, h2, ⟨by go_simp; done, by go_simp; done, by go_simp; done, by go_simp; done, by go_simp; done, by go_simp; done, by go_simp; done, by go_simp; done, by go_simp; done, by go_simp; done, by go_simp; done, by go_simp; done, by go_simp; done, by go_simp; done, by go_simp; done, by go_simp; done, by go_simp; done, by go_simp; done, by go_simp; done⟩, ?_⟩
  exact Below.setCell (Below.setCell (Below.setCell (HW.out.out1.mono (Nat.le_of_lt hlt)) (Nat.le_refl _) _) (Nat.le_refl _) _) (Nat.le_refl _) _

set_option maxRecDepth 100000 in
set_option maxHeartbeats 1000000 in
theorem from1_1 (vx vy vz dx dY dz x0 x1 x2 x3 x4 x5 x6 x7 x8 bv bd : Nat) (gx : Wd vx) (gy : Wd vy) (gz : Wd vz) (w : World) (hv : w.cell? ⟨bv, 0, none⟩ = some (.float .f64 vx) ∧ w.cell? ⟨bv, 1, none⟩ = some (.float .f64 vy) ∧ w.cell? ⟨bv, 2, none⟩ = some (.float .f64 vz)) (hb : bv < bd) (hd : Nin w bd x0 x1 x2 x3 x4 x5 x6 x7 x8) :
    Calls Try.prog 28 #[.int .i64 1, .agg #[.float .f64 dx, .float .f64 dY, .float .f64 dz], .pointer (some ⟨bv, 0, none⟩), .pointer (some ⟨bd, 0, none⟩)] w fun e w' => e = .returned (.tuple #[]) ∧ ∃ r0 r1 r2, Eqv r0 (fmul dx (partF vx vy vz 1)) ∧ Eqv r1 (fmul dY (partF vx vy vz 1)) ∧ Eqv r2 (fmul dz (partF vx vy vz 1)) ∧ Nin w' bd x0 x1 x2 r0 r1 r2 x6 x7 x8 ∧ Below bd w w' := by
  have HD : Hid _ := hd
  have hlt := hd.lt
  have hlt2 := Nat.lt_trans hb hlt
  obtain ⟨a0, a1, a2⟩ := hv
  go_enter Try.func28, Try.ntmps28
  clear hd
  go_wp2_with fail
  refine wp_region_loose (Cl _) [none, none, none, none, some (isF (partF vx vy vz 1)), some (isV (fmul dx (partF vx vy vz 1)) (fmul dY (partF vx vy vz 1)) (fmul dz (partF vx vy vz 1))), none] 7 (by kernel_rfl) (by kernel_rfl) (by kernel_rfl) (Cl.drew _) ?_
  have HV : Hid (∀ w', Cl (w.alloc (.cells #[.float .f64 dx, .float .f64 dY, .float .f64 dz] 24)) w' → _) := fun w' h => h.three (b := bv) (by go_simp; exact rfl) (by go_simp; exact rfl) (by go_simp; exact rfl) (by go_simp; done)
  have HB : Hid (∀ w', Cl (w.alloc (.cells #[.float .f64 dx, .float .f64 dY, .float .f64 dz] 24)) w' → _) := fun w' h => h.three (b := w.heap.size) (by go_simp; exact rfl) (by go_simp; exact rfl) (by go_simp; exact rfl) (by go_simp; done)
  repeat (
    refine loose_one ?_ rfl (fun w hw => ?_) (fun K hK => ?_)
    rotate_left
    ·obtain ⟨a0, a1, a2⟩ := HV.out _ hw
     obtain ⟨b0, b1, b2⟩ := HB.out _ hw
     go_simp
     exact rfl
    go_simp
    refine hK _ ?_
    clear hK K)
  refine loose_any rfl (fun w hw => ?_) (fun K hK => ?_)
  · go_simp
    exact loose_ret (part_any _ _ _ _ gx gy gz _) hw
  rintro v ⟨p, rfl, hp⟩
  go_simp
  refine hK _ ?_
  clear hK K
  refine loose_any rfl (fun w hw => ?_) (fun K hK => ?_)
  · go_simp
    exact loose_ret ((scale_any _ _ _ _ _).mono (isV.to (fmul_congr (Sm.refl _) hp.sm) (fmul_congr (Sm.refl _) hp.sm) (fmul_congr (Sm.refl _) hp.sm))) hw
  rintro v ⟨r0, r1, r2, rfl, h0, h1, h2⟩
  go_simp
  refine hK _ ?_
  clear hK K
  repeat (
    refine loose_one ?_ rfl (fun w hw => ?_) (fun K hK => ?_)
    rotate_left
    ·obtain ⟨a0, a1, a2⟩ := HV.out _ hw
     obtain ⟨b0, b1, b2⟩ := HB.out _ hw
     go_simp
     exact rfl
    go_simp
    refine hK _ ?_
    clear hK K)
  intro w1 hw1
  have HW : Hid (Cl (w.alloc (.cells #[.float .f64 dx, .float .f64 dY, .float .f64 dz] 24)) w1) := hw1
  clear hw1 HV HB
  have HT : Hid _ := (HD.out.alloc (.cells #[.float .f64 dx, .float .f64 dY, .float .f64 dz] 24)).cl HW.out
  have z0 := HT.out.c0
  have f0 := HT.out.f0
  have z1 := HT.out.c1
  have f1 := HT.out.f1
  have z2 := HT.out.c2
  have f2 := HT.out.f2
  have z3 := HT.out.c3
  have f3 := HT.out.f3
  have z4 := HT.out.c4
  have f4 := HT.out.f4
  have z5 := HT.out.c5
  have f5 := HT.out.f5
  have z6 := HT.out.c6
  have f6 := HT.out.f6
  have z7 := HT.out.c7
  have f7 := HT.out.f7
  have z8 := HT.out.c8
  have f8 := HT.out.f8
  have hl := HT.out.lt
  go_wp2_with fail
  go_end0
  refine ⟨rfl, r0, r1, r2, h0, h1, h2, ⟨by go_simp; done, by go_simp; done, by go_simp; done, by go_simp; done, by go_simp; done, by go_simp; done, by go_simp; done, by go_simp; done, by go_simp; done, by go_simp; done, by go_simp; done, by go_simp; done, by go_simp; done, by go_simp; done, by go_simp; done, by go_simp; done, by go_simp; done, by go_simp; done, by go_simp; done⟩, ?_⟩
  exact Below.setCell (Below.setCell (Below.setCell (HW.out.out1.mono (Nat.le_of_lt hlt)) (Nat.le_refl _) _) (Nat.le_refl _) _) (Nat.le_refl _) _

set_option maxRecDepth 100000 in
set_option maxHeartbeats 1000000 in
theorem from1_2 (vx vy vz dx dY dz x0 x1 x2 x3 x4 x5 x6 x7 x8 bv bd : Nat) (gx : Wd vx) (gy : Wd vy) (gz : Wd vz) (w : World) (hv : w.cell? ⟨bv, 0, none⟩ = some (.float .f64 vx) ∧ w.cell? ⟨bv, 1, none⟩ = some (.float .f64 vy) ∧ w.cell? ⟨bv, 2, none⟩ = some (.float .f64 vz)) (hb : bv < bd) (hd : Nin w bd x0 x1 x2 x3 x4 x5 x6 x7 x8) :
    Calls Try.prog 28 #[.int .i64 2, .agg #[.float .f64 dx, .float .f64 dY, .float .f64 dz], .pointer (some ⟨bv, 0, none⟩), .pointer (some ⟨bd, 0, none⟩)] w fun e w' => e = .returned (.tuple #[]) ∧ ∃ r0 r1 r2, Eqv r0 (fmul dx (partF vx vy vz 2)) ∧ Eqv r1 (fmul dY (partF vx vy vz 2)) ∧ Eqv r2 (fmul dz (partF vx vy vz 2)) ∧ Nin w' bd x0 x1 x2 x3 x4 x5 r0 r1 r2 ∧ Below bd w w' := by
  have HD : Hid _ := hd
  have hlt := hd.lt
  have hlt2 := Nat.lt_trans hb hlt
  obtain ⟨a0, a1, a2⟩ := hv
  go_enter Try.func28, Try.ntmps28
  clear hd
  go_wp2_with fail
  refine wp_region_loose (Cl _) [none, none, none, none, some (isF (partF vx vy vz 2)), some (isV (fmul dx (partF vx vy vz 2)) (fmul dY (partF vx vy vz 2)) (fmul dz (partF vx vy vz 2))), none] 7 (by kernel_rfl) (by kernel_rfl) (by kernel_rfl) (Cl.drew _) ?_
  have HV : Hid (∀ w', Cl (w.alloc (.cells #[.float .f64 dx, .float .f64 dY, .float .f64 dz] 24)) w' → _) := fun w' h => h.three (b := bv) (by go_simp; exact rfl) (by go_simp; exact rfl) (by go_simp; exact rfl) (by go_simp; done)
  have HB : Hid (∀ w', Cl (w.alloc (.cells #[.float .f64 dx, .float .f64 dY, .float .f64 dz] 24)) w' → _) := fun w' h => h.three (b := w.heap.size) (by go_simp; exact rfl) (by go_simp; exact rfl) (by go_simp; exact rfl) (by go_simp; done)
  repeat (
    refine loose_one ?_ rfl (fun w hw => ?_) (fun K hK => ?_)
    rotate_left
    ·obtain ⟨a0, a1, a2⟩ := HV.out _ hw
     obtain ⟨b0, b1, b2⟩ := HB.out _ hw
     go_simp
     exact rfl
    go_simp
    refine hK _ ?_
    clear hK K)
  refine loose_any rfl (fun w hw => ?_) (fun K hK => ?_)
  · go_simp
    exact loose_ret (part_any _ _ _ _ gx gy gz _) hw
  rintro v ⟨p, rfl, hp⟩
  go_simp
  refine hK _ ?_
  clear hK K
  refine loose_any rfl (fun w hw => ?_) (fun K hK => ?_)
  · go_simp
    exact loose_ret ((scale_any _ _ _ _ _).mono (isV.to (fmul_congr (Sm.refl _) hp.sm) (fmul_congr (Sm.refl _) hp.sm) (fmul_congr (Sm.refl _) hp.sm))) hw
  rintro v ⟨r0, r1, r2, rfl, h0, h1, h2⟩
  go_simp
  refine hK _ ?_
  clear hK K
  repeat (
    refine loose_one ?_ rfl (fun w hw => ?_) (fun K hK => ?_)
    rotate_left
    ·obtain ⟨a0, a1, a2⟩ := HV.out _ hw
     obtain ⟨b0, b1, b2⟩ := HB.out _ hw
     go_simp
     exact rfl
    go_simp
    refine hK _ ?_
    clear hK K)
  intro w1 hw1
  have HW : Hid (Cl (w.alloc (.cells #[.float .f64 dx, .float .f64 dY, .float .f64 dz] 24)) w1) := hw1
  clear hw1 HV HB
  have HT : Hid _ := (HD.out.alloc (.cells #[.float .f64 dx, .float .f64 dY, .float .f64 dz] 24)).cl HW.out
  have z0 := HT.out.c0
  have f0 := HT.out.f0
  have z1 := HT.out.c1
  have f1 := HT.out.f1
  have z2 := HT.out.c2
  have f2 := HT.out.f2
  have z3 := HT.out.c3
  have f3 := HT.out.f3
  have z4 := HT.out.c4
  have f4 := HT.out.f4
  have z5 := HT.out.c5
  have f5 := HT.out.f5
  have z6 := HT.out.c6
  have f6 := HT.out.f6
  have z7 := HT.out.c7
  have f7 := HT.out.f7
  have z8 := HT.out.c8
  have f8 := HT.out.f8
  have hl := HT.out.lt
  go_wp2_with fail
  go_end0
  refine ⟨rfl, r0, r1, r2, h0, h1, h2, ⟨by go_simp; done, by go_simp; done, by go_simp; done, by go_simp; done, by go_simp; done, by go_simp; done, by go_simp; done, by go_simp; done, by go_simp; done, by go_simp; done, by go_simp; done, by go_simp; done, by go_simp; done, by go_simp; done, by go_simp; done, by go_simp; done, by go_simp; done, by go_simp; done, by go_simp; done⟩, ?_⟩
  exact Below.setCell (Below.setCell (Below.setCell (HW.out.out1.mono (Nat.le_of_lt hlt)) (Nat.le_refl _) _) (Nat.le_refl _) _) (Nat.le_refl _) _

end Go.Proofs.Ytkcchnepllcghaa
