/- Package frame: what goes through the directions, with each function that it is given. -/
import Derived.Test.YtkcchnepllcghaaRows
import Derived.Test.YtkcchnepllcghaaWb
namespace Go.Proofs.Ytkcchnepllcghaa
open Go.RowKit Fl

@[go_sem] theorem idx_0 (tx ty tz bx bY bz nx ny nz : Nat) (w : World) : (Instr.index 46 (.agg #[.float .f64 tx, .float .f64 ty, .float .f64 tz, .float .f64 bx, .float .f64 bY, .float .f64 bz, .float .f64 nx, .float .f64 ny, .float .f64 nz]) (.int .i64 0)).run Try.prog w = .ok (.agg #[.float .f64 tx, .float .f64 ty, .float .f64 tz]) w := by kernel_rfl

@[go_sem] theorem idx_1 (tx ty tz bx bY bz nx ny nz : Nat) (w : World) : (Instr.index 46 (.agg #[.float .f64 tx, .float .f64 ty, .float .f64 tz, .float .f64 bx, .float .f64 bY, .float .f64 bz, .float .f64 nx, .float .f64 ny, .float .f64 nz]) (.int .i64 1)).run Try.prog w = .ok (.agg #[.float .f64 bx, .float .f64 bY, .float .f64 bz]) w := by kernel_rfl

@[go_sem] theorem idx_2 (tx ty tz bx bY bz nx ny nz : Nat) (w : World) : (Instr.index 46 (.agg #[.float .f64 tx, .float .f64 ty, .float .f64 tz, .float .f64 bx, .float .f64 bY, .float .f64 bz, .float .f64 nx, .float .f64 ny, .float .f64 nz]) (.int .i64 2)).run Try.prog w = .ok (.agg #[.float .f64 nx, .float .f64 ny, .float .f64 nz]) w := by kernel_rfl

set_option maxRecDepth 100000 in
set_option maxHeartbeats 1000000 in
theorem through_to (vx vy vz tx ty tz bx bY bz nx ny nz x y z bv bd bs : Nat) (w : World) (hv : w.cell? ⟨bv, 0, none⟩ = some (.float .f64 vx) ∧ w.cell? ⟨bv, 1, none⟩ = some (.float .f64 vy) ∧ w.cell? ⟨bv, 2, none⟩ = some (.float .f64 vz)) (hb : bv < bd) (hd : Tri w bd x y z)
    (hs : w.cell? ⟨bs, 0, none⟩ = some (.float .f64 tx) ∧ w.cell? ⟨bs, 1, none⟩ = some (.float .f64 ty) ∧ w.cell? ⟨bs, 2, none⟩ = some (.float .f64 tz) ∧ w.cell? ⟨bs, 3, none⟩ = some (.float .f64 bx) ∧ w.cell? ⟨bs, 4, none⟩ = some (.float .f64 bY) ∧ w.cell? ⟨bs, 5, none⟩ = some (.float .f64 bz) ∧ w.cell? ⟨bs, 6, none⟩ = some (.float .f64 nx) ∧ w.cell? ⟨bs, 7, none⟩ = some (.float .f64 ny) ∧ w.cell? ⟨bs, 8, none⟩ = some (.float .f64 nz)) :
    Calls Try.prog 36 #[.func (.func 26) #[] #[.pointer (some ⟨bv, 0, none⟩), .pointer (some ⟨bd, 0, none⟩)], .pointer (some ⟨bs, 0, none⟩)] w fun e w' => e = .returned (.tuple #[]) ∧ ∃ r0 r1 r2, Eqv r0 (dotF vx vy vz tx ty tz) ∧ Eqv r1 (dotF vx vy vz bx bY bz) ∧ Eqv r2 (dotF vx vy vz nx ny nz) ∧ Tri w' bd r0 r1 r2 ∧ Below bd w w' := by
  have HD : Hid _ := hd
  have HV : Hid _ := hv
  have hlt := hd.lt
  have hlt2 := Nat.lt_trans hb hlt
  obtain ⟨s0, s1, s2, s3, s4, s5, s6, s7, s8⟩ := hs
  clear hd hv
  go_enter Try.func36, Try.ntmps36
  go_wp2_with fail
  clear s0 s1 s2 s3 s4 s5 s6 s7 s8
  refine wp_loop_rounds 4 ?_
  rw [rounds_succ]
  go_wp2_with fail
  have ha0 : Below bd w (w.alloc (.cells #[.float .f64 tx, .float .f64 ty, .float .f64 tz] 24)) := Below.alloc (Below.refl _ _) (Nat.le_of_lt HD.out.lt) _
  refine Calls.mono (to1_0 vx vy vz tx ty tz x y z _ _ _ ⟨(ha0.cell (p := ⟨bv, 0, none⟩) hb).trans HV.out.1, (ha0.cell (p := ⟨bv, 1, none⟩) hb).trans HV.out.2.1, (ha0.cell (p := ⟨bv, 2, none⟩) hb).trans HV.out.2.2⟩ hb (HD.out.alloc _)) ?_
  rintro e w0 ⟨rfl, r0, h0, hn, hl⟩
  have HB0 : Hid (Below bd w w0) := ha0.trans hl
  have HV0 : Hid (w0.cell? ⟨bv, 0, none⟩ = some (.float .f64 vx) ∧ w0.cell? ⟨bv, 1, none⟩ = some (.float .f64 vy) ∧ w0.cell? ⟨bv, 2, none⟩ = some (.float .f64 vz)) := ⟨(HB0.out.cell (p := ⟨bv, 0, none⟩) hb).trans HV.out.1, (HB0.out.cell (p := ⟨bv, 1, none⟩) hb).trans HV.out.2.1, (HB0.out.cell (p := ⟨bv, 2, none⟩) hb).trans HV.out.2.2⟩
  have HD0 : Hid _ := hn
  clear hn hl ha0 HV HD
  have HV : Hid _ := HV0.out
  have HD : Hid _ := HD0.out
  clear HV0 HD0
  go_wp2_with fail
  rw [rounds_succ]
  go_wp2_with fail
  have ha1 : Below bd w0 (w0.alloc (.cells #[.float .f64 bx, .float .f64 bY, .float .f64 bz] 24)) := Below.alloc (Below.refl _ _) (Nat.le_of_lt HD.out.lt) _
  refine Calls.mono (to1_1 vx vy vz bx bY bz r0 y z _ _ _ ⟨(ha1.cell (p := ⟨bv, 0, none⟩) hb).trans HV.out.1, (ha1.cell (p := ⟨bv, 1, none⟩) hb).trans HV.out.2.1, (ha1.cell (p := ⟨bv, 2, none⟩) hb).trans HV.out.2.2⟩ hb (HD.out.alloc _)) ?_
  rintro e w1 ⟨rfl, r1, h1, hn, hl⟩
  have HB1 : Hid (Below bd w0 w1) := ha1.trans hl
  have HV1 : Hid (w1.cell? ⟨bv, 0, none⟩ = some (.float .f64 vx) ∧ w1.cell? ⟨bv, 1, none⟩ = some (.float .f64 vy) ∧ w1.cell? ⟨bv, 2, none⟩ = some (.float .f64 vz)) := ⟨(HB1.out.cell (p := ⟨bv, 0, none⟩) hb).trans HV.out.1, (HB1.out.cell (p := ⟨bv, 1, none⟩) hb).trans HV.out.2.1, (HB1.out.cell (p := ⟨bv, 2, none⟩) hb).trans HV.out.2.2⟩
  have HD1 : Hid _ := hn
  clear hn hl ha1 HV HD
  have HV : Hid _ := HV1.out
  have HD : Hid _ := HD1.out
  clear HV1 HD1
  go_wp2_with fail
  rw [rounds_succ]
  go_wp2_with fail
  have ha2 : Below bd w1 (w1.alloc (.cells #[.float .f64 nx, .float .f64 ny, .float .f64 nz] 24)) := Below.alloc (Below.refl _ _) (Nat.le_of_lt HD.out.lt) _
  refine Calls.mono (to1_2 vx vy vz nx ny nz r0 r1 z _ _ _ ⟨(ha2.cell (p := ⟨bv, 0, none⟩) hb).trans HV.out.1, (ha2.cell (p := ⟨bv, 1, none⟩) hb).trans HV.out.2.1, (ha2.cell (p := ⟨bv, 2, none⟩) hb).trans HV.out.2.2⟩ hb (HD.out.alloc _)) ?_
  rintro e w2 ⟨rfl, r2, h2, hn, hl⟩
  have HB2 : Hid (Below bd w1 w2) := ha2.trans hl
  have HV2 : Hid (w2.cell? ⟨bv, 0, none⟩ = some (.float .f64 vx) ∧ w2.cell? ⟨bv, 1, none⟩ = some (.float .f64 vy) ∧ w2.cell? ⟨bv, 2, none⟩ = some (.float .f64 vz)) := ⟨(HB2.out.cell (p := ⟨bv, 0, none⟩) hb).trans HV.out.1, (HB2.out.cell (p := ⟨bv, 1, none⟩) hb).trans HV.out.2.1, (HB2.out.cell (p := ⟨bv, 2, none⟩) hb).trans HV.out.2.2⟩
  have HD2 : Hid _ := hn
  clear hn hl ha2 HV HD
  have HV : Hid _ := HV2.out
  have HD : Hid _ := HD2.out
  clear HV2 HD2
  go_wp2_with fail
  rw [rounds_succ]
  go_wp2_with fail
  go_end0
  exact ⟨rfl, r0, r1, r2, h0, h1, h2, HD.out, (HB0.out.trans HB1.out).trans HB2.out⟩

set_option maxRecDepth 100000 in
set_option maxHeartbeats 1000000 in
theorem through_from (vx vy vz tx ty tz bx bY bz nx ny nz x0 x1 x2 x3 x4 x5 x6 x7 x8 bv bd bs : Nat) (gx : Wd vx) (gy : Wd vy) (gz : Wd vz) (w : World) (hv : w.cell? ⟨bv, 0, none⟩ = some (.float .f64 vx) ∧ w.cell? ⟨bv, 1, none⟩ = some (.float .f64 vy) ∧ w.cell? ⟨bv, 2, none⟩ = some (.float .f64 vz)) (hb : bv < bd) (hd : Nin w bd x0 x1 x2 x3 x4 x5 x6 x7 x8)
    (hs : w.cell? ⟨bs, 0, none⟩ = some (.float .f64 tx) ∧ w.cell? ⟨bs, 1, none⟩ = some (.float .f64 ty) ∧ w.cell? ⟨bs, 2, none⟩ = some (.float .f64 tz) ∧ w.cell? ⟨bs, 3, none⟩ = some (.float .f64 bx) ∧ w.cell? ⟨bs, 4, none⟩ = some (.float .f64 bY) ∧ w.cell? ⟨bs, 5, none⟩ = some (.float .f64 bz) ∧ w.cell? ⟨bs, 6, none⟩ = some (.float .f64 nx) ∧ w.cell? ⟨bs, 7, none⟩ = some (.float .f64 ny) ∧ w.cell? ⟨bs, 8, none⟩ = some (.float .f64 nz)) :
    Calls Try.prog 36 #[.func (.func 28) #[] #[.pointer (some ⟨bv, 0, none⟩), .pointer (some ⟨bd, 0, none⟩)], .pointer (some ⟨bs, 0, none⟩)] w fun e w' => e = .returned (.tuple #[]) ∧ ∃ r0 r1 r2 r3 r4 r5 r6 r7 r8, Eqv r0 (fmul tx (partF vx vy vz 0)) ∧ Eqv r1 (fmul ty (partF vx vy vz 0)) ∧ Eqv r2 (fmul tz (partF vx vy vz 0)) ∧ Eqv r3 (fmul bx (partF vx vy vz 1)) ∧ Eqv r4 (fmul bY (partF vx vy vz 1)) ∧ Eqv r5 (fmul bz (partF vx vy vz 1)) ∧ Eqv r6 (fmul nx (partF vx vy vz 2)) ∧ Eqv r7 (fmul ny (partF vx vy vz 2)) ∧ Eqv r8 (fmul nz (partF vx vy vz 2)) ∧ Nin w' bd r0 r1 r2 r3 r4 r5 r6 r7 r8 ∧ Below bd w w' := by
  have HD : Hid _ := hd
  have HV : Hid _ := hv
  have hlt := hd.lt
  have hlt2 := Nat.lt_trans hb hlt
  obtain ⟨s0, s1, s2, s3, s4, s5, s6, s7, s8⟩ := hs
  clear hd hv
  go_enter Try.func36, Try.ntmps36
  go_wp2_with fail
  clear s0 s1 s2 s3 s4 s5 s6 s7 s8
  refine wp_loop_rounds 4 ?_
  rw [rounds_succ]
  go_wp2_with fail
  have ha0 : Below bd w (w.alloc (.cells #[.float .f64 tx, .float .f64 ty, .float .f64 tz] 24)) := Below.alloc (Below.refl _ _) (Nat.le_of_lt HD.out.lt) _
  refine Calls.mono (from1_0 vx vy vz tx ty tz x0 x1 x2 x3 x4 x5 x6 x7 x8 _ _ gx gy gz _ ⟨(ha0.cell (p := ⟨bv, 0, none⟩) hb).trans HV.out.1, (ha0.cell (p := ⟨bv, 1, none⟩) hb).trans HV.out.2.1, (ha0.cell (p := ⟨bv, 2, none⟩) hb).trans HV.out.2.2⟩ hb (HD.out.alloc _)) ?_
  rintro e w0 ⟨rfl, r0, r1, r2, h0, h1, h2, hn, hl⟩
  have HB0 : Hid (Below bd w w0) := ha0.trans hl
  have HV0 : Hid (w0.cell? ⟨bv, 0, none⟩ = some (.float .f64 vx) ∧ w0.cell? ⟨bv, 1, none⟩ = some (.float .f64 vy) ∧ w0.cell? ⟨bv, 2, none⟩ = some (.float .f64 vz)) := ⟨(HB0.out.cell (p := ⟨bv, 0, none⟩) hb).trans HV.out.1, (HB0.out.cell (p := ⟨bv, 1, none⟩) hb).trans HV.out.2.1, (HB0.out.cell (p := ⟨bv, 2, none⟩) hb).trans HV.out.2.2⟩
  have HD0 : Hid _ := hn
  clear hn hl ha0 HV HD
  have HV : Hid _ := HV0.out
  have HD : Hid _ := HD0.out
  clear HV0 HD0
  go_wp2_with fail
  rw [rounds_succ]
  go_wp2_with fail
  have ha1 : Below bd w0 (w0.alloc (.cells #[.float .f64 bx, .float .f64 bY, .float .f64 bz] 24)) := Below.alloc (Below.refl _ _) (Nat.le_of_lt HD.out.lt) _
  refine Calls.mono (from1_1 vx vy vz bx bY bz r0 r1 r2 x3 x4 x5 x6 x7 x8 _ _ gx gy gz _ ⟨(ha1.cell (p := ⟨bv, 0, none⟩) hb).trans HV.out.1, (ha1.cell (p := ⟨bv, 1, none⟩) hb).trans HV.out.2.1, (ha1.cell (p := ⟨bv, 2, none⟩) hb).trans HV.out.2.2⟩ hb (HD.out.alloc _)) ?_
  rintro e w1 ⟨rfl, r3, r4, r5, h3, h4, h5, hn, hl⟩
  have HB1 : Hid (Below bd w0 w1) := ha1.trans hl
  have HV1 : Hid (w1.cell? ⟨bv, 0, none⟩ = some (.float .f64 vx) ∧ w1.cell? ⟨bv, 1, none⟩ = some (.float .f64 vy) ∧ w1.cell? ⟨bv, 2, none⟩ = some (.float .f64 vz)) := ⟨(HB1.out.cell (p := ⟨bv, 0, none⟩) hb).trans HV.out.1, (HB1.out.cell (p := ⟨bv, 1, none⟩) hb).trans HV.out.2.1, (HB1.out.cell (p := ⟨bv, 2, none⟩) hb).trans HV.out.2.2⟩
  have HD1 : Hid _ := hn
  clear hn hl ha1 HV HD
  have HV : Hid _ := HV1.out
  have HD : Hid _ := HD1.out
  clear HV1 HD1
  go_wp2_with fail
  rw [rounds_succ]
  go_wp2_with fail
  have ha2 : Below bd w1 (w1.alloc (.cells #[.float .f64 nx, .float .f64 ny, .float .f64 nz] 24)) := Below.alloc (Below.refl _ _) (Nat.le_of_lt HD.out.lt) _
  refine Calls.mono (from1_2 vx vy vz nx ny nz r0 r1 r2 r3 r4 r5 x6 x7 x8 _ _ gx gy gz _ ⟨(ha2.cell (p := ⟨bv, 0, none⟩) hb).trans HV.out.1, (ha2.cell (p := ⟨bv, 1, none⟩) hb).trans HV.out.2.1, (ha2.cell (p := ⟨bv, 2, none⟩) hb).trans HV.out.2.2⟩ hb (HD.out.alloc _)) ?_
  rintro e w2 ⟨rfl, r6, r7, r8, h6, h7, h8, hn, hl⟩
  have HB2 : Hid (Below bd w1 w2) := ha2.trans hl
  have HV2 : Hid (w2.cell? ⟨bv, 0, none⟩ = some (.float .f64 vx) ∧ w2.cell? ⟨bv, 1, none⟩ = some (.float .f64 vy) ∧ w2.cell? ⟨bv, 2, none⟩ = some (.float .f64 vz)) := ⟨(HB2.out.cell (p := ⟨bv, 0, none⟩) hb).trans HV.out.1, (HB2.out.cell (p := ⟨bv, 1, none⟩) hb).trans HV.out.2.1, (HB2.out.cell (p := ⟨bv, 2, none⟩) hb).trans HV.out.2.2⟩
  have HD2 : Hid _ := hn
  clear hn hl ha2 HV HD
  have HV : Hid _ := HV2.out
  have HD : Hid _ := HD2.out
  clear HV2 HD2
  go_wp2_with fail
  rw [rounds_succ]
  go_wp2_with fail
  go_end0
  exact ⟨rfl, r0, r1, r2, r3, r4, r5, r6, r7, r8, h0, h1, h2, h3, h4, h5, h6, h7, h8, HD.out, (HB0.out.trans HB1.out).trans HB2.out⟩

end Go.Proofs.Ytkcchnepllcghaa
