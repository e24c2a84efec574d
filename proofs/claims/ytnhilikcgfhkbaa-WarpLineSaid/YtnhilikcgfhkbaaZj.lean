/- The reference's Disk, Ball, Tent, Dot; near. -/
import Derived.Test.YtnhilikcgfhkbaaZh
import Derived.Test.YtnhilikcgfhkbaaZi
namespace Go.Proofs.Ytnhilikcgfhkbaa
open Go.RowKit Fl

set_option maxRecDepth 100000 in
set_option maxHeartbeats 1000000 in
theorem near_true {a b : Nat} (ha : Num a) (hb : Num b) (h : Ab (val a - val b) (62 * dl)) (w : World) : Calls Try.prog 12 #[.float .f64 a, .float .f64 b] w fun e w' => e = .returned (.bool true) ∧ w' = w := by
  obtain ⟨h1, h2⟩ := near40 ha hb h
  have hs : ∀ w, _ := fun w => run_sub_num (P := Try.prog) w 22 ha hb
  clear ha hb h
  generalize fsub a b = d at *
  rw [← geB_eq] at h2
  have hp : (FloatKind.f64.format.order d 4427038433705197568 == some .lt || FloatKind.f64.format.order d 4427038433705197568 == some .eq) = true := h1
  have hq : (FloatKind.f64.format.order d 13650410470559973376 == some .gt || FloatKind.f64.format.order d 13650410470559973376 == some .eq) = true := h2
  clear h1 h2
  go_enter Try.func12, Try.ntmps12
  go_wp2_with fail
  go_ret
  exact ⟨rfl, rfl⟩

abbrev dotR (ax ay az bx bY bz : Nat) : Nat := fadd (fadd (fmul ax bx) (fmul ay bY)) (fmul az bz)

set_option maxRecDepth 100000 in
set_option maxHeartbeats 1000000 in
theorem rdot_any (ax ay az bx bY bz : Nat) (w : World) : Ret Try.prog 18 #[.agg #[.float .f64 ax, .float .f64 ay, .float .f64 az], .agg #[.float .f64 bx, .float .f64 bY, .float .f64 bz]] w (isF (dotR ax ay az bx bY bz)) := by
  unfold Ret
  go_enter Try.func18, Try.ntmps18
  go_wp2_with fail
  refine upon_mul (Sm.refl _) (Sm.refl _) ?_
  intro r1 n1 h1
  go_wp2_with fail
  refine upon_mul (Sm.refl _) (Sm.refl _) ?_
  intro r2 n2 h2
  go_wp2_with fail
  refine upon_mul (Sm.refl _) (Sm.refl _) ?_
  intro r3 n3 h3
  go_wp2_with fail
  refine upon_add h1.sm h2.sm ?_
  intro r4 n4 h4
  go_wp2_with fail
  refine upon_add h4.sm h3.sm ?_
  intro r5 n5 h5
  go_wp2_with fail
  go_ret
  exact ⟨_, rfl, ⟨r5, rfl, h5⟩, Cl.out2 (Cl.drewN (Below.refl _ _) _)⟩
theorem eqv_num {r z : Nat} (h : Eqv r z) (hz : Num z) : r = z := Sm.eq h.sm (by rw [h.sm.isN]; exact not_nan_num hz)
theorem rdot_num {ax ay az bx bY bz : Nat} (h : Num (dotR ax ay az bx bY bz)) (w : World) : Calls Try.prog 18 #[.agg #[.float .f64 ax, .float .f64 ay, .float .f64 az], .agg #[.float .f64 bx, .float .f64 bY, .float .f64 bz]] w fun e w' => e = .returned (.float .f64 (dotR ax ay az bx bY bz)) ∧ Below w.heap.size w w' := by
  refine Calls.mono (rdot_any ax ay az bx bY bz w) ?_
  rintro e w' ⟨v, rfl, ⟨r, rfl, hr⟩, hb⟩
  rw [eqv_num hr h]
  exact ⟨rfl, hb⟩

set_option maxRecDepth 100000 in
set_option maxHeartbeats 1000000 in
theorem rdisk_any (u v : Nat) (w : World) : Calls Try.prog 10 #[.float .f64 u, .float .f64 v] w fun e w' => e = .returned (.tuple #[.float .f64 (fmul (secX (cleanF v)) (fsqrt (cleanF u))), .float .f64 (fmul (secY (cleanF v)) (fsqrt (cleanF u))), .float .f64 (fmul two1 (densF (secF (cleanF v))))]) ∧ w' = w := by
  have HA := hid (fun w => rsector_any v w)
  have U := (sect_u v).unit
  have HC := hid (rclean_any u)
  obtain ⟨nc, c0, c1⟩ := clean_num u
  obtain ⟨nr, _, _⟩ := root_c nc c0 c1
  have HR := hid (root_num nc c0)
  have np := (sect_u v).np.1
  have hx : ∀ w, _ := fun w => run_mul_num (P := Try.prog) w 22 U.nx nr
  have hy : ∀ w, _ := fun w => run_mul_num (P := Try.prog) w 22 U.ny nr
  have hp : ∀ w, (binOp .mul 22 (.float .f64 (densF (secF (cleanF v)))) (.float .f64 4611686018427387904)).run Try.prog w = .ok (.float .f64 (fmul two1 (densF (secF (cleanF v))))) w := fun w => by rw [fmul_comm num_two1 np]; exact run_mul_num w 22 np num_two1
  clear U nc c0 c1 nr np
  generalize densF (secF (cleanF v)) = p at *
  generalize secX (cleanF v) = X at *
  generalize secY (cleanF v) = Y at *
  generalize cleanF u = c at *
  generalize fsqrt c = r at *
  generalize fmul X r = X1 at *
  generalize fmul Y r = Y1 at *
  generalize fmul two1 p = q at *
  go_enter Try.func10, Try.ntmps10
  go_wp2_with fail
  refine Calls.mono (HC.out _) ?_
  rintro e w' ⟨rfl, hw⟩
  obtain rfl := hw.symm
  clear hw
  go_wp2_with fail
  refine Calls.mono (HR.out _) ?_
  rintro e w' ⟨rfl, hw⟩
  obtain rfl := hw.symm
  clear hw
  go_wp2_with fail
  refine Calls.mono (HA.out _) ?_
  rintro e w' ⟨rfl, hw⟩
  obtain rfl := hw.symm
  clear hw
  go_wp2_with fail
  exact bodyPost_ret (v := .tuple #[.float .f64 X1, .float .f64 Y1, .float .f64 q]) (by simp [results, go_sem]) rfl ⟨rfl, rfl⟩

/-- How far from the axis, as the reference has it. -/
def ballQ (c : Nat) : Nat := if (ford (ballT c) 0 == some .lt) = true then 0 else ballT c
theorem ball_q {c : Nat} (hc : Num c) (c0 : 0 ≤ val c) (c1 : val c < 1) : Num (ballQ c) ∧ 0 ≤ val (ballQ c) ∧ Num (fsqrt (ballQ c)) ∧ val (ballR c) = val (fsqrt (ballQ c)) := by
  obtain ⟨_, _, _, _, n, a⟩ := ball_z hc c0 c1
  obtain ⟨_, m, m0, m4, e⟩ := max_zero n a
  have nq : Num (ballQ c) := by
    unfold ballQ
    split
    · exact num_zero
    · exact n
  obtain ⟨_, s2, s3⟩ := sqrt_same m nq m0 m4 e
  exact ⟨nq, by show 0 ≤ val (ballQ c); unfold ballQ; rw [← e]; exact m0, s2, s3⟩

set_option maxRecDepth 100000 in
set_option maxHeartbeats 2000000 in
theorem rball_any (u v : Nat) (w : World) : Calls Try.prog 17 #[.float .f64 u, .float .f64 v] w fun e w' => e = .returned (.tuple #[.agg #[.float .f64 (fmul (secX (cleanF v)) (fsqrt (ballQ (cleanF u)))), .float .f64 (fmul (secY (cleanF v)) (fsqrt (ballQ (cleanF u)))), .float .f64 (ballZ (cleanF u))], .float .f64 (fmul (densF (secF (cleanF v))) half1)]) ∧ Below w.heap.size w w' := by
  have HA := hid (fun w => rsector_any v w)
  have U := (sect_u v).unit
  have HC := hid (rclean_any u)
  obtain ⟨nc, c0, c1⟩ := clean_num u
  obtain ⟨n2, nz, _, nzz, nt, at'⟩ := ball_z nc c0 c1
  obtain ⟨nq, q0, nr, _⟩ := ball_q nc c0 c1
  have hP : ∀ w, (binOp .mul 22 (.float .f64 4611686018427387904) (.float .f64 (cleanF u))).run Try.prog w = .ok (.float .f64 (fmul two1 (cleanF u))) w := fun w => run_mul_num w 22 num_two1 nc
  have HS : ∀ w, (binOp .sub 22 (.float .f64 4607182418800017408) (.float .f64 (fmul two1 (cleanF u)))).run Try.prog w = .ok (.float .f64 (ballZ (cleanF u))) w := fun w => run_sub_num w 22 num_w1 n2
  have HZ : ∀ w, _ := fun w => run_mul_num (P := Try.prog) w 22 nz nz
  have HU : ∀ w, (binOp .sub 22 (.float .f64 4607182418800017408) (.float .f64 (fmul (ballZ (cleanF u)) (ballZ (cleanF u))))).run Try.prog w = .ok (.float .f64 (ballT (cleanF u))) w := fun w => run_sub_num w 22 num_w1 nzz
  have HR := hid (root_num nq q0)
  have hx : ∀ w, _ := fun w => run_mul_num (P := Try.prog) w 22 U.nx nr
  have hy : ∀ w, _ := fun w => run_mul_num (P := Try.prog) w 22 U.ny nr
  have hp : ∀ w, (binOp .mul 22 (.float .f64 (densF (secF (cleanF v)))) (.float .f64 4602678819172646912)).run Try.prog w = .ok (.float .f64 (fmul (densF (secF (cleanF v))) half1)) w := fun w => run_mul_num w 22 (sect_u v).np.1 num_half1
  have hQ : ballQ (cleanF u) = if (ford (ballT (cleanF u)) 0 == some .lt) = true then 0 else ballT (cleanF u) := rfl
  clear U nc c0 c1 n2 nz nzz nt at' nq q0 nr
  generalize fmul (densF (secF (cleanF v))) half1 = q at *
  generalize densF (secF (cleanF v)) = p at *
  generalize secX (cleanF v) = X0 at *
  generalize secY (cleanF v) = Y0 at *
  generalize cleanF u = c at *
  generalize fmul two1 c = c2 at *
  generalize ballQ c = Q at *
  generalize ballT c = T at *
  generalize ballZ c = Z at *
  generalize fmul Z Z = ZZ at *
  generalize fsqrt Q = R at *
  generalize fmul X0 R = X at *
  generalize fmul Y0 R = Y at *
  have hb : (FloatKind.f64.format.order T 0 == some .lt) = (ford T 0 == some .lt) := rfl
  generalize (ford T 0 == some .lt) = b at *
  cases b
  all_goals
    simp only [if_true, Bool.false_eq_true, if_false] at hQ
    subst hQ
    go_enter Try.func17, Try.ntmps17
    go_wp2_with fail
    refine Calls.mono (HC.out _) ?_
    rintro e w' ⟨rfl, hw⟩
    obtain rfl := hw.symm
    clear hw
    go_wp2_with fail
    refine Calls.mono (HR.out _) ?_
    rintro e w' ⟨rfl, hw⟩
    obtain rfl := hw.symm
    clear hw
    go_wp2_with fail
    refine Calls.mono (HA.out _) ?_
    rintro e w' ⟨rfl, hw⟩
    obtain rfl := hw.symm
    clear hw
    go_wp2_with fail
    exact bodyPost_ret (v := .tuple #[.agg #[.float .f64 X, .float .f64 Y, .float .f64 Z], .float .f64 q]) (by simp [results, go_sem]) rfl ⟨rfl, by first | exact (Below.refl _ _).alloc (Nat.le_refl _) _ | exact ((((Below.refl _ _).alloc (Nat.le_refl _) _).setCell (Nat.le_refl _) _).setCell (Nat.le_refl _) _).setCell (Nat.le_refl _) _⟩

set_option maxRecDepth 100000 in
set_option maxHeartbeats 1000000 in
theorem rtent_any (u : Nat) (w : World) : Calls Try.prog 21 #[.float .f64 u] w fun e w' => e = .returned (.float .f64 (tentF (fadd (cleanF u) (cleanF u)))) ∧ w' = w := by
  have HU := hid (rclean_any u)
  obtain ⟨nc, c0, c1⟩ := clean_num u
  obtain ⟨_, _, nw, vw⟩ := twice nc c0 c1
  obtain ⟨n1, n2, n3, p3, n4, n5⟩ := tent_parts nw (by rw [vw]; grind) (by rw [vw]; grind)
  have hP : ∀ w, _ := fun w => run_add_num (P := Try.prog) w 22 nc nc
  have HR := hid (root_num nw (by rw [vw]; grind))
  have HS := hid (root_num n3 p3)
  have hge : (ford (fadd (cleanF u) (cleanF u)) 4607182418800017408 == some .gt || ford (fadd (cleanF u) (cleanF u)) 4607182418800017408 == some .eq) = !tentB (fadd (cleanF u) (cleanF u)) := by
    unfold tentB
    rcases ford_three (not_nan_num nw) isN_one with h | h | h <;> rw [h] <;> rfl
  have hb : (FloatKind.f64.format.order (fadd (cleanF u) (cleanF u)) 4607182418800017408 == some .gt || FloatKind.f64.format.order (fadd (cleanF u) (cleanF u)) 4607182418800017408 == some .eq) = !tentB (fadd (cleanF u) (cleanF u)) := hge
  clear hge
  have h1 : ∀ w, (binOp .sub 22 (.float .f64 (fsqrt (fadd (cleanF u) (cleanF u)))) (.float .f64 4607182418800017408)).run Try.prog w = .ok (.float .f64 (fsub (fsqrt (fadd (cleanF u) (cleanF u))) Fl.w1)) w := fun w => run_sub_num w 22 n1 num_w1
  have h2 : ∀ w, (binOp .sub 22 (.float .f64 4611686018427387904) (.float .f64 (fadd (cleanF u) (cleanF u)))).run Try.prog w = .ok (.float .f64 (fsub two1 (fadd (cleanF u) (cleanF u)))) w := fun w => run_sub_num w 22 num_two1 nw
  have h3 : ∀ w, (binOp .sub 22 (.float .f64 4607182418800017408) (.float .f64 (fsqrt (fsub two1 (fadd (cleanF u) (cleanF u)))))).run Try.prog w = .ok (.float .f64 (fsub Fl.w1 (fsqrt (fsub two1 (fadd (cleanF u) (cleanF u)))))) w := fun w => run_sub_num w 22 num_w1 n4
  have ht : tentF (fadd (cleanF u) (cleanF u)) = if tentB (fadd (cleanF u) (cleanF u)) then fsub (fsqrt (fadd (cleanF u) (cleanF u))) Fl.w1 else fsub Fl.w1 (fsqrt (fsub two1 (fadd (cleanF u) (cleanF u)))) := rfl
  rw [ht]
  clear nc c0 c1 nw vw n1 n2 n3 p3 n4 n5 ht
  generalize cleanF u = c at *
  generalize fadd c c = t at *
  generalize fsub two1 t = d at *
  generalize fsqrt t = r at *
  generalize fsqrt d = s at *
  generalize fsub r Fl.w1 = a at *
  generalize fsub Fl.w1 s = b at *
  generalize tentB t = k at *
  cases k
  · replace hb : _ = true := hb
    go_enter Try.func21, Try.ntmps21
    go_wp2_with fail
    refine Calls.mono (HU.out _) ?_
    rintro e w' ⟨rfl, hw⟩
    obtain rfl := hw.symm
    clear hw
    go_wp2_with fail
    refine Calls.mono (HU.out _) ?_
    rintro e w' ⟨rfl, hw⟩
    obtain rfl := hw.symm
    clear hw
    go_wp2_with fail
    refine Calls.mono (HS.out _) ?_
    rintro e w' ⟨rfl, hw⟩
    obtain rfl := hw.symm
    clear hw
    go_wp2_with fail
    go_ret
    exact ⟨rfl, rfl⟩
  · replace hb : _ = false := hb
    go_enter Try.func21, Try.ntmps21
    go_wp2_with fail
    refine Calls.mono (HU.out _) ?_
    rintro e w' ⟨rfl, hw⟩
    obtain rfl := hw.symm
    clear hw
    go_wp2_with fail
    refine Calls.mono (HU.out _) ?_
    rintro e w' ⟨rfl, hw⟩
    obtain rfl := hw.symm
    clear hw
    go_wp2_with fail
    refine Calls.mono (HR.out _) ?_
    rintro e w' ⟨rfl, hw⟩
    obtain rfl := hw.symm
    clear hw
    go_wp2_with fail
    go_ret
    exact ⟨rfl, rfl⟩
end Go.Proofs.Ytnhilikcgfhkbaa
