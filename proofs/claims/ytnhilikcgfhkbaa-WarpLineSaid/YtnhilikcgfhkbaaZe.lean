/- Package warp: Sector, Disk, Hemi, Ball. -/
import Derived.Test.YtnhilikcgfhkbaaZd
import Derived.Test.YtnhilikcgfhkbaaZf
import Derived.Test.YtnhilikcgfhkbaaZg
namespace Go.Proofs.Ytnhilikcgfhkbaa
open Go.RowKit Fl

/-- What a turned point is: a direction times how far. -/
theorem sect_u (u : Nat) : Sect (cleanF u) := sect (clean_num u).1 (clean_num u).2.1 (clean_num u).2.2

set_option maxRecDepth 100000 in
set_option maxHeartbeats 1000000 in
theorem sector_any (u : Nat) (w : World) : Calls Try.prog 7 #[.float .f64 u] w fun e w' => e = .returned (.tuple #[.float .f64 (fmul (secX (cleanF u)) w1), .float .f64 (fmul (secY (cleanF u)) w1), .float .f64 (densF (secF (cleanF u)))]) ∧ Below w.heap.size w w' := by
  have HA := hid (around_any u w)
  have U := (sect_u u).unit
  have HT := hid (fun b w => turn_num (b := b) (w := w) U.nx U.ny num_w1)
  unfold w1 at HT ⊢
  clear U
  generalize densF (secF (cleanF u)) = p at *
  generalize secX (cleanF u) = X at *
  generalize secY (cleanF u) = Y at *
  generalize fmul X 4607182418800017408 = X1 at *
  generalize fmul Y 4607182418800017408 = Y1 at *
  go_enter Try.func7, Try.ntmps7
  go_wp2_with fail
  refine Calls.mono HA.out ?_
  rintro e w1 ⟨b, rfl, h2, _, hb⟩
  have HB := hid hb
  have H2 := hid h2
  clear hb h2
  go_wp2_with fail
  refine Calls.mono (HT.out b w1 H2.out) ?_
  rintro e w2 ⟨rfl, hb⟩
  have HB2 := hid (HB.out.trans (hb.mono HB.out.size))
  clear hb HB H2
  go_wp2_with fail
  exact bodyPost_ret (v := .tuple #[.float .f64 X1, .float .f64 Y1, .float .f64 p]) (by simp [results, go_sem]) rfl ⟨rfl, HB2.out⟩

def two1 : Nat := 4611686018427387904
theorem num_two1 : Num two1 := ⟨false, 4503599627370496, -51, by decide +kernel⟩
theorem val_two1 : val two1 = 2 := by decide +kernel
def half1 : Nat := 4602678819172646912
theorem num_half1 : Num half1 := ⟨false, 4503599627370496, -53, by decide +kernel⟩
theorem val_half1 : val half1 = 1 / 2 := by decide +kernel
theorem Sect.np {c : Nat} (h : Sect c) : Num (densF (secF c)) ∧ 1 / 8 ≤ val (densF (secF c)) ∧ val (densF (secF c)) ≤ 1 / 4 := dens_range h.nf h.f0 h.f1
theorem root_c {c : Nat} (hc : Num c) (c0 : 0 ≤ val c) (c1 : val c < 1) : Num (fsqrt c) ∧ 0 ≤ val (fsqrt c) ∧ val (fsqrt c) ≤ 1 := by
  obtain ⟨a, b, _, _, d⟩ := sqrt_ab hc c0 (by grind)
  exact ⟨a, b, d (by grind)⟩

set_option maxRecDepth 100000 in
set_option maxHeartbeats 1000000 in
theorem disk_any (u v : Nat) (w : World) : Calls Try.prog 9 #[.float .f64 u, .float .f64 v] w fun e w' => e = .returned (.tuple #[.float .f64 (fmul (secX (cleanF v)) (fsqrt (cleanF u))), .float .f64 (fmul (secY (cleanF v)) (fsqrt (cleanF u))), .float .f64 (fmul two1 (densF (secF (cleanF v))))]) ∧ Below w.heap.size w w' := by
  have HA := hid (around_any v w)
  have U := (sect_u v).unit
  have HC := hid (clean_any u)
  obtain ⟨nc, c0, c1⟩ := clean_num u
  obtain ⟨nr, _, _⟩ := root_c nc c0 c1
  have HR := hid (root_num nc c0)
  have HT := hid (fun b w => turn_num (b := b) (w := w) U.nx U.ny nr)
  have HP := hid (prod_num num_two1 (sect_u v).np.1)
  unfold two1 at HP ⊢
  clear U nc c0 c1 nr
  generalize densF (secF (cleanF v)) = p at *
  generalize secX (cleanF v) = X at *
  generalize secY (cleanF v) = Y at *
  generalize cleanF u = c at *
  generalize fsqrt c = r at *
  generalize fmul X r = X1 at *
  generalize fmul Y r = Y1 at *
  generalize fmul 4611686018427387904 p = q at *
  go_enter Try.func9, Try.ntmps9
  go_wp2_with fail
  refine Calls.mono HA.out ?_
  rintro e w1 ⟨b, rfl, h2, _, hb⟩
  have HB := hid hb
  have H2 := hid h2
  clear hb h2
  go_wp2_with fail
  refine Calls.mono (HC.out _) ?_
  rintro e w' ⟨rfl, hw⟩
  obtain rfl := hw.symm
  clear hw
  go_wp2_with fail
  refine Calls.mono (HR.out _) ?_
  rintro e w' ⟨rfl, hw⟩
  obtain rfl := hw.symm
  clear hw
  go_wp2_with fail
  refine Calls.mono (HT.out b w1 H2.out) ?_
  rintro e w2 ⟨rfl, hb⟩
  have HB2 := hid (HB.out.trans (hb.mono HB.out.size))
  clear hb HB H2
  go_wp2_with fail
  refine Calls.mono (HP.out _) ?_
  rintro e w' ⟨rfl, hw⟩
  obtain rfl := hw.symm
  clear hw
  go_wp2_with fail
  exact bodyPost_ret (v := .tuple #[.float .f64 X1, .float .f64 Y1, .float .f64 q]) (by simp [results, go_sem]) rfl ⟨rfl, HB2.out⟩

set_option maxRecDepth 100000 in
set_option maxHeartbeats 1000000 in
theorem hemi_any (u v : Nat) (w : World) : Calls Try.prog 13 #[.float .f64 u, .float .f64 v] w fun e w' => e = .returned (.tuple #[.agg #[.float .f64 (fmul (secX (cleanF v)) (fsqrt (cleanF u))), .float .f64 (fmul (secY (cleanF v)) (fsqrt (cleanF u))), .float .f64 (fsqrt (fsub Fl.w1 (cleanF u)))], .float .f64 (fmul (fmul two1 (densF (secF (cleanF v)))) (fsqrt (fsub Fl.w1 (cleanF u))))]) ∧ Below w.heap.size w w' := by
  have HA := hid (fun w => disk_any u v w)
  have HC := hid (clean_any u)
  obtain ⟨nc, c0, c1⟩ := clean_num u
  obtain ⟨nz, z0, z1⟩ := unit_sub nc c0 (by grind)
  have hs : ∀ w, (binOp .sub 22 (.float .f64 4607182418800017408) (.float .f64 (cleanF u))).run Try.prog w = .ok (.float .f64 (fsub Fl.w1 (cleanF u))) w := fun w => run_sub_num w 22 num_w1 nc
  have HR := hid (root_num nz z0)
  obtain ⟨nr, _⟩ := sqrt_ab nz z0 (by grind)
  obtain ⟨np, p0, p1⟩ := (sect_u v).np
  obtain ⟨np2, _⟩ := mul_ab num_two1 np (by rw [val_two1]; unfold Ab; constructor <;> grind)
  have HP := hid (prod_num np2 nr)
  clear nc c0 c1 nr nz z0 z1 np p0 p1 np2
  generalize fmul two1 (densF (secF (cleanF v))) = p at *
  generalize fmul (secX (cleanF v)) (fsqrt (cleanF u)) = X at *
  generalize fmul (secY (cleanF v)) (fsqrt (cleanF u)) = Y at *
  generalize cleanF u = c at *
  generalize fsub Fl.w1 c = d at *
  generalize fsqrt d = Z at *
  generalize fmul p Z = q at *
  go_enter Try.func13, Try.ntmps13
  go_wp2_with fail
  refine Calls.mono (HA.out _) ?_
  rintro e w1 ⟨rfl, hb⟩
  have HB : Hid (Cl (w.alloc (.cells #[.float .f64 0, .float .f64 0, .float .f64 0] 29)) w1) := hb
  obtain ⟨z0, z1, z2⟩ := HB.out.three (b := w.heap.size) (by go_simp; exact rfl) (by go_simp; exact rfl) (by go_simp; exact rfl) (by go_simp; done)
  obtain ⟨f0, f1, f2⟩ := HB.out.frz (b := w.heap.size) (by go_simp; done) (by go_simp; done) (by go_simp; done) (by go_simp; done)
  clear hb
  go_wp2_with fail
  refine Calls.mono (HC.out _) ?_
  rintro e w' ⟨rfl, hw⟩
  obtain rfl := hw.symm
  clear hw
  go_wp2_with fail
  refine Calls.mono (HR.out _) ?_
  rintro e w' ⟨rfl, hw⟩
  obtain rfl := hw.symm
  clear hw
  go_wp2_with fail
  refine Calls.mono (HP.out _) ?_
  rintro e w' ⟨rfl, hw⟩
  obtain rfl := hw.symm
  clear hw
  go_wp2_with fail
  exact bodyPost_ret (v := .tuple #[.agg #[.float .f64 X, .float .f64 Y, .float .f64 Z], .float .f64 q]) (by simp [results, go_sem, z0, z1, z2]) rfl ⟨rfl, (((HB.out.out1).setCell (by simp <;> omega) _).setCell (by simp <;> omega) _).setCell (by simp <;> omega) _⟩

/-- Ball's height, and how far from the axis. -/
def ballZ (c : Nat) : Nat := fsub Fl.w1 (fmul two1 c)
def ballT (c : Nat) : Nat := fsub Fl.w1 (fmul (ballZ c) (ballZ c))
theorem ball_z {c : Nat} (hc : Num c) (c0 : 0 ≤ val c) (c1 : val c < 1) : Num (fmul two1 c) ∧ Num (ballZ c) ∧ Ab (val (ballZ c)) (1 + 4 * dl) ∧ Num (fmul (ballZ c) (ballZ c)) ∧ Num (ballT c) ∧ Ab (val (ballT c)) 3 := by
  have hd := dl_le
  have hd0 := dl_ge
  obtain ⟨n1, e1⟩ := mul_ab num_two1 hc (by rw [val_two1]; unfold Ab; constructor <;> grind)
  rw [val_two1] at e1
  obtain ⟨n2, e2⟩ := sub_ab num_w1 n1 (by rw [val_w1]; unfold Ab at *; constructor <;> grind)
  rw [val_w1] at e2
  have az : Ab (val (ballZ c)) (1 + 4 * dl) := by
    show Ab (val (fsub Fl.w1 (fmul two1 c))) _
    unfold Ab at *; constructor <;> grind
  have zz := az.mul az
  have hdd : dl * dl ≤ dl * (1 / 1048576) := Rat.mul_le_mul_of_nonneg_left hd hd0
  have zz2 : Ab (val (ballZ c) * val (ballZ c)) (3 / 2) := zz.mono (by grind)
  have n2' : Num (ballZ c) := n2
  obtain ⟨n3, e3⟩ := mul_ab n2' n2' (zz2.mono (by grind))
  obtain ⟨n4, e4⟩ := sub_ab num_w1 n3 (by rw [val_w1]; unfold Ab at *; constructor <;> grind)
  rw [val_w1] at e4
  refine ⟨n1, n2', az, n3, n4, ?_⟩
  show Ab (val (fsub Fl.w1 (fmul (ballZ c) (ballZ c)))) _
  unfold Ab at *; constructor <;> grind
theorem max_zero {q : Nat} (hq : Num q) (a : Ab (val q) 3) : (∃ o, ford q 0 = some o) ∧ Num (maxF q 0) ∧ 0 ≤ val (maxF q 0) ∧ val (maxF q 0) ≤ 4 ∧ val (maxF q 0) = val (if (ford q 0 == some .lt) = true then 0 else q) := by
  obtain ⟨o, ho⟩ := ford_some (not_nan_num hq) (not_nan_num num_zero)
  have hz := val_zero
  unfold Ab at a
  refine ⟨⟨o, ho⟩, ?_⟩
  have l := lt_val hq num_zero
  have g := gt_val hq num_zero
  rw [ho, hz] at l g
  unfold maxF
  rw [ho]
  cases o with
  | lt =>
    simp only [beq_self_eq_true, if_true]
    exact ⟨num_zero, by rw [hz]; exact Rat.le_refl, by rw [hz]; decide, trivial⟩
  | gt =>
    have g' := of_decide_eq_true g.symm
    simp only [reduceCtorEq, Option.some.injEq, beq_iff_eq, if_false]
    exact ⟨hq, by grind, by grind, (by first | trivial | rfl)⟩
  | eq =>
    have l' := of_decide_eq_false l.symm
    have g' := of_decide_eq_false g.symm
    have e : val q = 0 := by grind
    simp only [reduceCtorEq, Option.some.injEq, beq_iff_eq, if_false]
    split
    · exact ⟨num_zero, by rw [hz]; exact Rat.le_refl, by rw [hz]; decide, by rw [hz, e]⟩
    · exact ⟨hq, by grind, by grind, (by first | trivial | rfl)⟩
def ballR (c : Nat) : Nat := fsqrt (maxF (ballT c) 0)
theorem ball_r {c : Nat} (hc : Num c) (c0 : 0 ≤ val c) (c1 : val c < 1) : Num (ballR c) := by
  obtain ⟨_, _, _, _, n, a⟩ := ball_z hc c0 c1
  obtain ⟨_, m, m0, m4, _⟩ := max_zero n a
  exact (sqrt_ab m m0 m4).1

set_option maxRecDepth 100000 in
set_option maxHeartbeats 1000000 in
theorem ball_any (u v : Nat) (w : World) : Calls Try.prog 16 #[.float .f64 u, .float .f64 v] w fun e w' => e = .returned (.tuple #[.agg #[.float .f64 (fmul (secX (cleanF v)) (ballR (cleanF u))), .float .f64 (fmul (secY (cleanF v)) (ballR (cleanF u))), .float .f64 (ballZ (cleanF u))], .float .f64 (fmul (densF (secF (cleanF v))) half1)]) ∧ Below w.heap.size w w' := by
  have HA := hid (fun w => around_any v w)
  have U := (sect_u v).unit
  have HC := hid (clean_any u)
  obtain ⟨nc, c0, c1⟩ := clean_num u
  obtain ⟨n2, nz, _, nzz, nt, at'⟩ := ball_z nc c0 c1
  obtain ⟨⟨o, ho⟩, nm, m0, _, _⟩ := max_zero nt at'
  have HP := hid (prod_num num_two1 nc)
  have HS : ∀ w, (binOp .sub 22 (.float .f64 4607182418800017408) (.float .f64 (fmul two1 (cleanF u)))).run Try.prog w = .ok (.float .f64 (ballZ (cleanF u))) w := fun w => run_sub_num w 22 num_w1 n2
  have HZ := hid (prod_num nz nz)
  have HU : ∀ w, (binOp .sub 22 (.float .f64 4607182418800017408) (.float .f64 (fmul (ballZ (cleanF u)) (ballZ (cleanF u))))).run Try.prog w = .ok (.float .f64 (ballT (cleanF u))) w := fun w => run_sub_num w 22 num_w1 nzz
  have HM : ∀ w, (Builtin.max_ #[22, 22] 22 #[.float .f64 (ballT (cleanF u)), .float .f64 0]).run Try.prog w = .ok (.float .f64 (maxF (ballT (cleanF u)) 0)) w := fun w => run_max_ord _ _ ho w
  have HR := hid (root_num nm m0)
  have nr := ball_r nc c0 c1
  have HT := hid (fun b w => turn_num (b := b) (w := w) U.nx U.ny nr)
  have HQ := hid (prod_num (sect_u v).np.1 num_half1)
  unfold half1 at HQ ⊢
  unfold two1 at HP HS
  unfold ballR at HT ⊢
  clear U nc c0 c1 n2 nz nzz nt at' ho nm m0 nr
  generalize densF (secF (cleanF v)) = p at *
  generalize secX (cleanF v) = X0 at *
  generalize secY (cleanF v) = Y0 at *
  generalize cleanF u = c at *
  generalize fmul 4611686018427387904 c = c2 at *
  generalize ballT c = T at *
  generalize ballZ c = Z at *
  generalize fmul Z Z = ZZ at *
  generalize maxF T 0 = M at *
  generalize fsqrt M = R at *
  generalize fmul X0 R = X at *
  generalize fmul Y0 R = Y at *
  generalize fmul p 4602678819172646912 = q at *
  go_enter Try.func16, Try.ntmps16
  go_wp2_with fail
  refine Calls.mono (HA.out _) ?_
  rintro e w1 ⟨b, rfl, h2, _, hb⟩
  have HB1 : Hid (Cl (w.alloc (.cells #[.float .f64 0, .float .f64 0, .float .f64 0] 29)) w1) := hb
  obtain ⟨a0, a1, a2⟩ := HB1.out.three (b := w.heap.size) (by go_simp; exact rfl) (by go_simp; exact rfl) (by go_simp; exact rfl) (by go_simp; done)
  obtain ⟨g0, g1, g2⟩ := HB1.out.frz (b := w.heap.size) (by go_simp; done) (by go_simp; done) (by go_simp; done) (by go_simp; done)
  have H2 := hid h2
  clear hb h2 a0 a1 a2 g0 g1 g2
  go_wp2_with fail
  refine Calls.mono (HC.out _) ?_
  rintro e w' ⟨rfl, hw⟩
  obtain rfl := hw.symm
  clear hw
  go_wp2_with fail
  refine Calls.mono (HP.out _) ?_
  rintro e w' ⟨rfl, hw⟩
  obtain rfl := hw.symm
  clear hw
  go_wp2_with fail
  refine Calls.mono (HZ.out _) ?_
  rintro e w' ⟨rfl, hw⟩
  obtain rfl := hw.symm
  clear hw
  go_wp2_with fail
  refine Calls.mono (HR.out _) ?_
  rintro e w' ⟨rfl, hw⟩
  obtain rfl := hw.symm
  clear hw
  go_wp2_with fail
  refine Calls.mono (HT.out b w1 H2.out) ?_
  rintro e w2 ⟨rfl, hb⟩
  have HB : Hid (Cl (w.alloc (.cells #[.float .f64 0, .float .f64 0, .float .f64 0] 29)) w2) := HB1.out.call hb
  obtain ⟨z0, z1, z2⟩ := HB.out.three (b := w.heap.size) (by go_simp; exact rfl) (by go_simp; exact rfl) (by go_simp; exact rfl) (by go_simp; done)
  obtain ⟨f0, f1, f2⟩ := HB.out.frz (b := w.heap.size) (by go_simp; done) (by go_simp; done) (by go_simp; done) (by go_simp; done)
  clear hb HB1 H2
  go_wp2_with fail
  refine Calls.mono (HQ.out _) ?_
  rintro e w' ⟨rfl, hw⟩
  obtain rfl := hw.symm
  clear hw
  go_wp2_with fail
  exact bodyPost_ret (v := .tuple #[.agg #[.float .f64 X, .float .f64 Y, .float .f64 Z], .float .f64 q]) (by simp [results, go_sem, z0, z1, z2]) rfl ⟨rfl, (((HB.out.out1).setCell (by simp <;> omega) _).setCell (by simp <;> omega) _).setCell (by simp <;> omega) _⟩
end Go.Proofs.Ytnhilikcgfhkbaa
