/- A direction that is drawn, by how far from the pole it is: the density that it tells again. Package warp: Sector, Disk, Hemi, Ball. Package vec's products: product, Dot. The functions that pairs and parts are given. pairs, with each function that it is given. pairs, with each function that it is given. parts, with each function that it is given. Add, Sub, Mul, Scale, Neg, Along. Len2, Len, Finite, Part. Unit. Package vec's outer product. The reference: Unit. The reference: Finite, Along, Cross, Unit. Vectors as three words, and what is reckoned with them; the contracts of package vec and of its reference, told so. The parts of a direction are numbers; products with 0; what is not below 0. Nine cells of a block. Package frame: product, side, New. Package frame: Cos, Mirror, Upper; the reference's New. Package lambert: how probable a direction is, and what is told of it, in words. Package rgb: the functions of one colour. Package rgb: pairs, colours; Add, Mul, Scale, Gray. -/
import Derived.Test.YtagehemimlakpaaG4
import Derived.Test.YtagehemimlakpaaG6
import Derived.Test.YtagehemimlakpaaG5
import Derived.Test.YtagehemimlakpaaRows
import Derived.Test.YtagehemimlakpaaG2
import Derived.Test.YtagehemimlakpaaG3
namespace Go.Proofs.Ytagehemimlakpaa
open Go.RowKit Fl

theorem kept_sign (neg : Bool) (mag : Nat) (place : Int) : kept (!neg) mag place = kept neg mag place := by
  cases neg <;> rfl
theorem nearest_neg (neg : Bool) (mag : Nat) (place : Int) (h : Num (F64.nearest neg mag place)) : Num (F64.nearest (!neg) mag place) ∧ val (F64.nearest (!neg) mag place) = -val (F64.nearest neg mag place) := by
  by_cases h0 : mag = 0
  · subst h0
    obtain ⟨a, b⟩ := nearest_zero neg place
    obtain ⟨c, d⟩ := nearest_zero (!neg) place
    exact ⟨c, by rw [b, d]; rfl⟩
  · obtain ⟨b1, b2⟩ := kept_bounds neg mag place h0
    rw [nearest_eq neg mag place h0] at h ⊢
    rw [nearest_eq (!neg) mag place h0, kept_sign]
    rcases Nat.lt_or_ge ((lastP mag place + 1074).toNat * 4503599627370496 + kept neg mag place) 9218868437227405312 with ho | ho
    · rw [Nat.min_eq_left (Nat.le_of_lt ho)]
      obtain ⟨m, e, he, hv⟩ := rung_val neg _ _ b1 b2 ho
      obtain ⟨m', e', he', hv'⟩ := rung_val (!neg) _ _ b1 b2 ho
      refine ⟨⟨_, _, _, he'⟩, ?_⟩
      unfold val
      rw [he, he', dval_number, dval_number, hv, hv']
      cases neg <;> simp only [sg, Bool.not_true, Bool.not_false, if_true, Bool.false_eq_true, if_false] <;> grind
    · rw [Nat.min_eq_right ho] at h
      obtain ⟨s, m, e, hr⟩ := h
      rw [read_inf] at hr
      cases hr
/-- A product with the negative one. -/
theorem mul_neg {x y u : Nat} (hx : Num x) (hu : Num u) (hy : Num y) (h : val x = -val u) (hn : Num (fmul u y)) : Num (fmul x y) ∧ val (fmul x y) = -val (fmul u y) := by
  obtain ⟨n1, m1, p1, e1, v1⟩ := mul_near hx hy
  obtain ⟨n2, m2, p2, e2, v2⟩ := mul_near hu hy
  rw [e2] at hn
  obtain ⟨k1, k2⟩ := nearest_neg n2 m2 p2 hn
  have hv : dval (.number n1 m1 p1) = dval (.number (!n2) m2 p2) := by
    have e : dval (.number (!n2) m2 p2) = -dval (.number n2 m2 p2) := by
      rw [dval_number, dval_number]
      cases n2 <;> simp only [sg, Bool.not_true, Bool.not_false, if_true, Bool.false_eq_true, if_false] <;> grind
    rw [e, v1, v2, h]
    grind
  obtain ⟨a, b⟩ := num_between k1 (nearest_mono (rat_le_of_eq hv)) (nearest_mono (rat_le_of_eq hv.symm))
  rw [e1, e2]
  exact ⟨a, b.trans k2⟩
/-- A direction, times r. -/
theorem dir_prod {C S r : Nat} (hC : Num C) (hS : Num S) (hr : Num r) (nC : Num (fmul C r)) (nS : Num (fmul S r)) (k : Nat) :
    (Num (fmul (dirX C S k) r) ∧ val (fmul (dirX C S k) r) = val (dirX (fmul C r) (fmul S r) k)) ∧ (Num (fmul (dirY C S k) r) ∧ val (fmul (dirY C S k) r) = val (dirY (fmul C r) (fmul S r) k)) := by
  have mC : Num (fmul (fsub 0 C) r) ∧ val (fmul (fsub 0 C) r) = val (fsub 0 (fmul C r)) := by
    obtain ⟨a, b⟩ := neg_val hC
    obtain ⟨c, d⟩ := mul_neg a hC hr b nC
    exact ⟨c, by rw [d, (neg_val nC).2]⟩
  have mS : Num (fmul (fsub 0 S) r) ∧ val (fmul (fsub 0 S) r) = val (fsub 0 (fmul S r)) := by
    obtain ⟨a, b⟩ := neg_val hS
    obtain ⟨c, d⟩ := mul_neg a hS hr b nS
    exact ⟨c, by rw [d, (neg_val nS).2]⟩
  have h : k = 0 ∨ k = 1 ∨ k = 2 ∨ k = 3 ∨ k = 4 ∨ k = 5 ∨ k = 6 ∨ 7 ≤ k := by omega
  rcases h with rfl | rfl | rfl | rfl | rfl | rfl | rfl | h
  · exact ⟨⟨nC, rfl⟩, nS, rfl⟩
  · exact ⟨⟨nS, rfl⟩, nC, rfl⟩
  · exact ⟨mS, nC, rfl⟩
  · exact ⟨mC, nS, rfl⟩
  · exact ⟨mC, mS⟩
  · exact ⟨mS, mC⟩
  · exact ⟨⟨nS, rfl⟩, mC⟩
  · obtain ⟨j, rfl⟩ : ∃ j, k = j + 7 := ⟨k - 7, by omega⟩
    exact ⟨⟨nC, rfl⟩, mS⟩
/-- The density of a drawn direction, at r, is the draw's, nearly. -/
theorem back_prod {c r : Nat} (h : Sect c) (hr : Num r) (r0 : (2 : Rat) ^ (-538 : Int) ≤ val r) (r1 : val r ≤ 1) :
    (Num (fmul (secX c) r) ∧ Num (fmul (secY c) r)) ∧ Num (densF (shareF (fabs (fmul (secX c) r)) (fabs (fmul (secY c) r)))) ∧ Num (densF (secF c)) ∧ Ab (val (densF (shareF (fabs (fmul (secX c) r)) (fabs (fmul (secY c) r)))) - val (densF (secF c))) (12 * dl) := by
  have hS := h.sec
  have rp : 0 ≤ val r := by have := p2_pos (-538); grind
  have d0 : 0 < val (secD (secF c)) := by have := hS.d0; grind
  have s0 : 0 ≤ val (secS (secF c)) := by
    have l := div_mono num_zero h.nf hS.nd d0 (by rw [val_zero]; exact Rat.le_refl) (by rw [val_zero]; exact h.f0)
    rw [fdiv_zero hS.nd d0] at l
    have l2 : leB 0 (secS (secF c)) = true := l
    rw [leB_val num_zero hS.ns, val_zero] at l2
    exact of_decide_eq_true l2
  have sc : val (secS (secF c)) ≤ val (secC (secF c)) := by
    have l := div_mono h.nf num_w1 hS.nd d0 h.f0 (by rw [val_w1]; exact h.f1)
    have l2 : leB (secS (secF c)) (secC (secF c)) = true := l
    rw [leB_val hS.ns hS.nc] at l2
    exact of_decide_eq_true l2
  obtain ⟨⟨nS, nC, c0⟩, d1, d2, d3⟩ := dens_prod h.nf h.f0 h.f1 s0 hr r0 r1
  obtain ⟨⟨na, va⟩, nb, vb⟩ := dir_prod hS.nc hS.ns hr nC nS (secK c)
  have hA0 := Rat.mul_nonneg (show 0 ≤ val (secC (secF c)) - val (secS (secF c)) by grind) rp
  have hB0 := Rat.mul_nonneg s0 rp
  have s0' : 0 ≤ val (fmul (secS (secF c)) r) := by
    have l := mul_mono num_zero hr hS.ns hr (by rw [val_zero]; grind)
    have z : Num (fmul 0 r) ∧ val (fmul 0 r) = 0 := by
      obtain ⟨n, v⟩ := mul_ex num_zero hr (by rw [val_zero]; exact ⟨false, 0, -1074, by decide, by decide, by decide, by rw [dval_number]; show 0 * val r = (((0 : Nat) : Rat) * 2 ^ (-1074 : Int)); grind⟩)
      exact ⟨n, by rw [v, val_zero, Rat.zero_mul]⟩
    rw [leB_val z.1 nS, z.2] at l
    exact of_decide_eq_true l
  have sc' : val (fmul (secS (secF c)) r) ≤ val (fmul (secC (secF c)) r) := by
    have l := mul_mono hS.ns hr hS.nc hr (by grind)
    rw [leB_val nS nC] at l
    exact of_decide_eq_true l
  change Num (fmul (secX c) r) at na
  change Num (fmul (secY c) r) at nb
  change val (fmul (secX c) r) = _ at va
  change val (fmul (secY c) r) = _ at vb
  have q := dir_abs nC nS (Rat.le_of_lt c0) s0' na nb va vb
  obtain ⟨m1, m2⟩ := pick_vals na nb q sc'
  generalize fmul (secX c) r = X at *
  generalize fmul (secY c) r = Y at *
  obtain ⟨f1, f2, f3, f4, f5⟩ := share_good na nb (by
    intro e
    obtain ⟨n1, _⟩ := abs_num na
    obtain ⟨n2, _⟩ := abs_num nb
    have nm : Num (maxF (fabs X) (fabs Y)) := by
      rw [(abs_pick (not_nan_num na) (not_nan_num nb)).1]
      split
      · exact n2
      · exact n1
    have g := gt_val nm num_zero
    rw [e, m1, val_zero, decide_eq_true c0] at g
    exact absurd g (by decide))
  have hsh : shareF (fabs X) (fabs Y) = fdiv (minF (fabs X) (fabs Y)) (maxF (fabs X) (fabs Y)) := by
    unfold shareF
    rw [num_fin (abs_num na).1, num_fin (abs_num nb).1]
    have : (ford (maxF (fabs X) (fabs Y)) 0 == some .eq) = false := by
      have g := gt_val f1 num_zero
      rw [m1, val_zero, decide_eq_true c0] at g
      rw [beq_iff_eq] at g
      rw [g]; rfl
    rw [this]
    rfl
  obtain ⟨n1, _, p0, p1, _⟩ := share_same X Y
  have ev := div_same f2 f1 nS nC f4 f5 f3 m2 m1
  rw [← hsh] at ev
  obtain ⟨nq, _, _⟩ := div_unit nS nC s0' sc' c0
  obtain ⟨_, _, e1, _, _, _, e2⟩ := dens_same n1 nq p0 p1 ev
  exact ⟨⟨na, nb⟩, e1, d2, by rw [e2]; exact d3⟩
end Go.Proofs.Ytagehemimlakpaa

namespace Go.Proofs.Ytagehemimlakpaa
open Go.RowKit Fl

/-- What a turned point is: a direction times how far. -/
theorem sect_u (u : Nat) : Sect (cleanF u) := sect (clean_num u).1 (clean_num u).2.1 (clean_num u).2.2

def two1 : Nat := 4611686018427387904
theorem num_two1 : Num two1 := ⟨false, 4503599627370496, -51, by decide +kernel⟩
theorem val_two1 : val two1 = 2 := by decide +kernel
def half1 : Nat := 4602678819172646912
theorem num_half1 : Num half1 := ⟨false, 4503599627370496, -53, by decide +kernel⟩
theorem val_half1 : val half1 = 1 / 2 := by decide +kernel
theorem Sect.np {c : Nat} (h : Sect c) : Num (densF (secF c)) ∧ 1 / 8 ≤ val (densF (secF c)) ∧ val (densF (secF c)) ≤ 1 / 4 := dens_range h.nf h.f0 h.f1
theorem root_c {c : Nat} (hc : Num c) (c0 : 0 ≤ val c) (c1 : val c < 1) : Num (fsqrt c) ∧ 0 ≤ val (fsqrt c) ∧ val (fsqrt c) ≤ 1 := by
  obtain ⟨a, b, _, _, d⟩ := sqrt_ab hc c0 (by grind)
  exact ⟨a, b, d (by grind)⟩

set_option maxRecDepth 100000 in
set_option maxHeartbeats 1000000 in
theorem disk_any (u v : Nat) (w : World) : Calls Try.prog 35 #[.float .f64 u, .float .f64 v] w fun e w' => e = .returned (.tuple #[.float .f64 (fmul (secX (cleanF v)) (fsqrt (cleanF u))), .float .f64 (fmul (secY (cleanF v)) (fsqrt (cleanF u))), .float .f64 (fmul two1 (densF (secF (cleanF v))))]) ∧ Below w.heap.size w w' := by
  have HA := hid (around_any v w)
  have U := (sect_u v).unit
  have HC := hid (clean_any u)
  obtain ⟨nc, c0, c1⟩ := clean_num u
  obtain ⟨nr, _, _⟩ := root_c nc c0 c1
  have HR := hid (root_num nc c0)
  have HT := hid (fun b w => turn_num (b := b) (w := w) U.nx U.ny nr)
  have HP := hid (prod_num num_two1 (sect_u v).np.1)
  unfold two1 at HP ⊢
  clear U nc c0 c1 nr
  generalize densF (secF (cleanF v)) = p at *
  generalize secX (cleanF v) = X at *
  generalize secY (cleanF v) = Y at *
  generalize cleanF u = c at *
  generalize fsqrt c = r at *
  generalize fmul X r = X1 at *
  generalize fmul Y r = Y1 at *
  generalize fmul 4611686018427387904 p = q at *
  go_enter Try.func35, Try.ntmps35
  go_wp2_with fail
  refine Calls.mono HA.out ?_
  rintro e w1 ⟨b, rfl, h2, _, hb⟩
  have HB := hid hb
  have H2 := hid h2
  clear hb h2
  go_wp2_with fail
  refine Calls.mono (HC.out _) ?_
  rintro e w' ⟨rfl, hw⟩
  obtain rfl := hw.symm
  clear hw
  go_wp2_with fail
  refine Calls.mono (HR.out _) ?_
  rintro e w' ⟨rfl, hw⟩
  obtain rfl := hw.symm
  clear hw
  go_wp2_with fail
  refine Calls.mono (HT.out b w1 H2.out) ?_
  rintro e w2 ⟨rfl, hb⟩
  have HB2 := hid (HB.out.trans (hb.mono HB.out.size))
  clear hb HB H2
  go_wp2_with fail
  refine Calls.mono (HP.out _) ?_
  rintro e w' ⟨rfl, hw⟩
  obtain rfl := hw.symm
  clear hw
  go_wp2_with fail
  exact bodyPost_ret (v := .tuple #[.float .f64 X1, .float .f64 Y1, .float .f64 q]) (by simp [results, go_sem]) rfl ⟨rfl, HB2.out⟩

set_option maxRecDepth 100000 in
set_option maxHeartbeats 1000000 in
theorem hemi_any (u v : Nat) (w : World) : Calls Try.prog 26 #[.float .f64 u, .float .f64 v] w fun e w' => e = .returned (.tuple #[.agg #[.float .f64 (fmul (secX (cleanF v)) (fsqrt (cleanF u))), .float .f64 (fmul (secY (cleanF v)) (fsqrt (cleanF u))), .float .f64 (fsqrt (fsub Fl.w1 (cleanF u)))], .float .f64 (fmul (fmul two1 (densF (secF (cleanF v)))) (fsqrt (fsub Fl.w1 (cleanF u))))]) ∧ Below w.heap.size w w' := by
  have HA := hid (fun w => disk_any u v w)
  have HC := hid (clean_any u)
  obtain ⟨nc, c0, c1⟩ := clean_num u
  obtain ⟨nz, z0, z1⟩ := unit_sub nc c0 (by grind)
  have hs : ∀ w, (binOp .sub 22 (.float .f64 4607182418800017408) (.float .f64 (cleanF u))).run Try.prog w = .ok (.float .f64 (fsub Fl.w1 (cleanF u))) w := fun w => run_sub_num w 22 num_w1 nc
  have HR := hid (root_num nz z0)
  obtain ⟨nr, _⟩ := sqrt_ab nz z0 (by grind)
  obtain ⟨np, p0, p1⟩ := (sect_u v).np
  obtain ⟨np2, _⟩ := mul_ab num_two1 np (by rw [val_two1]; unfold Ab; constructor <;> grind)
  have HP := hid (prod_num np2 nr)
  clear nc c0 c1 nr nz z0 z1 np p0 p1 np2
  generalize fmul two1 (densF (secF (cleanF v))) = p at *
  generalize fmul (secX (cleanF v)) (fsqrt (cleanF u)) = X at *
  generalize fmul (secY (cleanF v)) (fsqrt (cleanF u)) = Y at *
  generalize cleanF u = c at *
  generalize fsub Fl.w1 c = d at *
  generalize fsqrt d = Z at *
  generalize fmul p Z = q at *
  go_enter Try.func26, Try.ntmps26
  go_wp2_with fail
  refine Calls.mono (HA.out _) ?_
  rintro e w1 ⟨rfl, hb⟩
  have HB : Hid (Cl (w.alloc (.cells #[.float .f64 0, .float .f64 0, .float .f64 0] 26)) w1) := hb
  obtain ⟨z0, z1, z2⟩ := HB.out.three (b := w.heap.size) (by go_simp; exact rfl) (by go_simp; exact rfl) (by go_simp; exact rfl) (by go_simp; done)
  obtain ⟨f0, f1, f2⟩ := HB.out.frz (b := w.heap.size) (by go_simp; done) (by go_simp; done) (by go_simp; done) (by go_simp; done)
  clear hb
  go_wp2_with fail
  refine Calls.mono (HC.out _) ?_
  rintro e w' ⟨rfl, hw⟩
  obtain rfl := hw.symm
  clear hw
  go_wp2_with fail
  refine Calls.mono (HR.out _) ?_
  rintro e w' ⟨rfl, hw⟩
  obtain rfl := hw.symm
  clear hw
  go_wp2_with fail
  refine Calls.mono (HP.out _) ?_
  rintro e w' ⟨rfl, hw⟩
  obtain rfl := hw.symm
  clear hw
  go_wp2_with fail
  exact bodyPost_ret (v := .tuple #[.agg #[.float .f64 X, .float .f64 Y, .float .f64 Z], .float .f64 q]) (by simp [results, go_sem, z0, z1, z2]) rfl ⟨rfl, (((HB.out.out1).setCell (by simp <;> omega) _).setCell (by simp <;> omega) _).setCell (by simp <;> omega) _⟩

/-- Ball's height, and how far from the axis. -/
def ballZ (c : Nat) : Nat := fsub Fl.w1 (fmul two1 c)
def ballT (c : Nat) : Nat := fsub Fl.w1 (fmul (ballZ c) (ballZ c))
theorem ball_z {c : Nat} (hc : Num c) (c0 : 0 ≤ val c) (c1 : val c < 1) : Num (fmul two1 c) ∧ Num (ballZ c) ∧ Ab (val (ballZ c)) (1 + 4 * dl) ∧ Num (fmul (ballZ c) (ballZ c)) ∧ Num (ballT c) ∧ Ab (val (ballT c)) 3 := by
  have hd := dl_le
  have hd0 := dl_ge
  obtain ⟨n1, e1⟩ := mul_ab num_two1 hc (by rw [val_two1]; unfold Ab; constructor <;> grind)
  rw [val_two1] at e1
  obtain ⟨n2, e2⟩ := sub_ab num_w1 n1 (by rw [val_w1]; unfold Ab at *; constructor <;> grind)
  rw [val_w1] at e2
  have az : Ab (val (ballZ c)) (1 + 4 * dl) := by
    show Ab (val (fsub Fl.w1 (fmul two1 c))) _
    unfold Ab at *; constructor <;> grind
  have zz := az.mul az
  have hdd : dl * dl ≤ dl * (1 / 1048576) := Rat.mul_le_mul_of_nonneg_left hd hd0
  have zz2 : Ab (val (ballZ c) * val (ballZ c)) (3 / 2) := zz.mono (by grind)
  have n2' : Num (ballZ c) := n2
  obtain ⟨n3, e3⟩ := mul_ab n2' n2' (zz2.mono (by grind))
  obtain ⟨n4, e4⟩ := sub_ab num_w1 n3 (by rw [val_w1]; unfold Ab at *; constructor <;> grind)
  rw [val_w1] at e4
  refine ⟨n1, n2', az, n3, n4, ?_⟩
  show Ab (val (fsub Fl.w1 (fmul (ballZ c) (ballZ c)))) _
  unfold Ab at *; constructor <;> grind
theorem max_zero {q : Nat} (hq : Num q) (a : Ab (val q) 3) : (∃ o, ford q 0 = some o) ∧ Num (maxF q 0) ∧ 0 ≤ val (maxF q 0) ∧ val (maxF q 0) ≤ 4 ∧ val (maxF q 0) = val (if (ford q 0 == some .lt) = true then 0 else q) := by
  obtain ⟨o, ho⟩ := ford_some (not_nan_num hq) (not_nan_num num_zero)
  have hz := val_zero
  unfold Ab at a
  refine ⟨⟨o, ho⟩, ?_⟩
  have l := lt_val hq num_zero
  have g := gt_val hq num_zero
  rw [ho, hz] at l g
  unfold maxF
  rw [ho]
  cases o with
  | lt =>
    simp only [beq_self_eq_true, if_true]
    exact ⟨num_zero, by rw [hz]; exact Rat.le_refl, by rw [hz]; decide, trivial⟩
  | gt =>
    have g' := of_decide_eq_true g.symm
    simp only [reduceCtorEq, Option.some.injEq, beq_iff_eq, if_false]
    exact ⟨hq, by grind, by grind, (by first | trivial | rfl)⟩
  | eq =>
    have l' := of_decide_eq_false l.symm
    have g' := of_decide_eq_false g.symm
    have e : val q = 0 := by grind
    simp only [reduceCtorEq, Option.some.injEq, beq_iff_eq, if_false]
    split
    · exact ⟨num_zero, by rw [hz]; exact Rat.le_refl, by rw [hz]; decide, by rw [hz, e]⟩
    · exact ⟨hq, by grind, by grind, (by first | trivial | rfl)⟩
def ballR (c : Nat) : Nat := fsqrt (maxF (ballT c) 0)
theorem ball_r {c : Nat} (hc : Num c) (c0 : 0 ≤ val c) (c1 : val c < 1) : Num (ballR c) := by
  obtain ⟨_, _, _, _, n, a⟩ := ball_z hc c0 c1
  obtain ⟨_, m, m0, m4, _⟩ := max_zero n a
  exact (sqrt_ab m m0 m4).1

end Go.Proofs.Ytagehemimlakpaa

namespace Go.Proofs.Ytagehemimlakpaa
open Go.RowKit Fl

abbrev dotF (ax ay az bx bY bz : Nat) : Nat := fadd (fadd (fmul ax bx) (fmul ay bY)) (fmul az bz)

end Go.Proofs.Ytagehemimlakpaa

namespace Go.Proofs.Ytagehemimlakpaa
open Go.RowKit Fl

/-- What Same's own function makes of two parts: 0 of two that are none, else the first. -/
def selF (x y : Nat) : Nat := if isN x && isN y then 0 else x
theorem wd_zero : Wd 0 := by unfold Wd; omega

end Go.Proofs.Ytagehemimlakpaa

namespace Go.Proofs.Ytagehemimlakpaa
open Go.RowKit Fl

end Go.Proofs.Ytagehemimlakpaa

namespace Go.Proofs.Ytagehemimlakpaa
open Go.RowKit Fl

end Go.Proofs.Ytagehemimlakpaa

namespace Go.Proofs.Ytagehemimlakpaa
open Go.RowKit Fl

end Go.Proofs.Ytagehemimlakpaa

namespace Go.Proofs.Ytagehemimlakpaa
open Go.RowKit Fl

end Go.Proofs.Ytagehemimlakpaa

namespace Go.Proofs.Ytagehemimlakpaa
open Go.RowKit Fl

/-- The part of an axis. -/
def partF (ax ay az : Nat) (i : Int) : Nat := if i = 0 then ax else if i = 1 then ay else az

end Go.Proofs.Ytagehemimlakpaa

namespace Go.Proofs.Ytagehemimlakpaa
open Go.RowKit Fl

def unitB (z : Nat) : Bool := ford z 0 == some .gt && numB z
abbrev lenF (ax ay az : Nat) : Nat := fsqrt (dotF ax ay az ax ay az)
theorem gt_congr {r z : Nat} (h : Eqv r z) : (FloatKind.f64.format.order r 0 == some .gt) = (ford z 0 == some .gt) := by
  rw [← ford_congr h.sm (Sm.refl 0)]; rfl

end Go.Proofs.Ytagehemimlakpaa

namespace Go.Proofs.Ytagehemimlakpaa
open Go.RowKit Fl

end Go.Proofs.Ytagehemimlakpaa

namespace Go.Proofs.Ytagehemimlakpaa
open Go.RowKit Fl

def unitR (z : Nat) : Bool := ford z 0 == some .gt && numB z
abbrev lenR (ax ay az : Nat) : Nat := fsqrt (dotR ax ay az ax ay az)
theorem gt_congrR {r z : Nat} (h : Eqv r z) : (FloatKind.f64.format.order r 0 == some .gt) = (ford z 0 == some .gt) := by
  rw [← ford_congr h.sm (Sm.refl 0)]; rfl
theorem wd_zeroR : Wd 0 := by unfold Wd; omega

end Go.Proofs.Ytagehemimlakpaa

namespace Go.Proofs.Ytagehemimlakpaa
open Go.RowKit Fl

end Go.Proofs.Ytagehemimlakpaa

namespace Go.Proofs.Ytagehemimlakpaa
open Go.RowKit Fl

/-- Three words. -/
structure V3 where
  x : Nat
  y : Nat
  z : Nat
def V3.sub (a b : V3) : V3 := ⟨fsub a.x b.x, fsub a.y b.y, fsub a.z b.z⟩
def V3.add (a b : V3) : V3 := ⟨fadd a.x b.x, fadd a.y b.y, fadd a.z b.z⟩
def V3.scale (a : V3) (k : Nat) : V3 := ⟨fmul a.x k, fmul a.y k, fmul a.z k⟩
def V3.cross (a b : V3) : V3 := ⟨fsub (fmul a.y b.z) (fmul a.z b.y), fsub (fmul a.z b.x) (fmul a.x b.z), fsub (fmul a.x b.y) (fmul a.y b.x)⟩
def V3.dot (a b : V3) : Nat := fadd (fadd (fmul a.x b.x) (fmul a.y b.y)) (fmul a.z b.z)
def V3.len (a : V3) : Nat := fsqrt (a.dot a)
def V3.ok (a : V3) : Bool := unitB a.len
def V3.unit (a : V3) : V3 := if a.ok then ⟨fdiv a.x a.len, fdiv a.y a.len, fdiv a.z a.len⟩ else ⟨0, 0, 0⟩
/-- The same numbers, or none in both, part by part. -/
structure S3 (x y z : Nat) (P : V3) : Prop where
  x : Sm x P.x
  y : Sm y P.y
  z : Sm z P.z
structure W3 (x y z : Nat) : Prop where
  x : Wd x
  y : Wd y
  z : Wd z
theorem S3.refl (x y z : Nat) : S3 x y z ⟨x, y, z⟩ := ⟨Sm.refl x, Sm.refl y, Sm.refl z⟩
/-- A vector, up to which NaN. -/
def isP (P : V3) (v : Value) : Prop := ∃ x y z, v = .agg #[.float .f64 x, .float .f64 y, .float .f64 z] ∧ S3 x y z P ∧ W3 x y z
theorem isP.of {P : V3} : ∀ v, isV P.x P.y P.z v → isP P v := fun _ ⟨a, b, c, e, h0, h1, h2⟩ => ⟨a, b, c, e, ⟨h0.sm, h1.sm, h2.sm⟩, ⟨h0.wd, h1.wd, h2.wd⟩⟩
theorem isF.sm {x y : Nat} (h : x = y) : ∀ v, isF x v → isF y v := fun _ k => h ▸ k

section
variable {ax ay az bx bY bz k K : Nat} {A B : V3}
theorem sub_w (ha : S3 ax ay az A) (hb : S3 bx bY bz B) : (⟨fsub ax bx, fsub ay bY, fsub az bz⟩ : V3) = A.sub B := by
  unfold V3.sub; rw [fsub_congr ha.x hb.x, fsub_congr ha.y hb.y, fsub_congr ha.z hb.z]
theorem add_w (ha : S3 ax ay az A) (hb : S3 bx bY bz B) : (⟨fadd ax bx, fadd ay bY, fadd az bz⟩ : V3) = A.add B := by
  unfold V3.add; rw [fadd_congr ha.x hb.x, fadd_congr ha.y hb.y, fadd_congr ha.z hb.z]
theorem scale_w (ha : S3 ax ay az A) (hk : Sm k K) : (⟨fmul ax k, fmul ay k, fmul az k⟩ : V3) = A.scale K := by
  unfold V3.scale; rw [fmul_congr ha.x hk, fmul_congr ha.y hk, fmul_congr ha.z hk]
theorem cross_w (ha : S3 ax ay az A) (hb : S3 bx bY bz B) : (⟨fsub (fmul ay bz) (fmul az bY), fsub (fmul az bx) (fmul ax bz), fsub (fmul ax bY) (fmul ay bx)⟩ : V3) = A.cross B := by
  unfold V3.cross
  rw [fmul_congr ha.y hb.z, fmul_congr ha.z hb.y, fmul_congr ha.z hb.x, fmul_congr ha.x hb.z, fmul_congr ha.x hb.y, fmul_congr ha.y hb.x]
theorem dot_w (ha : S3 ax ay az A) (hb : S3 bx bY bz B) : fadd (fadd (fmul ax bx) (fmul ay bY)) (fmul az bz) = A.dot B := by
  unfold V3.dot; rw [fmul_congr ha.x hb.x, fmul_congr ha.y hb.y, fmul_congr ha.z hb.z]
theorem len_w (ha : S3 ax ay az A) : lenF ax ay az = A.len := by
  unfold V3.len; rw [← dot_w ha ha]
theorem unit_w (ha : S3 ax ay az A) : (⟨if unitB (lenF ax ay az) then fdiv ax (lenF ax ay az) else 0, if unitB (lenF ax ay az) then fdiv ay (lenF ax ay az) else 0, if unitB (lenF ax ay az) then fdiv az (lenF ax ay az) else 0⟩ : V3) = A.unit := by
  unfold V3.unit V3.ok
  rw [len_w ha]
  cases unitB A.len
  · rfl
  · rw [fdiv_congr ha.x (Sm.refl _), fdiv_congr ha.y (Sm.refl _), fdiv_congr ha.z (Sm.refl _)]; rfl
theorem isV.toP {x y z : Nat} {P : V3} (h : (⟨x, y, z⟩ : V3) = P) : ∀ v, isV x y z v → isP P v := by subst h; exact fun v k => isP.of v k

variable (w : World)
/-- A unit, and whether there is one. -/
def isU (P : V3) (v : Value) : Prop := ∃ x y z, v = .tuple #[.agg #[.float .f64 x, .float .f64 y, .float .f64 z], .bool P.ok] ∧ S3 x y z P.unit ∧ W3 x y z
theorem isU.of (ha : S3 ax ay az A) : ∀ v, (∃ a b c, v = .tuple #[.agg #[.float .f64 a, .float .f64 b, .float .f64 c], .bool (unitB (lenF ax ay az))] ∧
    Eqv a (if unitB (lenF ax ay az) then fdiv ax (lenF ax ay az) else 0) ∧ Eqv b (if unitB (lenF ax ay az) then fdiv ay (lenF ax ay az) else 0) ∧ Eqv c (if unitB (lenF ax ay az) then fdiv az (lenF ax ay az) else 0)) → isU A v := by
  rintro v ⟨a, b, c, rfl, h0, h1, h2⟩
  have e := unit_w ha
  have ek : unitB (lenF ax ay az) = A.ok := by unfold V3.ok; rw [len_w ha]
  refine ⟨a, b, c, by rw [ek], ?_, ⟨h0.wd, h1.wd, h2.wd⟩⟩
  rw [← e]
  exact ⟨h0.sm, h1.sm, h2.sm⟩
end
end Go.Proofs.Ytagehemimlakpaa

namespace Go.Proofs.Ytagehemimlakpaa
open Fl

/-- Powers of 2, out of sight. -/
def pw (n : Int) : Rat := 2 ^ n
theorem pw_pos (n : Int) : 0 < pw n := p2_pos n
theorem pw_add (a b : Int) : pw (a + b) = pw a * pw b := p2_add a b
theorem pw_le {a b : Int} (h : a ≤ b) : pw a ≤ pw b := p2_le h

theorem dval_pw (n : Int) : dval (.number false 1 n) = pw n := by
  rw [dval_number]
  show ((1 : Nat) : Rat) * 2 ^ n = pw n
  have e : ((1 : Nat) : Rat) = 1 := rfl
  rw [e, Rat.one_mul]; rfl
theorem n_pw {n : Int} (h1 : -1074 ≤ n) (h2 : n ≤ 971) : Num (F64.nearest false 1 n) ∧ val (F64.nearest false 1 n) = pw n := by
  obtain ⟨a, b⟩ := nearest_small (s := false) (m := 1) (e := n) (by decide) h1 h2
  exact ⟨a, by rw [b, dval_pw]⟩
theorem ord_low {e q : Nat} (h : F64.read e = .infinity true) (hq : Num q) : ford e q = some .lt := by
  obtain ⟨s, m, i, hq⟩ := hq
  unfold ford Ieee.Format.order
  rw [h, hq]
  rfl
/-- What is written of a number up to 2 to the 960 is a number. -/
theorem write_small {neg : Bool} {mag : Nat} {place : Int} (h : (mag : Rat) * 2 ^ place ≤ pw 960) : Num (F64.nearest neg mag place) := by
  obtain ⟨a, b⟩ := n_pw (n := 960) (by decide) (by decide)
  have r := mag_nonneg mag place
  rcases nearest_cases neg mag place with k | k
  · exact k
  · exfalso
    cases neg
    · have l := nearest_mono (n1 := false) (m1 := mag) (p1 := place) (n2 := false) (m2 := 1) (p2 := 960) (by rw [dval_pw, dval_number]; exact h)
      unfold leB at l
      rw [ord_inf k a] at l
      cases l
    · have hn : Num (F64.nearest true 1 960) := ⟨true, 4503599627370496, 908, by decide +kernel⟩
      have hd : dval (.number true 1 960) = - pw 960 := by
        have := dval_pw 960
        rw [dval_number] at *
        simp only [sg, if_true, Bool.false_eq_true, if_false] at *
        rw [this]
      have l := nearest_mono (n1 := true) (m1 := 1) (p1 := 960) (n2 := true) (m2 := mag) (p2 := place) (by
        rw [hd, dval_number]
        simp only [sg, if_true]
        grind)
      have : ford (F64.nearest true 1 960) (F64.nearest true mag place) = some .gt := by
        obtain ⟨s, m, i, hq⟩ := hn
        unfold ford Ieee.Format.order
        rw [k, hq]
        rfl
      unfold leB at l
      rw [this] at l
      cases l
theorem pw_1024 : (9007199254740991 : Rat) * pw 971 ≤ pw 1024 := by
  have : pw 1024 = pw 53 * pw 971 := by rw [← pw_add]; rfl
  rw [this]
  have e : pw 53 = 9007199254740992 := by decide +kernel
  rw [e]
  exact Rat.mul_le_mul_of_nonneg_right (by decide) (Rat.le_of_lt (pw_pos 971))
theorem val_top {x : Nat} (hx : Num x) : Ab (val x) (pw 1024) := by
  obtain ⟨s, m, e, hr⟩ := hx
  have hv : val x = sg s ((m : Rat) * 2 ^ e) := by unfold val; rw [hr, dval_number]
  obtain ⟨b1, b2⟩ := number_bounds hr
  have l1 : (m : Rat) ≤ 9007199254740991 := by exact_mod_cast b1
  have l2 := pw_le b2
  have l3 := pw_1024
  have l4 : (m : Rat) * 2 ^ e ≤ 9007199254740991 * pw 971 := by
    refine Rat.le_trans (Rat.mul_le_mul_of_nonneg_right l1 (Rat.le_of_lt (p2_pos e))) ?_
    exact Rat.mul_le_mul_of_nonneg_left l2 (by decide)
  have l5 := mag_nonneg m e
  rw [hv]
  cases s <;> simp only [sg, if_true, Bool.false_eq_true, if_false] <;> unfold Ab <;> constructor <;> grind
theorem val_low {x : Nat} (hx : Num x) (h : 0 < val x) : pw (-1074) ≤ val x := by
  obtain ⟨s, m, e, hr⟩ := hx
  have hv : val x = sg s ((m : Rat) * 2 ^ e) := by unfold val; rw [hr, dval_number]
  have b := pw_le (read_low hr)
  have l5 := mag_nonneg m e
  cases s
  · simp only [sg, Bool.false_eq_true, if_false] at hv
    have hm : m ≠ 0 := by
      rintro rfl
      have : ((0 : Nat) : Rat) * 2 ^ e = 0 := Rat.zero_mul _
      rw [this] at hv
      grind
    have l1 : (1 : Rat) ≤ m := by exact_mod_cast Nat.pos_of_ne_zero hm
    have l2 := Rat.mul_le_mul_of_nonneg_right l1 (Rat.le_of_lt (p2_pos e))
    have l3 : pw e = 2 ^ e := rfl
    rw [hv]
    grind
  · simp only [sg, if_true] at hv
    grind
theorem ev_half : ev ≤ 1 / 2 := by decide +kernel
theorem ev_pos : 0 ≤ ev := by decide +kernel
/-- The root of a number above 0. -/
theorem root_low {x : Nat} (hx : Num x) (h0 : 0 < val x) : Num (fsqrt x) ∧ pw (-538) ≤ val (fsqrt x) ∧ (pw 800 ≤ val x → pw 399 ≤ val (fsqrt x)) := by
  obtain ⟨mag, place, e, h1, h2, _⟩ := sqrt_near hx h0
  have hq := mag_nonneg mag place
  have hd : dval (.number false mag place) = (mag : Rat) * 2 ^ place := rfl
  generalize (mag : Rat) * 2 ^ place = q at *
  have t1 := (val_top hx).2
  have t2 := val_low hx h0
  have e1 := ev_half
  have e0 := ev_pos
  have z1 : val x * ev ≤ val x * (1 / 2) := Rat.mul_le_mul_of_nonneg_left e1 (Rat.le_of_lt h0)
  have up : q ≤ pw 513 := by
    refine sq_ge (Rat.le_of_lt (pw_pos _)) ?_
    have : pw 513 * pw 513 = pw 1024 * 4 := by rw [← pw_add, show (513 : Int) + 513 = 1024 + 2 from rfl, pw_add]; rfl
    rw [this]
    have := pw_pos 1024
    grind
  have hn : Num (F64.nearest false mag place) := write_small (by
    have := pw_le (show (513 : Int) ≤ 960 by decide)
    show (mag : Rat) * 2 ^ place ≤ _
    have e : dval (.number false mag place) = (mag : Rat) * 2 ^ place := rfl
    rw [← e, hd]
    grind)
  have low : ∀ n : Int, -1074 ≤ n → n ≤ 971 → pw n * pw n ≤ q * q → pw n ≤ val (fsqrt x) := by
    intro n n1 n2 hh
    have hh' : pw n ≤ q := sq_ge hq hh
    obtain ⟨a, b⟩ := n_pw n1 n2
    have := nearest_mono (n1 := false) (m1 := 1) (p1 := n) (n2 := false) (m2 := mag) (p2 := place) (by rw [dval_pw, hd]; exact hh')
    rw [leB_val a hn, b] at this
    rw [e]
    exact of_decide_eq_true this
  refine ⟨by rw [e]; exact hn, low _ (by decide) (by decide) ?_, fun h => low _ (by decide) (by decide) ?_⟩
  · have : pw (-538) * pw (-538) * 4 = pw (-1074) := by
      have e4 : (4 : Rat) = pw 2 := by decide +kernel
      rw [e4, ← pw_add, ← pw_add]; rfl
    have := pw_pos (-1074)
    grind
  · have : pw 399 * pw 399 * 4 = pw 800 := by
      have e4 : (4 : Rat) = pw 2 := by decide +kernel
      rw [e4, ← pw_add, ← pw_add]; rfl
    have := pw_pos 800
    grind
/-- A quotient whose size is known. -/
theorem quot_num {x y : Nat} (hx : Num x) (hy : Num y) {a c : Int} (hc : pw c ≤ val y) (ha : Ab (val x) (pw a)) (h : a + 1 - c ≤ 960) : Num (fdiv x y) := by
  have y0 : 0 < val y := by have := pw_pos c; grind
  obtain ⟨neg, mag, place, e, hh⟩ := div_near hx hy (by grind)
  obtain ⟨g1, g2⟩ := hh (pw a) ha.1 ha.2
  have e1 := ev_half
  have p := pw_pos a
  have z1 : pw a * ev ≤ pw a * (1 / 2) := Rat.mul_le_mul_of_nonneg_left e1 (Rat.le_of_lt p)
  rw [e]
  refine write_small ?_
  have hq := mag_nonneg mag place
  rw [dval_number] at g1 g2
  have k : (mag : Rat) * 2 ^ place * val y ≤ pw a * 2 := by
    unfold Ab at ha
    cases neg <;> simp only [sg, if_true, Bool.false_eq_true, if_false] at g1 g2 <;> grind
  generalize (mag : Rat) * 2 ^ place = q at *
  have k2 : q * pw c ≤ pw a * 2 := Rat.le_trans (Rat.mul_le_mul_of_nonneg_left hc hq) k
  have k3 : pw a * 2 = pw (a + 1 - c) * pw c := by
    rw [← pw_add, show a + 1 - c + c = a + 1 by omega, pw_add]; rfl
  rw [k3] at k2
  have k4 : q ≤ pw (a + 1 - c) := Rat.le_of_mul_le_mul_right k2 (pw_pos c)
  exact Rat.le_trans k4 (pw_le h)
theorem num_of_sqrt {x : Nat} (h : Num (fsqrt x)) : Num x ∧ 0 ≤ val x := by
  unfold fsqrt Ieee.Format.sqrt at h
  cases hr : F64.read x with
  | nan s f =>
    rw [hr] at h
    exact absurd h num_not_nan
  | infinity s =>
    rw [hr] at h
    cases s
    · exact absurd h num_not_inf
    · exact absurd h num_not_nan
  | number s m e =>
    have hn : Num x := ⟨_, _, _, hr⟩
    refine ⟨hn, ?_⟩
    have hv : val x = sg s ((m : Rat) * 2 ^ e) := by unfold val; rw [hr, dval_number]
    have l5 := mag_nonneg m e
    rw [hv]
    by_cases hm : m = 0
    · subst hm
      have : ((0 : Nat) : Rat) * 2 ^ e = 0 := Rat.zero_mul _
      rw [this]
      cases s <;> simp [sg]
    · cases s
      · simpa only [sg, Bool.false_eq_true, if_false] using l5
      · exfalso
        rw [hr] at h
        simp only [Ieee.Datum.root, if_neg hm, if_true] at h
        exact absurd h num_not_nan
theorem sqrt_zero {x : Nat} (hx : Num x) (h : val x = 0) : val (fsqrt x) = 0 := by
  have := sqrt_ab hx (by rw [h]; decide) (by rw [h]; decide)
  obtain ⟨s, m, i, hr⟩ := hx
  have hvx : val x = sg s ((m : Rat) * 2 ^ i) := by unfold val; rw [hr, dval_number]
  have hm : m = 0 := by
    refine Classical.byContradiction fun hm => ?_
    have h2 : (0 : Rat) < m := by exact_mod_cast Nat.pos_of_ne_zero hm
    have h3 := Rat.mul_pos h2 (p2_pos i)
    rw [h] at hvx
    cases s <;> simp only [sg, if_true, Bool.false_eq_true, if_false] at hvx <;> grind
  subst hm
  have e : fsqrt x = F64.nearest s 0 i := by
    unfold fsqrt Ieee.Format.sqrt
    rw [hr]
    simp only [Ieee.Datum.root, if_true, Option.map_some, Option.getD_some]
    rfl
  rw [e]
  exact (nearest_zero s i).2
/-- What is known of a vector that has a direction. -/
theorem square_lo {x : Nat} (hx : Num x) (hq : Num (fmul x x)) : 0 ≤ val (fmul x x) ∧ (Ab (val x) (pw 400) ∨ pw 800 ≤ val (fmul x x)) := by
  obtain ⟨neg, mag, place, e, v⟩ := mul_near hx hx
  have nn := sq_nonneg (val x)
  constructor
  · rcases nearest_nn (neg := neg) (m := mag) (p := place) (by rw [v]; exact nn) with ⟨_, k⟩ | k
    · rw [e]; exact k
    · exfalso
      rw [e] at hq
      obtain ⟨_, _, _, hq⟩ := hq
      rw [hq] at k; cases k
  · by_cases h : Ab (val x) (pw 400)
    · exact .inl h
    · right
      have hs : pw 400 * pw 400 ≤ val x * val x := by
        refine Classical.byContradiction fun hc => h (Ab.of_sq (Rat.le_of_lt (pw_pos _)) ?_)
        grind
      rw [← pw_add] at hs
      obtain ⟨a, b⟩ := n_pw (n := 800) (by decide) (by decide)
      have := nearest_mono (n1 := false) (m1 := 1) (p1 := 800) (n2 := neg) (m2 := mag) (p2 := place) (by rw [dval_pw, v]; exact hs)
      rw [← e, leB_val a hq, b] at this
      exact of_decide_eq_true this
theorem add_ge {x y : Nat} (hx : Num x) (hy : Num y) (hn : Num (fadd x y)) (x0 : 0 ≤ val x) (y0 : 0 ≤ val y) : val x ≤ val (fadd x y) ∧ val y ≤ val (fadd x y) := by
  have a := le_add hx hy y0
  rw [leB_val hx hn] at a
  refine ⟨of_decide_eq_true a, ?_⟩
  have b := le_add hy hx x0
  obtain ⟨n1, m1, p1, e1, v1⟩ := add_near hx hy
  obtain ⟨n2, m2, p2, e2, v2⟩ := add_near hy hx
  have c : leB (fadd y x) (fadd x y) = true := by
    rw [e1, e2]; exact nearest_mono (by rw [v1, v2]; grind)
  have d := leB_trans b c
  rw [leB_val hy hn] at d
  exact of_decide_eq_true d
structure NumV (A : V3) : Prop where
  x : Num A.x
  y : Num A.y
  z : Num A.z
theorem ok_len {A : V3} (h : A.ok = true) : Num A.len ∧ 0 < val A.len ∧ Num (A.dot A) ∧ 0 < val (A.dot A) := by
  unfold V3.ok unitB at h
  simp only [Bool.and_eq_true] at h
  have hn := num_of_fin h.2
  have h1 := h.1
  rw [gt_val hn num_zero, val_zero] at h1
  have h0 := of_decide_eq_true h1
  obtain ⟨a, b⟩ := num_of_sqrt (x := A.dot A) hn
  refine ⟨hn, h0, a, ?_⟩
  refine Classical.byContradiction fun hc => ?_
  have : val (A.dot A) = 0 := by grind
  have := sqrt_zero a this
  unfold V3.len at h0
  grind
/-- A DIRECTION'S PARTS ARE NUMBERS. -/
theorem unit_num (A : V3) : NumV A.unit := by
  unfold V3.unit
  cases hk : A.ok
  · exact ⟨num_zero, num_zero, num_zero⟩
  · obtain ⟨nl, l0, nd, d0⟩ := ok_len hk
    unfold V3.dot at nd
    obtain ⟨nxy, nzz⟩ := num_of_add nd
    obtain ⟨nxx, nyy⟩ := num_of_add nxy
    have nx := num_of_square nxx
    have ny := num_of_square nyy
    have nz := num_of_square nzz
    obtain ⟨qx, rx⟩ := square_lo nx nxx
    obtain ⟨qy, ry⟩ := square_lo ny nyy
    obtain ⟨qz, rz⟩ := square_lo nz nzz
    obtain ⟨s1, s2⟩ := add_ge nxx nyy nxy qx qy
    obtain ⟨s3, s4⟩ := add_ge nxy nzz nd (by grind) qz
    obtain ⟨_, r1, r2⟩ := root_low (x := A.dot A) (by exact nd) d0
    have hd : val (A.dot A) = val (fadd (fadd (fmul A.x A.x) (fmul A.y A.y)) (fmul A.z A.z)) := rfl
    have hl : A.len = fsqrt (A.dot A) := rfl
    rw [← hl] at r1 r2
    have part : ∀ x, Num x → (Ab (val x) (pw 400) ∨ pw 800 ≤ val (A.dot A)) → Num (fdiv x A.len) := by
      intro x hx hr
      rcases hr with hr | hr
      · exact quot_num hx nl r1 hr (by decide)
      · exact quot_num hx nl (r2 hr) (val_top hx) (by decide)
    simp only [if_true]
    refine ⟨part _ nx ?_, part _ ny ?_, part _ nz ?_⟩
    · rcases rx with k | k
      · exact .inl k
      · right; rw [hd]; grind
    · rcases ry with k | k
      · exact .inl k
      · right; rw [hd]; grind
    · rcases rz with k | k
      · exact .inl k
      · right; rw [hd]; grind
end Go.Proofs.Ytagehemimlakpaa

namespace Go.Proofs.Ytagehemimlakpaa.Fl
open Go.RowKit

theorem Cl.more3 {W w' : World} (h : Cl W w') {b : Nat} {x y z : Value} (hx : W.cell? ⟨b, 6, none⟩ = some x) (hy : W.cell? ⟨b, 7, none⟩ = some y) (hz : W.cell? ⟨b, 8, none⟩ = some z) (hb : b < W.heap.size) :
    w'.cell? ⟨b, 6, none⟩ = some x ∧ w'.cell? ⟨b, 7, none⟩ = some y ∧ w'.cell? ⟨b, 8, none⟩ = some z :=
  ⟨(h.cell (p := ⟨b, 6, none⟩) hb).trans hx, (h.cell (p := ⟨b, 7, none⟩) hb).trans hy, (h.cell (p := ⟨b, 8, none⟩) hb).trans hz⟩

theorem Cl.frz3 {W w' : World} (h : Cl W w') {b : Nat} (f0 : W.frozen? ⟨b, 3, none⟩ = false) (f1 : W.frozen? ⟨b, 4, none⟩ = false) (f2 : W.frozen? ⟨b, 5, none⟩ = false) (hb : b < W.heap.size) :
    w'.frozen? ⟨b, 3, none⟩ = false ∧ w'.frozen? ⟨b, 4, none⟩ = false ∧ w'.frozen? ⟨b, 5, none⟩ = false :=
  ⟨(h.frozen (p := ⟨b, 3, none⟩) hb).trans f0, (h.frozen (p := ⟨b, 4, none⟩) hb).trans f1, (h.frozen (p := ⟨b, 5, none⟩) hb).trans f2⟩

theorem Cl.frz6 {W w' : World} (h : Cl W w') {b : Nat} (f0 : W.frozen? ⟨b, 6, none⟩ = false) (f1 : W.frozen? ⟨b, 7, none⟩ = false) (f2 : W.frozen? ⟨b, 8, none⟩ = false) (hb : b < W.heap.size) :
    w'.frozen? ⟨b, 6, none⟩ = false ∧ w'.frozen? ⟨b, 7, none⟩ = false ∧ w'.frozen? ⟨b, 8, none⟩ = false :=
  ⟨(h.frozen (p := ⟨b, 6, none⟩) hb).trans f0, (h.frozen (p := ⟨b, 7, none⟩) hb).trans f1, (h.frozen (p := ⟨b, 8, none⟩) hb).trans f2⟩

theorem Cl.drew2 {W w : World} (h : Cl W w) : Cl W w.drew := Below.drew h
/-- A step that is not wanted. -/
theorem loose_skip {P : Program} {ops : Array Oper} {C : World → Prop} {Q : Exit → Act → World → Prop} {kd : Option (Value → Prop)} {kds : List (Option (Value → Prop))} {o o2 : Oper} {rest : List Oper} {a : Act} (hw : Region.wanted o (yielded ops a.tmps) = false)
    (hK : ∀ K : Act → Prop, (∀ a, wpLoose P ops C Q kds (o2 :: rest) a → K a) → K (a.put o.dst undef)) : wpLoose P ops C Q (kd :: kds) (o :: o2 :: rest) a :=
  loose_step fun K hk => lStep_skip hw (hK K hk)
end Go.Proofs.Ytagehemimlakpaa.Fl

namespace Go.Proofs.Ytagehemimlakpaa
open Go.RowKit Fl

abbrev w1m : Nat := 13830554455654793216
abbrev w1p : Nat := 4607182418800017408
def sideF (z : Nat) : Nat := if ford z 0 == some .lt then w1m else w1p

/-- A frame, up to which NaN. -/
def isFr (tx ty tz bx bY bz nx ny nz : Nat) (v : Value) : Prop := ∃ a b c d e f g h i, v = .agg #[.float .f64 a, .float .f64 b, .float .f64 c, .float .f64 d, .float .f64 e, .float .f64 f, .float .f64 g, .float .f64 h, .float .f64 i] ∧ Eqv a tx ∧ Eqv b ty ∧ Eqv c tz ∧ Eqv d bx ∧ Eqv e bY ∧ Eqv f bz ∧ Eqv g nx ∧ Eqv h ny ∧ Eqv i nz


abbrev frA (z : Nat) : Nat := fdiv w1m (fadd (sideF z) z)

end Go.Proofs.Ytagehemimlakpaa

namespace Go.Proofs.Ytagehemimlakpaa
open Go.RowKit Fl

set_option maxRecDepth 100000 in
set_option maxHeartbeats 1000000 in
theorem cos_any (x y z : Nat) (w : World) : Ret Try.prog 21 #[.agg #[.float .f64 x, .float .f64 y, .float .f64 z]] w (fun v => v = .float .f64 z) := by
  unfold Ret
  go_enter Try.func21, Try.ntmps21
  go_wp2_with fail
  go_ret
  exact ⟨_, rfl, rfl, (Below.refl _ _).alloc (Nat.le_refl _) _⟩

def upperB (az bz : Nat) : Bool := ford az 0 == some .gt && ford bz 0 == some .gt

set_option maxRecDepth 100000 in
set_option maxHeartbeats 1000000 in
theorem upper_any (ax ay az bx bY bz : Nat) (w : World) : Ret Try.prog 18 #[.agg #[.float .f64 ax, .float .f64 ay, .float .f64 az], .agg #[.float .f64 bx, .float .f64 bY, .float .f64 bz]] w (fun v => v = .bool (upperB az bz)) := by
  unfold Ret upperB
  have hp : (FloatKind.f64.format.order az 0 == some .gt) = (ford az 0 == some .gt) := rfl
  have hq : (FloatKind.f64.format.order bz 0 == some .gt) = (ford bz 0 == some .gt) := rfl
  generalize (ford az 0 == some .gt) = p at hp ⊢
  generalize (ford bz 0 == some .gt) = q at hq ⊢
  cases p <;> cases q <;>
  · go_enter Try.func18, Try.ntmps18
    go_wp2_with fail
    go_ret
    exact ⟨_, rfl, rfl, ((Below.refl _ _).alloc (Nat.le_refl _) _).alloc (by simp) _⟩

theorem ford_zero_none {z : Nat} (h : ford z 0 = none) : isN z = true := by
  unfold ford Ieee.Format.order at h
  rw [show F64.read 0 = .number false 0 (-1074) from by decide +kernel] at h
  unfold isN
  generalize F64.read z = d at h ⊢
  cases d <;> simp_all [Ieee.Datum.order, Ieee.Datum.isNaN]

theorem neq_self (z : Nat) : (FloatKind.f64.format.order z z != some .eq) = isN z := by
  have := ford_self z
  unfold ford at this
  rw [bne, this, Bool.not_not]

end Go.Proofs.Ytagehemimlakpaa

namespace Go.Proofs.Ytagehemimlakpaa
open Go.RowKit Fl

/-- The density, times the height. -/
def denP (x y z : Nat) : Nat := fmul (fmul two1 (densF (shareF (fabs x) (fabs y)))) z
def denL (o x y z : Nat) : Nat := if upperB o z && numB (denP x y z) then denP x y z else 0
def piW : Nat := 4614256656552045848
/-- What goes out of a colour, each way. -/
def evV (b : Bool) (K : V3) : V3 := cond b ⟨fdiv K.x piW, fdiv K.y piW, fdiv K.z piW⟩ ⟨0, 0, 0⟩
/-- What a direction counts. -/
def weV (p z : Nat) (E : V3) : V3 := (E.scale z).scale (fdiv Fl.w1 p)

theorem twice_num {f : Nat} (hf : Num f) (f0 : 0 ≤ val f) (f1 : val f ≤ 1) : Num (fmul two1 (densF f)) ∧ 0 ≤ val (fmul two1 (densF f)) ∧ val (fmul two1 (densF f)) ≤ 1 := by
  have hd := dl_le
  have hd0 := dl_ge
  obtain ⟨n, d0, d1⟩ := dens_range hf f0 f1
  have e2 := val_two1
  obtain ⟨a, b⟩ := mul_ab num_two1 n (by rw [e2]; unfold Ab; constructor <;> grind)
  rw [e2] at b
  refine ⟨a, ?_, ?_⟩ <;> (unfold Ab at b; grind)
/-- The reference's quotient tells the same product. -/
theorem twice_ref (x y : Nat) : fmul two1 (densF (shareR (absR x) (absR y))) = fmul two1 (densF (shareF (fabs x) (fabs y))) := by
  obtain ⟨nf, ng, f0, f1, ev⟩ := share_same x y
  obtain ⟨_, _, df, _, _, dg, ed⟩ := dens_same nf ng f0 f1 ev
  have r := (dens_range nf f0 f1).2.1
  exact fmul_read rfl (read_same dg df ed.symm (by rw [← ed]; intro h; rw [h] at r; grind))
theorem den_ref (x y z : Nat) : fmul (fmul two1 (densF (shareR (absR x) (absR y)))) z = denP x y z := by
  rw [twice_ref]; rfl
theorem den_num (o x y z : Nat) : numB (denL o x y z) = true := by
  unfold denL
  cases h : (upperB o z && numB (denP x y z))
  · exact num_fin num_zero
  · rw [Bool.and_eq_true] at h; exact h.2
theorem den_nn (o x y z : Nat) : 0 ≤ val (denL o x y z) := by
  unfold denL
  cases h : (upperB o z && numB (denP x y z))
  · show 0 ≤ val 0
    rw [val_zero]; exact Rat.le_refl
  · show 0 ≤ val (denP x y z)
    rw [Bool.and_eq_true] at h
    obtain ⟨h1, h2⟩ := h
    unfold upperB at h1
    rw [Bool.and_eq_true] at h1
    have hz := h1.2
    have hn := num_of_fin h2
    obtain ⟨nf, _, f0, f1, _⟩ := share_same x y
    obtain ⟨nt, t0, _⟩ := twice_num nf f0 f1
    have nn : isN z = false := by
      cases k : isN z
      · rfl
      · rw [ord_nan_left k] at hz; cases hz
    rcases num_or_inf nn with nz | ⟨s, hi⟩
    · rw [gt_val nz num_zero, val_zero] at hz
      have z0 := of_decide_eq_true hz
      obtain ⟨neg, mag, place, e, v⟩ := mul_near nt nz
      have k : Nn (denP x y z) := by
        unfold denP
        rw [e]
        exact nearest_nn (by rw [v]; exact Rat.mul_nonneg t0 (Rat.le_of_lt z0))
      rcases k with k | k
      · exact k.2
      · obtain ⟨_, _, _, r⟩ := hn; rw [r] at k; cases k
    · exfalso
      obtain ⟨s1, m1, e1, r1⟩ := nt
      obtain ⟨s2, m2, e2, r2⟩ := hn
      unfold denP fmul Ieee.Format.mul at r2
      have hr1 : F64.read ((F64.mul two1 (densF (shareF (fabs x) (fabs y)))).getD qnan) = .number s1 m1 e1 := r1
      unfold Ieee.Format.mul at hr1
      rw [hr1, hi] at r2
      simp only [Ieee.Datum.product] at r2
      split at r2
      · simp only [Option.map_none, Option.getD_none] at r2
        have q : isN qnan = true := isN_qnan
        unfold isN at q
        rw [r2] at q
        cases q
      · simp only [Option.map_some, Option.getD_some] at r2
        rw [write_inf] at r2
        cases r2
/-- Comparisons with 0 of what is a number and not below 0. -/
theorem den_tests (o x y z : Nat) : (FloatKind.f64.format.order (denL o x y z) (denL o x y z) == some .eq) = true ∧ (FloatKind.f64.format.order (denL o x y z) 0 == some .gt || FloatKind.f64.format.order (denL o x y z) 0 == some .eq) = true ∧ (FloatKind.f64.format.order (denL o x y z) 0 == some .lt || FloatKind.f64.format.order (denL o x y z) 0 == some .eq) = !(FloatKind.f64.format.order (denL o x y z) 0 == some .gt) := by
  have hn := num_of_fin (den_num o x y z)
  have h0 := den_nn o x y z
  generalize denL o x y z = p at *
  refine ⟨Fl.eq_self hn, ?_⟩
  have g := gt_val hn num_zero
  have l := lt_val hn num_zero
  rw [val_zero] at g l
  obtain ⟨c, hc⟩ := ford_some (not_nan_num hn) (not_nan_num num_zero)
  rw [hc] at g l
  have hc' : FloatKind.f64.format.order p 0 = some c := hc
  rw [hc']
  cases c
  · exfalso
    have := of_decide_eq_true l.symm
    grind
  · exact ⟨rfl, rfl⟩
  · exact ⟨rfl, rfl⟩
/-- The direction that is drawn, and how far up it is. -/
def drX (u v : Nat) : Nat := fmul (secX (cleanF v)) (fsqrt (cleanF u))
def drY (u v : Nat) : Nat := fmul (secY (cleanF v)) (fsqrt (cleanF u))
def drZ (u : Nat) : Nat := fsqrt (fsub Fl.w1 (cleanF u))
def drQ (v : Nat) : Nat := fmul two1 (densF (secF (cleanF v)))
theorem height (u : Nat) : Num (drZ u) ∧ 0 ≤ val (drZ u) ∧ val (drZ u) ≤ 1 := by
  obtain ⟨nc, c0, c1⟩ := clean_num u
  obtain ⟨nd, d0, d1⟩ := unit_sub nc c0 (by grind)
  obtain ⟨a, b, _, _, d⟩ := sqrt_ab nd d0 (by grind)
  exact ⟨a, b, d d1⟩
theorem drawn_num (u v : Nat) : Num (drX u v) ∧ Num (drY u v) ∧ Num (drQ v) ∧ Num (fmul (drQ v) (drZ u)) := by
  have hd := dl_le
  have V := (sect_u v).unit
  obtain ⟨nc, c0, c1⟩ := clean_num u
  obtain ⟨nr, r0, r1⟩ := root_c nc c0 c1
  have ra : Ab (val (fsqrt (cleanF u))) 1 := by unfold Ab; constructor <;> grind
  obtain ⟨nz, z0, z1⟩ := height u
  have za : Ab (val (drZ u)) 1 := by unfold Ab; constructor <;> grind
  obtain ⟨nt, t0, t1⟩ := twice_num (sect_u v).nf (sect_u v).f0 (sect_u v).f1
  have ta : Ab (val (drQ v)) 1 := by
    show Ab (val (fmul two1 (densF (secF (cleanF v))))) 1
    unfold Ab; constructor <;> grind
  refine ⟨(mul_ab V.nx nr ((V.ax.mul ra).mono (by grind))).1, (mul_ab V.ny nr ((V.ay.mul ra).mono (by grind))).1, nt, (mul_ab nt nz ((ta.mul za).mono (by grind))).1⟩
/-- The density that a drawn direction tells, and the draws' own. -/
theorem drawn_near (u v : Nat) (h : 0 < val (cleanF u)) : Num (denP (drX u v) (drY u v) (drZ u)) ∧ Ab (val (denP (drX u v) (drY u v) (drZ u)) - val (fmul (drQ v) (drZ u))) (62 * dl) := by
  obtain ⟨nc, c0, c1⟩ := clean_num u
  obtain ⟨nr, r0, r1⟩ := root_c nc c0 c1
  obtain ⟨_, rl, _⟩ := root_low nc h
  obtain ⟨nz, z0, z1⟩ := height u
  obtain ⟨_, dd, de, db⟩ := back_prod (sect_u v) nr rl r1
  have hd := dl_le
  obtain ⟨nf, _, f0, f1, _⟩ := share_same (drX u v) (drY u v)
  have g1 := dens_range nf f0 f1
  have g2 := (sect_u v).np
  have n2 : Num two2 := num_two2
  obtain ⟨a, b, c⟩ := dens_twice dd de nz z0 z1 (by have := g1.2; show Ab (val (densF (shareF (fabs (drX u v)) (fabs (drY u v))))) 1; unfold Ab; constructor <;> grind) (by have := g2.2; unfold Ab; constructor <;> grind) db
  have e : fmul (densF (secF (cleanF v))) two2 = drQ v := fmul_comm de n2
  rw [e] at c
  exact ⟨a, c⟩
end Go.Proofs.Ytagehemimlakpaa

namespace Go.Proofs.Ytagehemimlakpaa
open Go.RowKit Fl

set_option maxRecDepth 100000 in
set_option maxHeartbeats 1000000 in
theorem rgb_product (x y : Nat) (w : World) : Ret Try.prog 40 #[.float .f64 x, .float .f64 y] w (isF (fmul x y)) := by
  unfold Ret
  go_enter Try.func40, Try.ntmps40
  go_wp2_with fail
  refine upon_mul (Sm.refl _) (Sm.refl _) ?_
  intro r n hr
  go_wp2_with fail
  go_ret
  exact ⟨_, rfl, ⟨r, rfl, hr⟩, below_dr (Below.refl _ _) n⟩

set_option maxRecDepth 100000 in
set_option maxHeartbeats 1000000 in
theorem rgb_scale1 (x k b : Nat) (w : World) (hk : w.cell? ⟨b, 0, none⟩ = some (.float .f64 k)) : Ret Try.prog 39 #[.float .f64 x, .pointer (some ⟨b, 0, none⟩)] w (isF (fmul x k)) := by
  unfold Ret
  go_enter Try.func39, Try.ntmps39
  go_wp2_with fail
  refine Calls.mono (rgb_product _ _ _) ?_
  rintro e w' ⟨v, rfl, ⟨r, rfl, hr⟩, hb⟩
  clear hk
  go_wp2_with fail
  go_ret
  exact ⟨_, rfl, ⟨r, rfl, hr⟩, hb⟩

end Go.Proofs.Ytagehemimlakpaa

namespace Go.Proofs.Ytagehemimlakpaa
open Go.RowKit Fl

set_option maxRecDepth 100000 in
set_option maxHeartbeats 1000000 in
theorem colours_scale (ax ay az k b : Nat) (w : World) (BK : Lp.Bk w b #[.float .f64 k] 22) : Ret Try.prog 38 #[.agg #[.float .f64 ax, .float .f64 ay, .float .f64 az], .func (.func 39) #[] #[.pointer (some ⟨b, 0, none⟩)]] w (isV (fmul ax k) (fmul ay k) (fmul az k)) := by
  unfold Ret
  go_enter Try.func38, Try.ntmps38
  go_wp2_with fail
  refine Lp.settle (fun w' => Lp.Bk w' (b) #[.float .f64 k] 22 ∧ Lp.Bk w' (w.heap.size) #[.float .f64 ax, .float .f64 ay, .float .f64 az] 24 ∧ Lp.Bk w' (w.heap.size + 1) #[.float .f64 0, .float .f64 0, .float .f64 0] 24 ∧ Cl w w') ⟨((BK.alo _).alo _), ((Lp.Bk.al _ _ _).alo _), (Lp.Bk.al1 _ _ _ _), (((Below.refl _ _).alloc (by simp <;> omega) _).alloc (by simp <;> omega) _)⟩ ?_
  rintro v1 ⟨BK, BA, BR, HB⟩
  have kK := BK.cell
  have kA := BA.cell
  have kR := BR.cell
  apply Lp.wp_region_loose _ _ 13 (by kernel_rfl) (by kernel_rfl) (by kernel_rfl) (Below.refl _ _)
  apply Lp.facts
  · intro w1 hw
    exact And.intro (BK.cl hw).cell (And.intro (BA.cl hw).cell ((BR.cl hw).cell))
  intro HF
  iterate 3 (
    apply Lp.one ?_ rfl
    · intro w hw
      obtain ⟨k0, k1, k2⟩ := HF.out _ hw
      go_simp
      exact rfl
    intro K hK
    go_simp
    refine hK.out _ ?_
    clear hK K)
  apply Lp.any rfl
  · intro w hw
    go_simp
    exact Lp.ret (rgb_scale1 _ k b _ ((BK.cl hw).cell 0))
  intro K hK
  rintro v ⟨r1, rfl, h1⟩
  go_simp
  refine hK.out _ ?_
  clear hK K
  iterate 3 (
    apply Lp.one ?_ rfl
    · intro w hw
      obtain ⟨k0, k1, k2⟩ := HF.out _ hw
      go_simp
      exact rfl
    intro K hK
    go_simp
    refine hK.out _ ?_
    clear hK K)
  apply Lp.any rfl
  · intro w hw
    go_simp
    exact Lp.ret (rgb_scale1 _ k b _ ((BK.cl hw).cell 0))
  intro K hK
  rintro v ⟨r2, rfl, h2⟩
  go_simp
  refine hK.out _ ?_
  clear hK K
  iterate 3 (
    apply Lp.one ?_ rfl
    · intro w hw
      obtain ⟨k0, k1, k2⟩ := HF.out _ hw
      go_simp
      exact rfl
    intro K hK
    go_simp
    refine hK.out _ ?_
    clear hK K)
  apply Lp.any rfl
  · intro w hw
    go_simp
    exact Lp.ret (rgb_scale1 _ k b _ ((BK.cl hw).cell 0))
  intro K hK
  rintro v ⟨r3, rfl, h3⟩
  go_simp
  refine hK.out _ ?_
  clear hK K
  iterate 1 (
    apply Lp.one ?_ rfl
    · intro w hw
      obtain ⟨k0, k1, k2⟩ := HF.out _ hw
      go_simp
      exact rfl
    intro K hK
    go_simp
    refine hK.out _ ?_
    clear hK K)
  rotate_left
  exact []
  intro v2 hm
  clear kK kA kR
  replace BK := BK.keep hm
  replace BA := BA.keep hm
  replace BR := BR.keep hm
  replace HB := HB.call hm
  clear hm
  have kK := BK.cell
  have kA := BA.cell
  have kR := BR.cell
  have zR := BR.frz
  go_wp2_with fail
  refine bodyPost_ret (v := .agg #[.float .f64 r1, .float .f64 r2, .float .f64 r3]) (by simp [results, go_sem, kR]) rfl ⟨_, rfl, ⟨_, _, _, rfl, h1, h2, h3⟩, ?_⟩
  repeat (refine Below.setCell ?_ (by dsimp only; omega) _)
  exact HB

set_option maxRecDepth 100000 in
set_option maxHeartbeats 1000000 in
theorem rgb_scale (ax ay az k : Nat) (w : World) : Ret Try.prog 29 #[.agg #[.float .f64 ax, .float .f64 ay, .float .f64 az], .float .f64 k] w (isV (fmul ax k) (fmul ay k) (fmul az k)) := by
  unfold Ret
  go_enter Try.func29, Try.ntmps29
  go_wp2_with fail
  refine Lp.settleC (fun w' => Lp.Bk w' (w.heap.size) #[.float .f64 ax, .float .f64 ay, .float .f64 az] 24 ∧ Lp.Bk w' (w.heap.size + 1) #[.float .f64 k] 22 ∧ Lp.Bk w' (w.heap.size + 1 + 1) #[.float .f64 0, .float .f64 0, .float .f64 0] 24 ∧ Cl w w') ⟨(((Lp.Bk.al _ _ _).alo _).alo _), ((Lp.Bk.al1 _ _ _ _).alo _), (Lp.Bk.al2 _ _ _ _ _), (((Below.refl _ _).alloc (by simp <;> omega) _).alloc (by simp <;> omega) _).alloc (by simp <;> omega) _⟩ ?_
  rintro v1 ⟨BA, BK, BR, HB⟩
  have kA := BA.cell
  have kK := BK.cell
  have kR := BR.cell
  refine Calls.mono (colours_scale _ _ _ _ _ _ BK) ?_
  rintro e v2 ⟨v, rfl, ⟨r1, r2, r3, rfl, h1, h2, h3⟩, hm⟩
  clear kA kK kR
  replace BA := BA.keep hm
  replace BK := BK.keep hm
  replace BR := BR.keep hm
  replace HB := HB.call hm
  clear hm
  have kA := BA.cell
  have kK := BK.cell
  have kR := BR.cell
  have zR := BR.frz
  go_wp2_with fail
  refine bodyPost_ret (v := .agg #[.float .f64 r1, .float .f64 r2, .float .f64 r3]) (by simp [results, go_sem, kR]) rfl ⟨_, rfl, ⟨_, _, _, rfl, h1, h2, h3⟩, ?_⟩
  repeat (refine Below.setCell ?_ (by dsimp only; omega) _)
  exact HB

end Go.Proofs.Ytagehemimlakpaa
