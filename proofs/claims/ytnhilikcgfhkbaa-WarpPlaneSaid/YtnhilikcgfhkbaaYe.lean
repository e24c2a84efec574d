/- Ranges that rounding keeps: a sector's density; a triangle's numbers; numbers that are more often near 0. -/
import Derived.Test.YtnhilikcgfhkbaaYd
namespace Go.Proofs.Ytnhilikcgfhkbaa.Fl

/-- What is written lies between what lies around it. -/
theorem near_le {s t : Bool} {m n : Nat} {e j : Int} (h : dval (.number s m e) ≤ dval (.number t n j)) (hn : Num (F64.nearest s m e)) (hk : Num (F64.nearest t n j)) : val (F64.nearest s m e) ≤ val (F64.nearest t n j) := by
  have l := nearest_mono h
  rw [leB_val hn hk] at l
  exact of_decide_eq_true l
theorem near_hi {s t : Bool} {m n : Nat} {e j : Int} {R : Rat} (hk : Num (F64.nearest t n j)) (hv : val (F64.nearest t n j) = R) (hd : dval (.number t n j) = R) (h : dval (.number s m e) ≤ R) (hn : Num (F64.nearest s m e)) : val (F64.nearest s m e) ≤ R := by
  rw [← hv]; exact near_le (by rw [hd]; exact h) hn hk
theorem near_lo {s t : Bool} {m n : Nat} {e j : Int} {R : Rat} (hk : Num (F64.nearest t n j)) (hv : val (F64.nearest t n j) = R) (hd : dval (.number t n j) = R) (h : R ≤ dval (.number s m e)) (hn : Num (F64.nearest s m e)) : R ≤ val (F64.nearest s m e) := by
  rw [← hv]; exact near_le (by rw [hd]; exact h) hk hn
theorem n_one : Num (F64.nearest false 1 0) := ⟨false, 4503599627370496, -52, by decide +kernel⟩
theorem n_two : Num (F64.nearest false 2 0) := ⟨false, 4503599627370496, -51, by decide +kernel⟩
theorem n_neg : Num (F64.nearest true 1 0) := ⟨true, 4503599627370496, -52, by decide +kernel⟩
theorem n_8th : Num (F64.nearest false 1 (-3)) := ⟨false, 4503599627370496, -55, by decide +kernel⟩
theorem n_4th : Num (F64.nearest false 1 (-2)) := ⟨false, 4503599627370496, -54, by decide +kernel⟩
theorem n_zero : Num (F64.nearest false 0 0) := (nearest_zero false 0).1

/-- An operation whose exact result is from 0 to 1. -/
theorem unit_mul {x y : Nat} (hx : Num x) (hy : Num y) (x0 : 0 ≤ val x) (x1 : val x ≤ 1) (y0 : 0 ≤ val y) (y1 : val y ≤ 1) : Num (fmul x y) ∧ 0 ≤ val (fmul x y) ∧ val (fmul x y) ≤ 1 := by
  have p := Rat.mul_nonneg x0 y0
  have q : val x * val y ≤ 1 := by
    have := Rat.mul_le_mul_of_nonneg_right x1 y0
    grind
  obtain ⟨hn, _⟩ := mul_ab hx hy (by unfold Ab; constructor <;> grind)
  obtain ⟨s, m, e, hf, hv⟩ := mul_near hx hy
  rw [hf] at hn ⊢
  rw [← hv] at p q
  exact ⟨hn, near_lo n_zero (nearest_zero false 0).2 (by decide +kernel) p hn, near_hi n_one (by decide +kernel) (by decide +kernel) q hn⟩
theorem unit_sub {y : Nat} (hy : Num y) (y0 : 0 ≤ val y) (y1 : val y ≤ 1) : Num (fsub w1 y) ∧ 0 ≤ val (fsub w1 y) ∧ val (fsub w1 y) ≤ 1 := by
  obtain ⟨hn, _⟩ := sub_ab num_w1 hy (by rw [val_w1]; unfold Ab; constructor <;> grind)
  obtain ⟨s, m, e, hf, hv⟩ := sub_near num_w1 hy
  rw [val_w1] at hv
  rw [hf] at hn ⊢
  exact ⟨hn, near_lo n_zero (nearest_zero false 0).2 (by decide +kernel) (by rw [hv]; grind) hn, near_hi n_one (by decide +kernel) (by decide +kernel) (by rw [hv]; grind) hn⟩

/-- A triangle's numbers: 1 less r, r times (1 less v), r times v, r the root of u. -/
theorem bary_vals {u v : Nat} (hu : Num u) (u0 : 0 ≤ val u) (u1 : val u ≤ 1) (hv : Num v) (v0 : 0 ≤ val v) (v1 : val v ≤ 1) :
    (Num (fsub w1 (fsqrt u)) ∧ 0 ≤ val (fsub w1 (fsqrt u)) ∧ val (fsub w1 (fsqrt u)) ≤ 1) ∧ (Num (fmul (fsqrt u) (fsub w1 v)) ∧ 0 ≤ val (fmul (fsqrt u) (fsub w1 v)) ∧ val (fmul (fsqrt u) (fsub w1 v)) ≤ 1) ∧ (Num (fmul (fsqrt u) v) ∧ 0 ≤ val (fmul (fsqrt u) v) ∧ val (fmul (fsqrt u) v) ≤ 1) ∧
    Num (fadd (fadd (fsub w1 (fsqrt u)) (fmul (fsqrt u) (fsub w1 v))) (fmul (fsqrt u) v)) ∧ Ab (val (fadd (fadd (fsub w1 (fsqrt u)) (fmul (fsqrt u) (fsub w1 v))) (fmul (fsqrt u) v)) - 1) (8 * dl) := by
  have hd := dl_le
  have hd0 := dl_ge
  obtain ⟨nr, r0, _, _, r1⟩ := sqrt_ab hu u0 (by grind)
  have r1 := r1 u1
  obtain ⟨na, a0, a1⟩ := unit_sub nr r0 r1
  obtain ⟨nw, w0, w11⟩ := unit_sub hv v0 v1
  obtain ⟨nb, b0, b1⟩ := unit_mul nr nw r0 r1 w0 w11
  obtain ⟨nc, c0, c1⟩ := unit_mul nr hv r0 r1 v0 v1
  have ea := (sub_ab num_w1 nr (by rw [val_w1]; unfold Ab; constructor <;> grind)).2
  have ew := (sub_ab num_w1 hv (by rw [val_w1]; unfold Ab; constructor <;> grind)).2
  have p1 := Rat.mul_nonneg r0 w0
  have p2 := Rat.mul_nonneg r0 v0
  have p3 := Rat.mul_le_mul_of_nonneg_right r1 w0
  have p4 := Rat.mul_le_mul_of_nonneg_right r1 v0
  have eb := (mul_ab nr nw (by unfold Ab; constructor <;> grind)).2
  have ec := (mul_ab nr hv (by unfold Ab; constructor <;> grind)).2
  rw [val_w1] at ea ew
  obtain ⟨n1, e1⟩ := add_ab na nb (by unfold Ab; constructor <;> grind)
  obtain ⟨n2, e2⟩ := add_ab n1 nc (by unfold Ab at *; constructor <;> grind)
  refine ⟨⟨na, a0, a1⟩, ⟨nb, b0, b1⟩, ⟨nc, c0, c1⟩, n2, ?_⟩
  have ra : Ab (val (fsqrt u)) 1 := by unfold Ab; constructor <;> grind
  have rw' := ra.mul ew
  have e3 : val (fsqrt u) * (val (fsub w1 v) - (1 - val v)) = val (fsqrt u) * val (fsub w1 v) - val (fsqrt u) + val (fsqrt u) * val v := by grind
  rw [e3] at rw'
  unfold Ab at *
  constructor <;> grind

/-- A sector's density is from an eighth to a quarter. -/
theorem dens_range {f : Nat} (hf : Num f) (f0 : 0 ≤ val f) (f1 : val f ≤ 1) : Num (densF f) ∧ 1 / 8 ≤ val (densF f) ∧ val (densF f) ≤ 1 / 4 := by
  have hd := dl_le
  have hd0 := dl_ge
  obtain ⟨nf, m0, m1⟩ := unit_mul hf hf f0 f1 f0 f1
  obtain ⟨nq, _⟩ := add_ab num_w1 nf (by rw [val_w1]; unfold Ab; constructor <;> grind)
  obtain ⟨s, m, e, hq, hv⟩ := add_near num_w1 nf
  rw [val_w1] at hv
  have q01 : 1 ≤ val (secQ f) ∧ val (secQ f) ≤ 2 := by
    unfold secQ
    rw [hq] at nq ⊢
    exact ⟨near_lo n_one (by decide +kernel) (by decide +kernel) (by rw [hv]; grind) nq, near_hi n_two (by decide +kernel) (by decide +kernel) (by rw [hv]; grind) nq⟩
  have nq' : Num (secQ f) := nq
  obtain ⟨np, _⟩ := mul_ab nq' num_eighth (by rw [val_eighth]; unfold Ab; constructor <;> grind)
  obtain ⟨s2, m2, e2, hp, hv2⟩ := mul_near nq' num_eighth
  rw [val_eighth] at hv2
  unfold densF
  rw [hp] at np ⊢
  exact ⟨np, near_lo n_8th (by decide +kernel) (by decide +kernel) (by rw [hv2]; grind) np, near_hi n_4th (by decide +kernel) (by decide +kernel) (by rw [hv2]; grind) np⟩

/-- The root less 1; 1 less the root. -/
theorem tent_lo {w : Nat} (hw : Num w) (w0 : 0 ≤ val w) (wl : val w ≤ 1) : Num (fsub (fsqrt w) w1) ∧ -1 ≤ val (fsub (fsqrt w) w1) ∧ val (fsub (fsqrt w) w1) ≤ 1 := by
  obtain ⟨nr, r0, _, _, r1⟩ := sqrt_ab hw w0 (by grind)
  have r1 := r1 wl
  obtain ⟨hn, _⟩ := sub_ab nr num_w1 (by rw [val_w1]; unfold Ab; constructor <;> grind)
  obtain ⟨s, m, e, hf, hv⟩ := sub_near nr num_w1
  rw [val_w1] at hv
  rw [hf] at hn ⊢
  exact ⟨hn, near_lo n_neg (by decide +kernel) (by decide +kernel) (by rw [hv]; grind) hn, near_hi n_one (by decide +kernel) (by decide +kernel) (by rw [hv]; grind) hn⟩
theorem tent_hi {w : Nat} (hw : Num w) (w0 : 0 ≤ val w) (wl : val w ≤ 1) : Num (fsub w1 (fsqrt w)) ∧ -1 ≤ val (fsub w1 (fsqrt w)) ∧ val (fsub w1 (fsqrt w)) ≤ 1 := by
  obtain ⟨nr, r0, _, _, r1⟩ := sqrt_ab hw w0 (by grind)
  obtain ⟨n, a, b⟩ := unit_sub nr r0 (r1 wl)
  exact ⟨n, by grind, b⟩
end Go.Proofs.Ytnhilikcgfhkbaa.Fl
