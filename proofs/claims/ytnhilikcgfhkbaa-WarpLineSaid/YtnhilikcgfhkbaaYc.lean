/- Points in the disk and directions in space, of a direction in the plane of length 1: how near their lengths are to what they are to be. -/
import Derived.Test.YtnhilikcgfhkbaaYb
namespace Go.Proofs.Ytnhilikcgfhkbaa.Fl

/-- A pair that is nearly of length 1. -/
structure Unit2 (x y : Nat) : Prop where
  nx : Num x
  ny : Num y
  ax : Ab (val x) (9 / 8)
  ay : Ab (val y) (9 / 8)
  len : Ab (val x * val x + val y * val y - 1) (24 * dl)
theorem Sec.unit {f : Nat} (h : Sec f) : Unit2 (secC f) (secS f) := by
  have hd := dl_le
  have hd0 := dl_ge
  exact ⟨h.nc, h.ns, ⟨by have := h.c0; grind, h.c1⟩, ⟨by have := h.s0; grind, h.s1⟩, h.len⟩
theorem Unit2.swap {x y : Nat} (h : Unit2 x y) : Unit2 y x := ⟨h.ny, h.nx, h.ay, h.ax, by have := h.len; unfold Ab at *; constructor <;> grind⟩
/-- The square of a product, and what rounding does to both. -/
theorem mul_sq {x r : Nat} (hx : Num x) (hr : Num r) (ax : Ab (val x) (9 / 8)) (ar : Ab (val r) (17 / 16)) : Num (fmul x r) ∧ Ab (val (fmul x r)) (6 / 5) ∧ Num (fmul (fmul x r) (fmul x r)) ∧ Ab (val (fmul (fmul x r) (fmul x r)) - val x * val x * (val r * val r)) (4 * dl) := by
  have hd := dl_le
  have hd0 := dl_ge
  have xr := ax.mul ar
  obtain ⟨n1, e1⟩ := mul_ab hx hr (xr.mono (by grind))
  have s0 : Ab (val (fmul x r)) (6 / 5) := by unfold Ab at *; constructor <;> grind
  obtain ⟨n2, e2⟩ := mul_ab n1 n1 ((s0.mul s0).mono (by grind))
  refine ⟨n1, s0, n2, ?_⟩
  have e3 := e1.mul (s0.add xr)
  have e4 : val (fmul x r) * val (fmul x r) - val x * val x * (val r * val r) = (val (fmul x r) - val x * val r) * (val (fmul x r) + val x * val r) := by grind
  have e5 : Ab (val (fmul x r) * val (fmul x r) - val x * val x * (val r * val r)) (3 * dl) := by
    rw [e4]
    exact e3.mono (by grind)
  have e6 := e2.add e5
  have e7 : val (fmul (fmul x r) (fmul x r)) - val (fmul x r) * val (fmul x r) + (val (fmul x r) * val (fmul x r) - val x * val x * (val r * val r)) = val (fmul (fmul x r) (fmul x r)) - val x * val x * (val r * val r) := by grind
  rw [e7] at e6
  exact e6.mono (by grind)
/-- The square of the length of a pair that is nearly of length 1, times r: near to V, where r's square is near to V. -/
theorem pair_sq {x y r : Nat} {V B : Rat} (h : Unit2 x y) (hr : Num r) (r0 : 0 ≤ val r) (hV : Ab (val r * val r - V) B) (hB : B ≤ 1 / 1024) (v1 : V ≤ 1 + 1 / 1024) :
    Num (fadd (fmul (fmul x r) (fmul x r)) (fmul (fmul y r) (fmul y r))) ∧ Ab (val (fadd (fmul (fmul x r) (fmul x r)) (fmul (fmul y r) (fmul y r))) - V) (34 * dl + B) := by
  have hd := dl_le
  have hd0 := dl_ge
  have r1 : Ab (val r) (17 / 16) := Ab.of_sq (by grind) (by unfold Ab at hV; grind)
  obtain ⟨_, sx, nx, ex⟩ := mul_sq h.nx hr h.ax r1
  obtain ⟨_, sy, ny, ey⟩ := mul_sq h.ny hr h.ay r1
  have hl := h.len
  have hR : 0 ≤ val r * val r := Rat.mul_nonneg r0 r0
  have hR1 : Ab (val r * val r) (257 / 256) := by unfold Ab at *; constructor <;> grind
  have el := hl.mul hR1
  have e0 : (val x * val x + val y * val y - 1) * (val r * val r) = val x * val x * (val r * val r) + val y * val y * (val r * val r) - val r * val r := by grind
  rw [e0] at el
  have hp0 : 0 ≤ val x * val x * (val r * val r) := Rat.mul_nonneg (sq_nonneg _) hR
  have hq0 : 0 ≤ val y * val y * (val r * val r) := Rat.mul_nonneg (sq_nonneg _) hR
  have hs : Ab (val (fmul (fmul x r) (fmul x r)) + val (fmul (fmul y r) (fmul y r))) 64 := by unfold Ab at *; constructor <;> grind
  obtain ⟨n, e⟩ := add_ab nx ny hs
  refine ⟨n, ?_⟩
  unfold Ab at *
  constructor <;> grind

/-- What is written of a number not below 0 is not below 0. -/
theorem near_ge0 {s : Bool} {m : Nat} {e : Int} (h : 0 ≤ dval (.number s m e)) (hn : Num (F64.nearest s m e)) : 0 ≤ val (F64.nearest s m e) := by
  obtain ⟨z0, z1⟩ := nearest_zero false 0
  have l0 := nearest_mono (n1 := false) (m1 := 0) (p1 := 0) (n2 := s) (m2 := m) (p2 := e) (by
    rw [dval_number]
    have : sg false (((0 : Nat) : Rat) * 2 ^ (0 : Int)) = 0 := by decide +kernel
    rw [this]; exact h)
  rw [leB_val z0 hn, z1] at l0
  exact of_decide_eq_true l0
theorem sub_ge0 {x y : Nat} (hx : Num x) (hy : Num y) (h : val y ≤ val x) (hn : Num (fsub x y)) : 0 ≤ val (fsub x y) := by
  obtain ⟨s, m, e, hf, hv⟩ := sub_near hx hy
  rw [hf] at hn ⊢
  exact near_ge0 (by rw [hv]; grind) hn

/-- Above a point of the disk: (X times r, Y times r, the root of 1 less u), r the root of u. -/
def hemiN (x y u : Nat) : Nat := fadd (fadd (fmul (fmul x (fsqrt u)) (fmul x (fsqrt u))) (fmul (fmul y (fsqrt u)) (fmul y (fsqrt u)))) (fmul (fsqrt (fsub w1 u)) (fsqrt (fsub w1 u)))
theorem disk_len {x y u : Nat} (h : Unit2 x y) (hu : Num u) (u0 : 0 ≤ val u) (u1 : val u ≤ 1) :
    Num (fadd (fmul (fmul x (fsqrt u)) (fmul x (fsqrt u))) (fmul (fmul y (fsqrt u)) (fmul y (fsqrt u)))) ∧ Ab (val (fadd (fmul (fmul x (fsqrt u)) (fmul x (fsqrt u))) (fmul (fmul y (fsqrt u)) (fmul y (fsqrt u)))) - val u) (35 * dl) := by
  have hd := dl_le
  have hd0 := dl_ge
  obtain ⟨nr, r0, _, er, _⟩ := sqrt_ab hu u0 (by grind)
  obtain ⟨n, e⟩ := pair_sq h nr r0 er (by grind) (by grind)
  exact ⟨n, e.mono (by grind)⟩
theorem hemi_len {x y u : Nat} (h : Unit2 x y) (hu : Num u) (u0 : 0 ≤ val u) (u1 : val u ≤ 1) : Num (hemiN x y u) ∧ Ab (val (hemiN x y u) - 1) (39 * dl) ∧ Num (fsqrt (fsub w1 u)) ∧ 0 ≤ val (fsqrt (fsub w1 u)) := by
  have hd := dl_le
  have hd0 := dl_ge
  obtain ⟨n, e⟩ := disk_len h hu u0 u1
  obtain ⟨n1, e1⟩ := sub_ab num_w1 hu (by rw [val_w1]; unfold Ab; constructor <;> grind)
  rw [val_w1] at e1
  have z0 := sub_ge0 num_w1 hu (by rw [val_w1]; exact u1) n1
  have z1 : val (fsub w1 u) ≤ 2 := by unfold Ab at e1; grind
  obtain ⟨nz, s0, s3, ez, _⟩ := sqrt_ab n1 z0 (by grind)
  have sz := sq_nonneg (val (fsqrt (fsub w1 u)))
  obtain ⟨nzz, ezz⟩ := mul_ab nz nz (by unfold Ab at *; constructor <;> grind)
  have hs : Ab (val (fadd (fmul (fmul x (fsqrt u)) (fmul x (fsqrt u))) (fmul (fmul y (fsqrt u)) (fmul y (fsqrt u)))) + val (fmul (fsqrt (fsub w1 u)) (fsqrt (fsub w1 u)))) 64 := by unfold Ab at *; constructor <;> grind
  obtain ⟨nn, en⟩ := add_ab n nzz hs
  refine ⟨nn, ?_, nz, s0⟩
  unfold hemiN
  unfold Ab at *
  constructor <;> grind

/-- All around: (X times r, Y times r, Z), Z from -1 to 1 and r the root of 1 less Z times Z (of 0, if that is below 0). -/
theorem ball_len {x y z q r : Nat} (h : Unit2 x y) (hz : Num z) (az : Ab (val z) (1 + 4 * dl)) (hq : q = fsub w1 (fmul z z)) (hr : r = fsqrt (if (ford q 0 == some .lt) = true then 0 else q)) :
    Num q ∧ Num (fadd (fadd (fmul (fmul x r) (fmul x r)) (fmul (fmul y r) (fmul y r))) (fmul z z)) ∧ Ab (val (fadd (fadd (fmul (fmul x r) (fmul x r)) (fmul (fmul y r) (fmul y r))) (fmul z z)) - 1) (54 * dl) := by
  have hd := dl_le
  have hd0 := dl_ge
  have hdd : dl * dl ≤ dl * (1 / 1048576) := Rat.mul_le_mul_of_nonneg_left hd hd0
  have hdd0 : 0 ≤ dl * dl := Rat.mul_nonneg hd0 hd0
  have zz := az.mul az
  have z0 := sq_nonneg (val z)
  have z1 : val z * val z ≤ 1 + 9 * dl := by unfold Ab at zz; grind
  obtain ⟨n1, e1⟩ := mul_ab hz hz (by unfold Ab; constructor <;> grind)
  obtain ⟨n2, e2⟩ := sub_ab num_w1 n1 (by rw [val_w1]; unfold Ab at *; constructor <;> grind)
  rw [val_w1] at e2
  rw [← hq] at n2 e2
  obtain ⟨p, hp⟩ : ∃ p, p = if (ford q 0 == some .lt) = true then 0 else q := ⟨_, rfl⟩
  rw [← hp] at hr
  have hlt := lt_val n2 num_zero
  rw [val_zero] at hlt
  have hpp : Num p ∧ 0 ≤ val p ∧ Ab (val p - (1 - val z * val z)) (13 * dl) := by
    rw [hp, hlt]
    by_cases k : val q < 0
    · rw [decide_eq_true k, if_pos rfl]
      refine ⟨num_zero, by rw [val_zero]; exact Rat.le_refl, ?_⟩
      rw [val_zero]
      unfold Ab at *
      constructor <;> grind
    · rw [decide_eq_false k, if_neg (by simp)]
      refine ⟨n2, by grind, ?_⟩
      unfold Ab at *
      constructor <;> grind
  obtain ⟨np, p0, ep⟩ := hpp
  obtain ⟨nr, r0, _, er, _⟩ := sqrt_ab np p0 (by unfold Ab at ep; grind)
  rw [← hr] at nr r0 er
  have er2 : Ab (val r * val r - (1 - val z * val z)) (14 * dl) := by unfold Ab at *; constructor <;> grind
  obtain ⟨n3, e3⟩ := pair_sq h nr r0 er2 (by grind) (by grind)
  have hs : Ab (val (fadd (fmul (fmul x r) (fmul x r)) (fmul (fmul y r) (fmul y r))) + val (fmul z z)) 64 := by unfold Ab at *; constructor <;> grind
  obtain ⟨nn, en⟩ := add_ab n3 n1 hs
  refine ⟨n2, nn, ?_⟩
  unfold Ab at *
  constructor <;> grind
end Go.Proofs.Ytnhilikcgfhkbaa.Fl
