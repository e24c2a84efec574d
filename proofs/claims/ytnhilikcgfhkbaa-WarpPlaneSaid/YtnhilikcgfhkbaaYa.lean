/- Square roots of floats, as rational numbers: the root's square is near what it is the root of. -/
import Derived.Test.YtnhilikcgfhkbaaFw
import Derived.Test.YtnhilikcgfhkbaaFp
namespace Go.Proofs.Ytnhilikcgfhkbaa.Fl

theorem root_spec (n : Nat) : ∀ (todo root : Nat), root * root ≤ n → n < (root + 2 ^ todo) * (root + 2 ^ todo) →
    Ieee.Datum.rootFrom n todo root * Ieee.Datum.rootFrom n todo root ≤ n ∧ n < (Ieee.Datum.rootFrom n todo root + 1) * (Ieee.Datum.rootFrom n todo root + 1)
  | 0, root, h1, h2 => by simp only [Ieee.Datum.rootFrom]; exact ⟨h1, by simpa using h2⟩
  | todo + 1, root, h1, h2 => by
    simp only [Ieee.Datum.rootFrom, Nat.one_shiftLeft]
    split
    · rename_i h
      refine root_spec n todo _ h ?_
      rw [show root + 2 ^ todo + 2 ^ todo = root + 2 ^ (todo + 1) by rw [Nat.pow_succ]; omega]
      exact h2
    · rename_i h
      exact root_spec n todo _ h1 (by omega)
theorem root_is (n : Nat) : ∃ w, w = Ieee.Datum.rootFrom n (n.log2 / 2 + 1) 0 ∧ w * w ≤ n ∧ n < (w + 1) * (w + 1) := by
  refine ⟨_, rfl, root_spec n _ 0 (Nat.zero_le _) ?_⟩
  rw [Nat.zero_add, ← Nat.pow_add]
  have h1 : n < 2 ^ (n.log2 + 1) := Nat.lt_log2_self
  have h2 : 2 ^ (n.log2 + 1) ≤ 2 ^ (n.log2 / 2 + 1 + (n.log2 / 2 + 1)) := Nat.pow_le_pow_right (by decide) (by omega)
  omega
/-- Twice the root and a bit: its square beside four times n. -/
theorem twice_root {n w s : Nat} (h1 : w * w ≤ n) (h2 : n < (w + 1) * (w + 1)) (hs : s = (w * w != n).toNat) : (2 * w + s) * (2 * w + s) ≤ 4 * n + 4 * w ∧ 4 * n ≤ (2 * w + s) * (2 * w + s) + 4 * w := by
  have e1 : (w + 1) * (w + 1) = w * w + 2 * w + 1 := by grind
  rw [e1] at h2
  by_cases h : w * w = n
  · have : s = 0 := by rw [hs, h]; simp
    subst this
    have e2 : (2 * w + 0) * (2 * w + 0) = 4 * (w * w) := by grind
    rw [e2]
    omega
  · have : s = 1 := by rw [hs]; simp [h]
    subst this
    have e2 : (2 * w + 1) * (2 * w + 1) = 4 * (w * w) + 4 * w + 1 := by grind
    rw [e2]
    generalize w * w = g at *
    omega

/-- Half of twice the root and its bit is at most 2 ^ t, where n is at most its square. -/
theorem twice_le {n w s t : Nat} (h1 : w * w ≤ n) (hs : s = (w * w != n).toNat) (h : n ≤ 2 ^ t * 2 ^ t) : 2 * w + s ≤ 2 * 2 ^ t := by
  by_cases e : w * w = n
  · have : s = 0 := by rw [hs, e]; simp
    subst this
    rcases Nat.lt_or_ge (2 ^ t) w with k | k
    · have := Nat.mul_le_mul (show 2 ^ t + 1 ≤ w from k) (show 2 ^ t + 1 ≤ w from k)
      have e2 : (2 ^ t + 1) * (2 ^ t + 1) = 2 ^ t * 2 ^ t + 2 * 2 ^ t + 1 := by grind
      omega
    · omega
  · have : s = 1 := by rw [hs]; simp [e]
    subst this
    rcases Nat.lt_or_ge w (2 ^ t) with k | k
    · omega
    · have := Nat.mul_le_mul k k
      omega

theorem sqrt_near {x : Nat} (hx : Num x) (h0 : 0 < val x) : ∃ mag place, fsqrt x = F64.nearest false mag place ∧
    (mag : Rat) * 2 ^ place * ((mag : Rat) * 2 ^ place) ≤ val x + val x * ev ∧ val x ≤ (mag : Rat) * 2 ^ place * ((mag : Rat) * 2 ^ place) + val x * ev ∧ (val x ≤ 1 → (mag : Rat) * 2 ^ place ≤ 1) := by
  obtain ⟨s, m, i, hx⟩ := hx
  have hvx : val x = sg s ((m : Rat) * 2 ^ i) := by unfold val; rw [hx, dval_number]
  have p := mag_nonneg m i
  have hs : s = false := by
    cases s
    · rfl
    · rw [hvx] at h0; simp only [sg, if_true] at h0; exfalso; grind
  subst hs
  simp only [sg, Bool.false_eq_true, if_false] at hvx
  have hm : m ≠ 0 := by
    rintro rfl
    rw [hvx] at h0
    have : ((0 : Nat) : Rat) * 2 ^ i = 0 := Rat.zero_mul _
    rw [this] at h0
    exact absurd h0 (by decide)
  have hb := (number_bounds hx).1
  have hlog : m.log2 < 53 := (Nat.log2_lt hm).2 (by omega)
  generalize hmore0 : 108 - m.log2 = more0
  generalize hmore : more0 + ((i - (more0 : Int)) % 2).toNat = more
  obtain ⟨w, hw, w1, w2⟩ := root_is (m <<< more)
  have hpar : (i - (more : Int)) % 2 = 0 := by omega
  obtain ⟨h, hh⟩ : ∃ h : Int, i - (more : Int) = 2 * h := ⟨(i - more) / 2, by omega⟩
  have hbig : 18014398509481984 ≤ w := by
    have l1 : 2 ^ m.log2 ≤ m := Nat.log2_self_le hm
    have l2 : 2 ^ 108 ≤ m <<< more := by
      rw [Nat.shiftLeft_eq]
      have e1 : 2 ^ m.log2 * 2 ^ more ≤ m * 2 ^ more := Nat.mul_le_mul_right _ l1
      have e2 : 2 ^ 108 ≤ 2 ^ m.log2 * 2 ^ more := by
        rw [← Nat.pow_add]
        exact Nat.pow_le_pow_right (by decide) (by omega)
      exact Nat.le_trans e2 e1
    rcases Nat.lt_or_ge w 18014398509481984 with h | h
    · exfalso
      have : (w + 1) * (w + 1) ≤ 18014398509481984 * 18014398509481984 := Nat.mul_le_mul (by omega) (by omega)
      have e : (18014398509481984 : Nat) * 18014398509481984 = 2 ^ 108 := by decide +kernel
      omega
    · exact h
  obtain ⟨k1, k2⟩ := twice_root w1 w2 rfl
  have hwn : w * 18014398509481984 ≤ m <<< more := Nat.le_trans (Nat.mul_le_mul_left _ hbig) w1
  refine ⟨2 * w + (w * w != m <<< more).toNat, h - 1, ?_, ?_⟩
  · unfold fsqrt Ieee.Format.sqrt
    have hf : F64.fractionBits + 2 = 54 := by decide +kernel
    rw [hx, hf]
    simp only [Ieee.Datum.root, hm, if_false, Bool.false_eq_true, Option.map_some, Option.getD_some]
    rw [show 2 * 54 = 108 from rfl, hmore0, hmore, ← hw]
    rw [show (i - (more : Int)) / 2 - 1 = h - 1 by omega]
    rfl
  · have hle := fun t => twice_le (n := m <<< more) (t := t) w1 rfl
    generalize (2 * w + (w * w != m <<< more).toNat) = M at *
    simp only [Nat.shiftLeft_eq] at *
    have hX : val x = ((m * 2 ^ more : Nat) : Rat) * (2 ^ h * 2 ^ h) := by
      rw [hvx, Rat.natCast_mul, ← p2_nat, Rat.mul_assoc, ← p2_add, ← p2_add]
      congr 2
      omega
    have hH := p2_pos h
    have e4 : (2 : Rat) ^ (h - 1) * 2 = 2 ^ h := by
      have := p2_add (h - 1) 1
      rw [show h - 1 + 1 = h by omega] at this
      have z : (2 : Rat) ^ (1 : Int) = 2 := by decide +kernel
      rw [z] at this
      exact this.symm
    have hone : val x ≤ 1 → (M : Rat) * 2 ^ (h - 1) ≤ 1 := by
      intro hx1
      have hn0 : 1 ≤ m * 2 ^ more := by omega
      have hneg : h ≤ 0 := by
        rcases Int.lt_or_le 0 h with k | k
        · exfalso
          have l1 : (2 : Rat) ≤ 2 ^ h := by
            have := p2_le (show (1 : Int) ≤ h by omega)
            have z : (2 : Rat) ^ (1 : Int) = 2 := by decide +kernel
            rwa [z] at this
          have l2 : (1 : Rat) ≤ ((m * 2 ^ more : Nat) : Rat) := by exact_mod_cast hn0
          have l3 := Rat.mul_nonneg (show (0 : Rat) ≤ 2 ^ h - 2 by grind) (show (0 : Rat) ≤ 2 ^ h by grind)
          have l4 := Rat.mul_nonneg (show (0 : Rat) ≤ ((m * 2 ^ more : Nat) : Rat) - 1 by grind) (show (0 : Rat) ≤ 2 ^ h * 2 ^ h by grind)
          rw [hX] at hx1
          grind
        · exact k
      obtain ⟨t, ht⟩ : ∃ t : Nat, h = -(t : Int) := ⟨(-h).toNat, by omega⟩
      have ht2 : (2 : Rat) ^ h * 2 ^ (t : Int) = 1 := by
        rw [← p2_add, ht, show -(t : Int) + t = 0 by omega]
        decide +kernel
      have hT := p2_pos (t : Int)
      have hnt : m * 2 ^ more ≤ 2 ^ t * 2 ^ t := by
        have l1 : ((m * 2 ^ more : Nat) : Rat) ≤ ((2 ^ t * 2 ^ t : Nat) : Rat) := by
          rw [Rat.natCast_mul (2 ^ t) (2 ^ t), ← p2_nat]
          rw [hX] at hx1
          have l2 := Rat.mul_le_mul_of_nonneg_right hx1 (Rat.le_of_lt (Rat.mul_pos hT hT))
          have l3 : ((m * 2 ^ more : Nat) : Rat) * (2 ^ h * 2 ^ h) * (2 ^ (t : Int) * 2 ^ (t : Int)) = ((m * 2 ^ more : Nat) : Rat) * ((2 ^ h * 2 ^ (t : Int)) * (2 ^ h * 2 ^ (t : Int))) := by grind
          rw [l3, ht2] at l2
          grind
        exact_mod_cast l1
      have hM := hle t hnt
      have hM2 : (M : Rat) ≤ 2 * 2 ^ (t : Int) := by rw [p2_nat]; exact_mod_cast hM
      have l5 := Rat.mul_le_mul_of_nonneg_right hM2 (Rat.le_of_lt (p2_pos (h - 1)))
      have l6 : (2 : Rat) * 2 ^ (t : Int) * 2 ^ (h - 1) = 2 ^ (t : Int) * (2 ^ (h - 1) * 2) := by grind
      rw [l6, e4] at l5
      grind
    generalize m * 2 ^ more = n at *
    rw [ev_eq]
    have k1' : (M : Rat) * M ≤ 4 * n + 4 * w := by exact_mod_cast k1
    have k2' : (4 : Rat) * n ≤ M * M + 4 * w := by exact_mod_cast k2
    have kw : (w : Rat) * 18014398509481984 ≤ n := by exact_mod_cast hwn
    refine and_assoc.1 ⟨?_, hone⟩
    clear hone hle
    generalize (2 : Rat) ^ h = A at *
    generalize (2 : Rat) ^ (h - 1) = B at *
    subst e4
    have hBB : 0 ≤ B * B := Rat.mul_nonneg (by grind) (by grind)
    rw [hX]
    generalize (M : Rat) = M at *
    generalize (n : Rat) = n at *
    generalize (w : Rat) = w at *
    have q1 := Rat.mul_le_mul_of_nonneg_right k1' hBB
    have q2 := Rat.mul_le_mul_of_nonneg_right k2' hBB
    have q3 := Rat.mul_le_mul_of_nonneg_right kw hBB
    constructor <;> grind

/-- The root of a number from 0 to 4. -/
theorem sqrt_ab {x : Nat} (hx : Num x) (h0 : 0 ≤ val x) (h1 : val x ≤ 4) : Num (fsqrt x) ∧ 0 ≤ val (fsqrt x) ∧ val (fsqrt x) ≤ 3 ∧ Ab (val (fsqrt x) * val (fsqrt x) - val x) dl ∧ (val x ≤ 1 → val (fsqrt x) ≤ 1) := by
  by_cases hz : val x = 0
  · obtain ⟨s, m, i, hr⟩ := hx
    have hvx : val x = sg s ((m : Rat) * 2 ^ i) := by unfold val; rw [hr, dval_number]
    have hm : m = 0 := by
      refine Classical.byContradiction fun hm => ?_
      have h2 : (0 : Rat) < m := by exact_mod_cast Nat.pos_of_ne_zero hm
      have h3 := Rat.mul_pos h2 (p2_pos i)
      rw [hz] at hvx
      cases s <;> simp only [sg, if_true, Bool.false_eq_true, if_false] at hvx <;> grind
    subst hm
    have e : fsqrt x = F64.nearest s 0 i := by
      unfold fsqrt Ieee.Format.sqrt
      rw [hr]
      simp only [Ieee.Datum.root, if_true, Option.map_some, Option.getD_some]
      rfl
    obtain ⟨a, v⟩ := nearest_zero s i
    rw [e, hz]
    refine ⟨a, ?_, ?_, ?_, ?_⟩
    · rw [v]; exact Rat.le_refl
    · rw [v]; decide
    · rw [v]; unfold Ab dl; constructor <;> grind
    · intro _; rw [v]; decide
  · have hp : 0 < val x := by grind
    obtain ⟨mag, place, e, r1, r2, r3⟩ := sqrt_near hx hp
    have p := mag_nonneg mag place
    rw [ev_eq] at r1 r2
    rw [e]
    have hV3 : (mag : Rat) * 2 ^ place ≤ 64 := by
      refine (Ab.of_sq (A := 64) (by grind) ?_).2
      grind
    have hdv : dval (.number false mag place) = (mag : Rat) * 2 ^ place := rfl
    have hn := write_num false mag place (by rw [hdv]; grind) (by rw [hdv]; exact hV3)
    have hv := write_val false mag place hn
    rw [hdv] at hv
    obtain ⟨z0, z1⟩ := nearest_zero false 0
    have l0 := nearest_mono (n1 := false) (m1 := 0) (p1 := 0) (n2 := false) (m2 := mag) (p2 := place) (by
      rw [dval_number, hdv]
      have : sg false (((0 : Nat) : Rat) * 2 ^ (0 : Int)) = 0 := by decide +kernel
      rw [this]; exact p)
    rw [leB_val z0 hn, z1] at l0
    have l0 := of_decide_eq_true l0
    have hone : val x ≤ 1 → val (F64.nearest false mag place) ≤ 1 := by
      intro h
      have n1 : Num (F64.nearest false 1 0) := ⟨false, 4503599627370496, -52, by decide +kernel⟩
      have v1 : val (F64.nearest false 1 0) = 1 := by decide +kernel
      have l1 := nearest_mono (n1 := false) (m1 := mag) (p1 := place) (n2 := false) (m2 := 1) (p2 := 0) (by
        rw [hdv]
        have : dval (.number false 1 0) = 1 := by decide +kernel
        rw [this]; exact r3 h)
      rw [leB_val hn n1, v1] at l1
      exact of_decide_eq_true l1
    generalize (mag : Rat) * 2 ^ place = V at *
    generalize val (F64.nearest false mag place) = R at *
    have V2 : V ≤ 33 / 16 := by
      refine (Ab.of_sq (A := 33 / 16) (by grind) ?_).2
      grind
    have n1 := hv.lo (33 / 16) (by grind) V2
    have n2 := hv.hi (33 / 16) (by grind) V2
    have e2 := et_le
    rw [eu_eq] at n1 n2
    have d1 : Ab (R - V) (1 / 4000000000000000) := by unfold Ab; constructor <;> grind
    have d2 : Ab (R + V) 5 := by unfold Ab; constructor <;> grind
    have d3 := d1.mul d2
    refine ⟨hn, l0, by grind, ?_, hone⟩
    clear hone r3
    unfold Ab dl at *
    constructor <;> grind
end Go.Proofs.Ytnhilikcgfhkbaa.Fl
