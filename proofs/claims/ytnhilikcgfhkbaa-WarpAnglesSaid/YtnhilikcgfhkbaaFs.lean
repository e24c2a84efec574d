/- How far a written word is from what was written. -/
import Derived.Test.YtnhilikcgfhkbaaFr
namespace Go.Proofs.Ytnhilikcgfhkbaa.Fl

theorem rat_div {D a b : Rat} (hD : 0 < D) (h : D * a ≤ D * b) : a ≤ b := Rat.le_of_mul_le_mul_left h hD

abbrev lastP (mag : Nat) (place : Int) : Int := max (place + mag.log2 - 52) (-1074)
abbrev kept (neg : Bool) (mag : Nat) (place : Int) : Nat := Ieee.Toward.even.cut neg (mag <<< (place - lastP mag place).toNat) (lastP mag place - place).toNat

theorem nearest_eq (neg : Bool) (mag : Nat) (place : Int) (h : mag ≠ 0) :
    F64.nearest neg mag place = F64.word neg (min ((lastP mag place + 1074).toNat * 4503599627370496 + kept neg mag place) 9218868437227405312) := by
  unfold Ieee.Format.nearest
  rw [if_neg h, lp, bn, ir]
  rfl

/-- The kept digits, and how far they are off. -/
theorem kept_bounds (neg : Bool) (mag : Nat) (place : Int) (h : mag ≠ 0) :
    kept neg mag place ≤ 9007199254740992 ∧ ((lastP mag place + 1074).toNat = 0 ∨ 4503599627370496 ≤ kept neg mag place) := by
  unfold kept
  obtain ⟨c1, c2⟩ := cut_err neg (mag <<< (place - lastP mag place).toNat) (lastP mag place - place).toNat
  generalize Ieee.Toward.even.cut neg _ _ = k at c1 c2 ⊢
  rw [Nat.shiftLeft_eq] at c1 c2
  have l1 : 2 ^ mag.log2 ≤ mag := Nat.log2_self_le h
  have l2 : mag < 2 ^ (mag.log2 + 1) := Nat.lt_log2_self
  have hl : lastP mag place = max (place + mag.log2 - 52) (-1074) := rfl
  generalize lastP mag place = last at c1 c2 hl ⊢
  generalize hu : (place - last).toNat = up at c1 c2
  generalize hd : (last - place).toNat = drop at c1 c2
  have hp : 0 < 2 ^ drop := Nat.two_pow_pos drop
  constructor
  · have b1 : mag * 2 ^ up < 9007199254740992 * 2 ^ drop := by
      have e1 : mag * 2 ^ up < 2 ^ (mag.log2 + 1) * 2 ^ up := Nat.mul_lt_mul_of_pos_right l2 (Nat.two_pow_pos up)
      have e2 : 2 ^ (mag.log2 + 1) * 2 ^ up ≤ 2 ^ 53 * 2 ^ drop := by
        rw [← Nat.pow_add, ← Nat.pow_add]
        exact Nat.pow_le_pow_right (by decide) (by omega)
      exact Nat.lt_of_lt_of_le e1 e2
    have b2 : k * 2 ^ drop < 9007199254740993 * 2 ^ drop := by omega
    have := Nat.lt_of_mul_lt_mul_right b2
    omega
  · by_cases hz : (last + 1074).toNat = 0
    · exact Or.inl hz
    · right
      have b1 : 4503599627370496 * 2 ^ drop ≤ mag * 2 ^ up := by
        have e1 : 2 ^ mag.log2 * 2 ^ up ≤ mag * 2 ^ up := Nat.mul_le_mul_right _ l1
        have e2 : 2 ^ 52 * 2 ^ drop ≤ 2 ^ mag.log2 * 2 ^ up := by
          rw [← Nat.pow_add, ← Nat.pow_add]
          exact Nat.pow_le_pow_right (by decide) (by omega)
        exact Nat.le_trans e2 e1
      have b2 : 4503599627370495 * 2 ^ drop < k * 2 ^ drop := by omega
      have := Nat.lt_of_mul_lt_mul_right b2
      omega

/-- What is kept, as a number. -/
theorem kept_val (neg : Bool) (mag : Nat) (place : Int) :
    2 * ((kept neg mag place : Rat) * 2 ^ lastP mag place) ≤ 2 * ((mag : Rat) * 2 ^ place) + 2 ^ lastP mag place ∧
    2 * ((mag : Rat) * 2 ^ place) ≤ 2 * ((kept neg mag place : Rat) * 2 ^ lastP mag place) + 2 ^ lastP mag place := by
  unfold kept
  obtain ⟨c1, c2⟩ := cut_err neg (mag <<< (place - lastP mag place).toNat) (lastP mag place - place).toNat
  generalize Ieee.Toward.even.cut neg _ _ = k at c1 c2 ⊢
  rw [Nat.shiftLeft_eq] at c1 c2
  generalize lastP mag place = last at c1 c2 ⊢
  generalize hu : (place - last).toNat = up at c1 c2
  generalize hd : (last - place).toNat = drop at c1 c2
  have hD := p2_pos (drop : Int)
  have hL := p2_pos last
  have key : (2 : Rat) ^ (up : Int) * 2 ^ last = 2 ^ place * 2 ^ (drop : Int) := by
    rw [← p2_add, ← p2_add]
    congr 1
    omega
  have c1' : (2 : Rat) * (k * 2 ^ (drop : Int)) ≤ 2 * (mag * 2 ^ (up : Int)) + 2 ^ (drop : Int) := by
    rw [p2_nat, p2_nat]
    exact_mod_cast c1
  have c2' : (2 : Rat) * (mag * 2 ^ (up : Int)) ≤ 2 * (k * 2 ^ (drop : Int)) + 2 ^ (drop : Int) := by
    rw [p2_nat, p2_nat]
    exact_mod_cast c2
  have d1 := Rat.mul_le_mul_of_nonneg_right c1' (Rat.le_of_lt hL)
  have d2 := Rat.mul_le_mul_of_nonneg_right c2' (Rat.le_of_lt hL)
  generalize (2 : Rat) ^ (drop : Int) = D at *
  generalize (2 : Rat) ^ last = L at *
  generalize (2 : Rat) ^ place = P at *
  generalize (2 : Rat) ^ (up : Int) = U at *
  constructor
  · refine rat_div hD ?_
    have e1 : D * (2 * ((k : Rat) * L)) = 2 * (k * D) * L := by grind
    have e2 : D * (2 * ((mag : Rat) * P) + L) = (2 * (mag * U) + D) * L := by grind
    rw [e1, e2]; exact d1
  · refine rat_div hD ?_
    have e1 : D * (2 * ((mag : Rat) * P)) = 2 * (mag * U) * L := by grind
    have e2 : D * (2 * ((k : Rat) * L) + L) = (2 * (k * D) + D) * L := by grind
    rw [e1, e2]; exact d2

theorem mag_nonneg (mag : Nat) (place : Int) : (0 : Rat) ≤ mag * 2 ^ place :=
  Rat.mul_nonneg (by exact_mod_cast Nat.zero_le mag) (Rat.le_of_lt (p2_pos place))

/-- The last place, by the number itself. -/
theorem last_le (mag : Nat) (place : Int) (h : mag ≠ 0) : (2 : Rat) ^ lastP mag place ≤ mag * 2 ^ place * 2 ^ (-52 : Int) + 2 ^ (-1074 : Int) := by
  have hn := mag_nonneg mag place
  have h52 := p2_pos (-52)
  have h74 := p2_pos (-1074)
  have hm := Rat.mul_nonneg hn (Rat.le_of_lt h52)
  rcases Int.le_total (place + mag.log2 - 52) (-1074) with hl | hl
  · rw [show lastP mag place = -1074 from Int.max_eq_right hl]
    grind
  · rw [show lastP mag place = place + mag.log2 - 52 from Int.max_eq_left hl, Int.sub_eq_add_neg, p2_add, p2_add]
    have l1 : ((2 ^ mag.log2 : Nat) : Rat) ≤ mag := by exact_mod_cast Nat.log2_self_le h
    rw [← p2_nat] at l1
    have l2 := Rat.mul_le_mul_of_nonneg_left l1 (Rat.le_of_lt (p2_pos place))
    have l3 := Rat.mul_le_mul_of_nonneg_right l2 (Rat.le_of_lt h52)
    grind

/-- What is written is a number where it is not too great. -/
theorem nearest_num (neg : Bool) (mag : Nat) (place : Int) (h : (mag : Rat) * 2 ^ place ≤ 64) : Num (F64.nearest neg mag place) := by
  by_cases h0 : mag = 0
  · subst h0
    have : F64.nearest neg 0 place = F64.word neg 0 := by unfold Ieee.Format.nearest; rw [if_pos rfl]
    rw [this]
    have := read_word neg 0 (by decide)
    exact ⟨_, _, _, this⟩
  · rw [nearest_eq neg mag place h0]
    obtain ⟨b1, b2⟩ := kept_bounds neg mag place h0
    have hl : place + mag.log2 ≤ 6 := by
      by_cases hg : place + mag.log2 ≤ 6
      · exact hg
      · exfalso
        have l1 : ((2 ^ mag.log2 : Nat) : Rat) ≤ mag := by exact_mod_cast Nat.log2_self_le h0
        rw [← p2_nat] at l1
        have l2 := Rat.mul_le_mul_of_nonneg_left l1 (Rat.le_of_lt (p2_pos place))
        rw [← p2_add] at l2
        have l3 := p2_le (show (7 : Int) ≤ place + mag.log2 by omega)
        have l4 : (2 : Rat) ^ (7 : Int) = 128 := by decide +kernel
        grind
    have hE : (lastP mag place + 1074).toNat ≤ 1028 := by
      have : lastP mag place = max (place + mag.log2 - 52) (-1074) := rfl
      omega
    generalize (lastP mag place + 1074).toNat = E at *
    generalize kept neg mag place = k at *
    rw [Nat.min_eq_left (by omega)]
    obtain ⟨m, e, he, _⟩ := rung_val neg E k b1 b2 (by omega)
    exact ⟨_, _, _, he⟩

/-- WHAT IS WRITTEN IS AS NEAR AS SO MANY DIGITS LET IT BE. -/
theorem nearest_val (neg : Bool) (mag : Nat) (place : Int) (h : Num (F64.nearest neg mag place)) :
    ∃ V, val (F64.nearest neg mag place) = sg neg V ∧ 0 ≤ V ∧ V ≤ mag * 2 ^ place + mag * 2 ^ place * 2 ^ (-53 : Int) + 2 ^ (-1075 : Int) ∧ mag * 2 ^ place ≤ V + mag * 2 ^ place * 2 ^ (-53 : Int) + 2 ^ (-1075 : Int) := by
  have hn := mag_nonneg mag place
  have h53 := p2_pos (-53)
  have h75 := p2_pos (-1075)
  have hm := Rat.mul_nonneg hn (Rat.le_of_lt h53)
  by_cases h0 : mag = 0
  · subst h0
    have : F64.nearest neg 0 place = F64.word neg 0 := by unfold Ieee.Format.nearest; rw [if_pos rfl]
    rw [this]
    have := read_word neg 0 (by decide)
    rw [if_pos (by decide)] at this
    refine ⟨0, ?_, ?_, ?_, ?_⟩
    · unfold val
      rw [this]
      rw [dval_number]
      congr 1
      exact Rat.zero_mul _
    · exact Rat.le_refl
    · grind
    · have z : ((0 : Nat) : Rat) * 2 ^ place = 0 := Rat.zero_mul _
      grind
  · have hlast := last_le mag place h0
    obtain ⟨k1, k2⟩ := kept_val neg mag place
    obtain ⟨b1, b2⟩ := kept_bounds neg mag place h0
    have hE : ((lastP mag place + 1074).toNat : Int) - 1074 = lastP mag place := by
      have : lastP mag place = max (place + mag.log2 - 52) (-1074) := rfl
      omega
    rw [nearest_eq neg mag place h0] at h ⊢
    rcases Nat.lt_or_ge ((lastP mag place + 1074).toNat * 4503599627370496 + kept neg mag place) 9218868437227405312 with ho | ho
    · rw [Nat.min_eq_left (Nat.le_of_lt ho)]
      obtain ⟨m, e, he, hv⟩ := rung_val neg _ _ b1 b2 ho
      rw [hE] at hv
      refine ⟨kept neg mag place * 2 ^ lastP mag place, ?_, ?_, ?_, ?_⟩
      · unfold val
        rw [he]
        rw [dval_number, hv]
      · exact mag_nonneg _ _
      · have e1 : (2 : Rat) ^ (-52 : Int) = 2 * 2 ^ (-53 : Int) := by decide +kernel
        have e2 : (2 : Rat) ^ (-1074 : Int) = 2 * 2 ^ (-1075 : Int) := by rw [show (-1074 : Int) = 1 + (-1075) by omega, p2_add]; congr 1
        rw [e1, e2] at hlast
        generalize (2 : Rat) ^ (-1075 : Int) = T at *
        generalize (2 : Rat) ^ (-53 : Int) = F at *
        grind
      · have e1 : (2 : Rat) ^ (-52 : Int) = 2 * 2 ^ (-53 : Int) := by decide +kernel
        have e2 : (2 : Rat) ^ (-1074 : Int) = 2 * 2 ^ (-1075 : Int) := by rw [show (-1074 : Int) = 1 + (-1075) by omega, p2_add]; congr 1
        rw [e1, e2] at hlast
        generalize (2 : Rat) ^ (-1075 : Int) = T at *
        generalize (2 : Rat) ^ (-53 : Int) = F at *
        grind
    · rw [Nat.min_eq_right ho] at h
      obtain ⟨s, m, e, hr⟩ := h
      rw [read_inf] at hr
      cases hr
end Go.Proofs.Ytnhilikcgfhkbaa.Fl
