/- Rounding keeps order: of written words, of differences, of products. -/
import Derived.Test.YtnhilikcgfhkbaaFo
namespace Go.Proofs.Ytnhilikcgfhkbaa.Fl

/-- Not above. -/
def leB (x y : Nat) : Bool := ford x y == some .lt || ford x y == some .eq

theorem leB_val {x y : Nat} (hx : Num x) (hy : Num y) : leB x y = decide (val x ≤ val y) := le_val hx hy

theorem leB_low {x y : Nat} (hx : F64.read x = .infinity true) (hy : isN y = false) : leB x y = true := by
  unfold leB ford Ieee.Format.order
  unfold isN at hy
  rw [hx]
  generalize F64.read y = d at *
  cases d with
  | number s m e => rfl
  | infinity s => cases s <;> rfl
  | nan s f => cases hy
theorem leB_high {x y : Nat} (hy : F64.read y = .infinity false) (hx : isN x = false) : leB x y = true := by
  unfold leB ford Ieee.Format.order
  unfold isN at hx
  rw [hy]
  generalize F64.read x = d at *
  cases d with
  | number s m e => rfl
  | infinity s => cases s <;> rfl
  | nan s f => cases hx

abbrev rungOf (neg : Bool) (mag : Nat) (place : Int) : Nat := (lastP mag place + 1074).toNat * 4503599627370496 + kept neg mag place

theorem rung_mono {n1 n2 : Bool} {m1 m2 : Nat} {p1 p2 : Int} (h1 : m1 ≠ 0) (h2 : m2 ≠ 0) (h : (m1 : Rat) * 2 ^ p1 ≤ m2 * 2 ^ p2) :
    rungOf n1 m1 p1 ≤ rungOf n2 m2 p2 ∧ (kept n1 m1 p1 : Rat) * 2 ^ lastP m1 p1 ≤ kept n2 m2 p2 * 2 ^ lastP m2 p2 := by
  have hl := last_mono h1 h2 h
  obtain ⟨b1, _⟩ := kept_bounds n1 m1 p1 h1
  obtain ⟨_, c2⟩ := kept_bounds n2 m2 p2 h2
  have g1 : -1074 ≤ lastP m1 p1 := by unfold lastP; omega
  unfold rungOf
  rcases Int.lt_or_eq_of_le hl with hlt | heq
  · have hk : 4503599627370496 ≤ kept n2 m2 p2 := by rcases c2 with c2 | c2 <;> omega
    refine ⟨by omega, ?_⟩
    have e1 : (kept n1 m1 p1 : Rat) ≤ 9007199254740992 := by exact_mod_cast b1
    have e2 : (4503599627370496 : Rat) ≤ kept n2 m2 p2 := by exact_mod_cast hk
    have q := p2_le (show lastP m1 p1 + 1 ≤ lastP m2 p2 by omega)
    have q1 : (2 : Rat) ^ (lastP m1 p1 + 1) = 2 ^ lastP m1 p1 * 2 := by rw [p2_add]; congr 1
    rw [q1] at q
    have hp1 := p2_pos (lastP m1 p1)
    have hp2 := p2_pos (lastP m2 p2)
    have f1 := Rat.mul_le_mul_of_nonneg_right e1 (Rat.le_of_lt hp1)
    have f2 := Rat.mul_le_mul_of_nonneg_right e2 (Rat.le_of_lt hp2)
    grind
  · have hk := kept_mono (n1 := n1) (n2 := n2) heq h
    refine ⟨by omega, ?_⟩
    rw [heq]
    exact Rat.mul_le_mul_of_nonneg_right (by exact_mod_cast hk) (Rat.le_of_lt (p2_pos _))

/-- What a written word is: what is kept, or infinite. -/
theorem nearest_is (neg : Bool) {mag : Nat} {place : Int} (h : mag ≠ 0) :
    (rungOf neg mag place < 9218868437227405312 ∧ Num (F64.nearest neg mag place) ∧ val (F64.nearest neg mag place) = sg neg (kept neg mag place * 2 ^ lastP mag place)) ∨
    (9218868437227405312 ≤ rungOf neg mag place ∧ F64.read (F64.nearest neg mag place) = .infinity neg) := by
  rw [nearest_eq neg mag place h]
  obtain ⟨b1, b2⟩ := kept_bounds neg mag place h
  have hE : ((lastP mag place + 1074).toNat : Int) - 1074 = lastP mag place := by unfold lastP; omega
  rcases Nat.lt_or_ge (rungOf neg mag place) 9218868437227405312 with ho | ho
  · left
    refine ⟨ho, ?_⟩
    rw [Nat.min_eq_left (Nat.le_of_lt ho)]
    obtain ⟨m, e, he, hv⟩ := rung_val neg _ _ b1 b2 ho
    rw [hE] at hv
    refine ⟨⟨_, _, _, he⟩, ?_⟩
    unfold val
    rw [he, dval_number, hv]
  · right
    refine ⟨ho, ?_⟩
    rw [Nat.min_eq_right ho, read_inf]

theorem nearest_zero (neg : Bool) (place : Int) : Num (F64.nearest neg 0 place) ∧ val (F64.nearest neg 0 place) = 0 := by
  have : F64.nearest neg 0 place = F64.word neg 0 := by unfold Ieee.Format.nearest; rw [if_pos rfl]
  rw [this]
  have := read_word neg 0 (by decide)
  rw [if_pos (by decide)] at this
  refine ⟨⟨_, _, _, this⟩, ?_⟩
  unfold val
  rw [this, dval_number]
  have : ((0 : Nat) : Rat) * 2 ^ (-1074 : Int) = 0 := Rat.zero_mul _
  rw [this]
  cases neg <;> simp [sg]

theorem not_nan_num {x : Nat} (h : Num x) : isN x = false := by
  obtain ⟨s, m, e, h⟩ := h
  unfold isN
  rw [h]
  rfl
theorem not_nan_inf {x : Nat} {s : Bool} (h : F64.read x = .infinity s) : isN x = false := by
  unfold isN
  rw [h]
  rfl
theorem nearest_not_nan (neg : Bool) (mag : Nat) (place : Int) : isN (F64.nearest neg mag place) = false := by
  rcases nearest_cases neg mag place with h | h
  · exact not_nan_num h
  · exact not_nan_inf h

/-- ROUNDING KEEPS ORDER. -/
theorem nearest_mono {n1 n2 : Bool} {m1 m2 : Nat} {p1 p2 : Int} (h : dval (.number n1 m1 p1) ≤ dval (.number n2 m2 p2)) : leB (F64.nearest n1 m1 p1) (F64.nearest n2 m2 p2) = true := by
  rw [dval_number, dval_number] at h
  have r1 := mag_nonneg m1 p1
  have r2 := mag_nonneg m2 p2
  have zero_of : ∀ (m : Nat) (p : Int), (m : Rat) * 2 ^ p = 0 → m = 0 := by
    intro m p h0
    by_cases hm : m = 0
    · exact hm
    · exfalso
      have : (0 : Rat) < m := by exact_mod_cast Nat.pos_of_ne_zero hm
      have := Rat.mul_pos this (p2_pos p)
      grind
  have kp : ∀ (n : Bool) (m : Nat) (p : Int), (0 : Rat) ≤ kept n m p * 2 ^ lastP m p := fun n m p => mag_nonneg _ _
  by_cases z1 : m1 = 0
  · subst z1
    obtain ⟨a1, v1⟩ := nearest_zero n1 p1
    have e1 : ((0 : Nat) : Rat) * 2 ^ p1 = 0 := Rat.zero_mul _
    by_cases z2 : m2 = 0
    · subst z2
      obtain ⟨a2, v2⟩ := nearest_zero n2 p2
      rw [leB_val a1 a2, v1, v2]
      exact decide_eq_true Rat.le_refl
    · have hn2 : n2 = false := by
        cases n2
        · rfl
        · exfalso
          rw [e1] at h
          have : (m2 : Rat) * 2 ^ p2 = 0 := by cases n1 <;> simp only [sg, if_true, Bool.false_eq_true, if_false] at h <;> grind
          exact z2 (zero_of _ _ this)
      subst hn2
      rcases nearest_is false (place := p2) z2 with ⟨_, a2, v2⟩ | ⟨_, i2⟩
      · rw [leB_val a1 a2, v1, v2]
        exact decide_eq_true (kp _ _ _)
      · exact leB_high i2 (not_nan_num a1)
  · by_cases z2 : m2 = 0
    · subst z2
      obtain ⟨a2, v2⟩ := nearest_zero n2 p2
      have e2 : ((0 : Nat) : Rat) * 2 ^ p2 = 0 := Rat.zero_mul _
      have hn1 : n1 = true := by
        cases n1
        · exfalso
          rw [e2] at h
          have : (m1 : Rat) * 2 ^ p1 = 0 := by cases n2 <;> simp only [sg, if_true, Bool.false_eq_true, if_false] at h <;> grind
          exact z1 (zero_of _ _ this)
        · rfl
      subst hn1
      rcases nearest_is true (place := p1) z1 with ⟨_, a1, v1⟩ | ⟨_, i1⟩
      · rw [leB_val a1 a2, v1, v2]
        have := kp true m1 p1
        exact decide_eq_true (by simp only [sg, if_true]; grind)
      · exact leB_low i1 (not_nan_num a2)
    · cases n1
      · have hn2 : n2 = false := by
          cases n2
          · rfl
          · exfalso
            simp only [sg, if_true, Bool.false_eq_true, if_false] at h
            exact z1 (zero_of m1 p1 (by grind))
        subst hn2
        simp only [sg, Bool.false_eq_true, if_false] at h
        obtain ⟨hr, hv⟩ := rung_mono (n1 := false) (n2 := false) z1 z2 h
        rcases nearest_is false (place := p2) z2 with ⟨o2, a2, v2⟩ | ⟨_, i2⟩
        · rcases nearest_is false (place := p1) z1 with ⟨_, a1, v1⟩ | ⟨o1, _⟩
          · rw [leB_val a1 a2, v1, v2]
            exact decide_eq_true hv
          · omega
        · exact leB_high i2 (nearest_not_nan _ _ _)
      · cases n2
        · rcases nearest_is true (place := p1) z1 with ⟨_, a1, v1⟩ | ⟨_, i1⟩
          · rcases nearest_is false (place := p2) z2 with ⟨_, a2, v2⟩ | ⟨_, i2⟩
            · rw [leB_val a1 a2, v1, v2]
              have q1 := kp true m1 p1
              have q2 := kp false m2 p2
              exact decide_eq_true (by simp only [sg, if_true, Bool.false_eq_true, if_false]; grind)
            · exact leB_high i2 (nearest_not_nan _ _ _)
          · exact leB_low i1 (nearest_not_nan _ _ _)
        · simp only [sg, if_true] at h
          obtain ⟨hr, hv⟩ := rung_mono (n1 := true) (n2 := true) z2 z1 (show (m2 : Rat) * 2 ^ p2 ≤ m1 * 2 ^ p1 by grind)
          rcases nearest_is true (place := p1) z1 with ⟨o1, a1, v1⟩ | ⟨_, i1⟩
          · rcases nearest_is true (place := p2) z2 with ⟨_, a2, v2⟩ | ⟨o2, _⟩
            · rw [leB_val a1 a2, v1, v2]
              exact decide_eq_true (by simp only [sg, if_true]; grind)
            · omega
          · exact leB_low i1 (nearest_not_nan _ _ _)

theorem add_mono {x y u v : Nat} (hx : Num x) (hy : Num y) (hu : Num u) (hv : Num v) (h : val x + val y ≤ val u + val v) : leB (fadd x y) (fadd u v) = true := by
  obtain ⟨n1, m1, p1, e1, v1⟩ := add_near hx hy
  obtain ⟨n2, m2, p2, e2, v2⟩ := add_near hu hv
  rw [e1, e2]
  exact nearest_mono (by rw [v1, v2]; exact h)
theorem sub_mono {x y u v : Nat} (hx : Num x) (hy : Num y) (hu : Num u) (hv : Num v) (h : val x - val y ≤ val u - val v) : leB (fsub x y) (fsub u v) = true := by
  obtain ⟨n1, m1, p1, e1, v1⟩ := sub_near hx hy
  obtain ⟨n2, m2, p2, e2, v2⟩ := sub_near hu hv
  rw [e1, e2]
  exact nearest_mono (by rw [v1, v2]; exact h)
theorem mul_mono {x y u v : Nat} (hx : Num x) (hy : Num y) (hu : Num u) (hv : Num v) (h : val x * val y ≤ val u * val v) : leB (fmul x y) (fmul u v) = true := by
  obtain ⟨n1, m1, p1, e1, v1⟩ := mul_near hx hy
  obtain ⟨n2, m2, p2, e2, v2⟩ := mul_near hu hv
  rw [e1, e2]
  exact nearest_mono (by rw [v1, v2]; exact h)
end Go.Proofs.Ytnhilikcgfhkbaa.Fl
