/- Rounding keeps order. -/
import Derived.Test.YtnhilikcgfhkbaaFw
namespace Go.Proofs.Ytnhilikcgfhkbaa.Fl

/-- Between two, the even one. -/
theorem cut_even (neg : Bool) (n drop : Nat) (h : 2 * n = 2 * (Ieee.Toward.even.cut neg n drop * 2 ^ drop) + 2 ^ drop ∨ 2 * (Ieee.Toward.even.cut neg n drop * 2 ^ drop) = 2 * n + 2 ^ drop) : Ieee.Toward.even.cut neg n drop % 2 = 0 := by
  unfold Ieee.Toward.cut at *
  simp only [Nat.one_shiftLeft] at *
  rcases Nat.lt_or_ge (n.log2 + 2) drop with hd | hd
  · rw [Nat.min_eq_right (Nat.le_of_lt hd)] at *
    have h1 : n < 2 ^ (n.log2 + 1) := Nat.lt_log2_self
    have h2 : 2 ^ (n.log2 + 2) = 2 * 2 ^ (n.log2 + 1) := by rw [Nat.pow_succ 2 (n.log2 + 1), Nat.mul_comm]
    have h4 : n / 2 ^ (n.log2 + 2) = 0 := Nat.div_eq_of_lt (by omega)
    have h5 : n % 2 ^ (n.log2 + 2) = n := Nat.mod_eq_of_lt (by omega)
    rw [h4, h5]
    have h6 : decide (2 ^ (n.log2 + 2) < 2 * n) = false := by simp; omega
    have h7 : (2 ^ (n.log2 + 2) == 2 * n) = false := by simp; omega
    rw [h6, h7]
    rfl
  · rw [Nat.min_eq_left hd] at *
    have h1 := Nat.div_add_mod n (2 ^ drop)
    have h2 := Nat.mod_lt n (Nat.two_pow_pos drop)
    generalize n / 2 ^ drop = low at *
    generalize n % 2 ^ drop = rest at *
    generalize 2 ^ drop = gap at *
    rw [Nat.add_mul, Nat.mul_comm low gap] at h
    generalize hg : gap * low = g at *
    by_cases h3 : gap < 2 * rest
    · simp [h3] at h; omega
    · by_cases h4 : gap = 2 * rest
      · by_cases h5 : low % 2 = 1
        · simp [h4, h5]; omega
        · have h7 : (low % 2 == 1) = false := by simpa using h5
          simp [h4, h7]; omega
      · have h6 : (gap == 2 * rest) = false := by simpa using h4
        simp [h3, h6] at h; omega

/-- Where the tie lies, as a number: what is kept is even. -/
theorem kept_even (neg : Bool) (mag : Nat) (place : Int)
    (h : 2 * ((mag : Rat) * 2 ^ place) = 2 * ((kept neg mag place : Rat) * 2 ^ lastP mag place) + 2 ^ lastP mag place ∨ 2 * ((kept neg mag place : Rat) * 2 ^ lastP mag place) = 2 * ((mag : Rat) * 2 ^ place) + 2 ^ lastP mag place) : kept neg mag place % 2 = 0 := by
  unfold kept at *
  apply cut_even
  generalize Ieee.Toward.even.cut neg _ _ = k at *
  rw [Nat.shiftLeft_eq]
  generalize lastP mag place = last at *
  generalize hu : (place - last).toNat = up at *
  generalize hd : (last - place).toNat = drop at *
  have hL := p2_pos last
  have key : (2 : Rat) ^ (up : Int) * 2 ^ last = 2 ^ place * 2 ^ (drop : Int) := by
    rw [← p2_add, ← p2_add]
    congr 1
    omega
  have hne : (2 : Rat) ^ last ≠ 0 := by grind
  have cancel : ∀ a b : Rat, a * 2 ^ last = b * 2 ^ last → a = b := by
    intro a b hab
    have e1 : a * 2 ^ last * (2 ^ last)⁻¹ = b * 2 ^ last * (2 ^ last)⁻¹ := by rw [hab]
    rwa [Rat.mul_assoc, Rat.mul_assoc, Rat.mul_inv_cancel _ hne, Rat.mul_one, Rat.mul_one] at e1
  rcases h with h | h
  · left
    have : (2 : Rat) * (mag * 2 ^ (up : Int)) = 2 * (k * 2 ^ (drop : Int)) + 2 ^ (drop : Int) := by
      apply cancel
      generalize (2 : Rat) ^ (drop : Int) = D at *
      generalize (2 : Rat) ^ last = L at *
      generalize (2 : Rat) ^ place = P at *
      generalize (2 : Rat) ^ (up : Int) = U at *
      grind
    rw [p2_nat, p2_nat] at this
    exact_mod_cast this
  · right
    have : (2 : Rat) * (k * 2 ^ (drop : Int)) = 2 * (mag * 2 ^ (up : Int)) + 2 ^ (drop : Int) := by
      apply cancel
      generalize (2 : Rat) ^ (drop : Int) = D at *
      generalize (2 : Rat) ^ last = L at *
      generalize (2 : Rat) ^ place = P at *
      generalize (2 : Rat) ^ (up : Int) = U at *
      grind
    rw [p2_nat, p2_nat] at this
    exact_mod_cast this

theorem last_mono {m1 m2 : Nat} {p1 p2 : Int} (h1 : m1 ≠ 0) (_ : m2 ≠ 0) (h : (m1 : Rat) * 2 ^ p1 ≤ m2 * 2 ^ p2) : lastP m1 p1 ≤ lastP m2 p2 := by
  have : p1 + m1.log2 ≤ p2 + m2.log2 := by
    by_cases hg : p1 + m1.log2 ≤ p2 + m2.log2
    · exact hg
    · exfalso
      have l1 : ((2 ^ m1.log2 : Nat) : Rat) ≤ m1 := by exact_mod_cast Nat.log2_self_le h1
      have l2 : ((m2 : Nat) : Rat) < ((2 ^ (m2.log2 + 1) : Nat) : Rat) := by exact_mod_cast (Nat.lt_log2_self : m2 < 2 ^ (m2.log2 + 1))
      rw [← p2_nat] at l1 l2
      have k1 := Rat.mul_le_mul_of_nonneg_left l1 (Rat.le_of_lt (p2_pos p1))
      have k2 := Rat.mul_lt_mul_of_pos_left l2 (p2_pos p2)
      rw [← p2_add] at k1 k2
      have k3 := p2_le (show p2 + ((m2.log2 + 1 : Nat) : Int) ≤ p1 + m1.log2 by omega)
      grind
  unfold lastP
  omega

/-- What is kept keeps order, at one place. -/
theorem kept_mono {n1 n2 : Bool} {m1 m2 : Nat} {p1 p2 : Int} (hl : lastP m1 p1 = lastP m2 p2) (h : (m1 : Rat) * 2 ^ p1 ≤ m2 * 2 ^ p2) : kept n1 m1 p1 ≤ kept n2 m2 p2 := by
  obtain ⟨a1, a2⟩ := kept_val n1 m1 p1
  obtain ⟨b1, b2⟩ := kept_val n2 m2 p2
  have ea := kept_even n1 m1 p1
  have eb := kept_even n2 m2 p2
  rw [← hl] at b1 b2 eb
  have hL := p2_pos (lastP m1 p1)
  generalize (2 : Rat) ^ lastP m1 p1 = L at *
  generalize kept n1 m1 p1 = k1 at *
  generalize kept n2 m2 p2 = k2 at *
  generalize (m1 : Rat) * 2 ^ p1 = R1 at *
  generalize (m2 : Rat) * 2 ^ p2 = R2 at *
  rcases Nat.lt_or_ge k2 k1 with hk | hk
  · exfalso
    have hk2 : (k2 : Rat) + 1 ≤ k1 := by exact_mod_cast hk
    have c := Rat.mul_le_mul_of_nonneg_right hk2 (Rat.le_of_lt hL)
    have c2 : ((k2 : Rat) + 1) * L = k2 * L + L := by grind
    rw [c2] at c
    have e1 := ea (Or.inr (by grind))
    have e2 := eb (Or.inl (by grind))
    have hk1 : (k1 : Rat) * L = (k2 + 1) * L := by grind
    have hne : L ≠ 0 := by grind
    have : (k1 : Rat) = k2 + 1 := by
      have e3 : (k1 : Rat) * L * L⁻¹ = (k2 + 1) * L * L⁻¹ := by rw [hk1]
      rwa [Rat.mul_assoc, Rat.mul_assoc, Rat.mul_inv_cancel _ hne, Rat.mul_one, Rat.mul_one] at e3
    have : k1 = k2 + 1 := by exact_mod_cast this
    omega
  · exact hk
end Go.Proofs.Ytnhilikcgfhkbaa.Fl
