/- Floats as rational numbers: what a written word stands for, and how far it is from what was written. -/
import Derived.Test.YtnhilikcgfhkbaaFm
namespace Go.Proofs.Ytnhilikcgfhkbaa.Fl

/-! Powers of two -/
theorem p2_pos (e : Int) : (0 : Rat) < 2 ^ e := Rat.zpow_pos (by decide)
theorem p2_add (a b : Int) : (2 : Rat) ^ (a + b) = 2 ^ a * 2 ^ b := Rat.zpow_add (by decide) a b
theorem p2_nat (n : Nat) : (2 : Rat) ^ (n : Int) = ((2 ^ n : Nat) : Rat) := by rw [Rat.zpow_natCast, Rat.natCast_pow]; rfl
theorem p2_one (n : Nat) : (1 : Rat) ≤ 2 ^ (n : Int) := by
  rw [p2_nat]
  exact (Rat.natCast_le_natCast (a := 1)).2 Nat.one_le_two_pow
theorem p2_le {a b : Int} (h : a ≤ b) : (2 : Rat) ^ a ≤ 2 ^ b := by
  obtain ⟨n, rfl⟩ : ∃ n : Nat, b = a + n := ⟨(b - a).toNat, by omega⟩
  rw [p2_add]
  have := Rat.mul_le_mul_of_nonneg_left (p2_one n) (Rat.le_of_lt (p2_pos a))
  rwa [Rat.mul_one] at this

/-! What a word stands for -/
def sg (s : Bool) (r : Rat) : Rat := if s then -r else r
def dval : Ieee.Datum → Rat
  | .number s m e => sg s ((m : Rat) * 2 ^ e)
  | _ => 0
theorem dval_number (s : Bool) (m : Nat) (e : Int) : dval (.number s m e) = sg s ((m : Rat) * 2 ^ e) := rfl
def val (x : Nat) : Rat := dval (F64.read x)
def Num (x : Nat) : Prop := ∃ s m e, F64.read x = .number s m e

/-! Rounding to a whole number -/
theorem cut_err (neg : Bool) (n drop : Nat) : 2 * (Ieee.Toward.even.cut neg n drop * 2 ^ drop) ≤ 2 * n + 2 ^ drop ∧ 2 * n ≤ 2 * (Ieee.Toward.even.cut neg n drop * 2 ^ drop) + 2 ^ drop := by
  unfold Ieee.Toward.cut
  simp only [Nat.one_shiftLeft]
  rcases Nat.lt_or_ge (n.log2 + 2) drop with hd | hd
  · rw [Nat.min_eq_right (Nat.le_of_lt hd)]
    have h1 : n < 2 ^ (n.log2 + 1) := Nat.lt_log2_self
    have h2 : 2 ^ (n.log2 + 2) = 2 * 2 ^ (n.log2 + 1) := by rw [Nat.pow_succ 2 (n.log2 + 1), Nat.mul_comm]
    have h3 : 2 ^ (n.log2 + 2) ≤ 2 ^ drop := Nat.pow_le_pow_right (by decide) (Nat.le_of_lt hd)
    have h4 : n / 2 ^ (n.log2 + 2) = 0 := Nat.div_eq_of_lt (by omega)
    have h5 : n % 2 ^ (n.log2 + 2) = n := Nat.mod_eq_of_lt (by omega)
    rw [h4, h5]
    have h6 : decide (2 ^ (n.log2 + 2) < 2 * n) = false := by simp; omega
    have h7 : (2 ^ (n.log2 + 2) == 2 * n) = false := by simp; omega
    rw [h6, h7]
    simp
    omega
  · rw [Nat.min_eq_left hd]
    have h1 := Nat.div_add_mod n (2 ^ drop)
    have h2 := Nat.mod_lt n (Nat.two_pow_pos drop)
    generalize n / 2 ^ drop = low at h1 ⊢
    generalize n % 2 ^ drop = rest at h1 h2 ⊢
    generalize 2 ^ drop = gap at h1 h2 ⊢
    rw [Nat.add_mul, Nat.mul_comm low gap]
    generalize gap * low = g at h1 ⊢
    by_cases h3 : gap < 2 * rest
    · simp [h3]; omega
    · by_cases h4 : gap = 2 * rest
      · by_cases h5 : low % 2 = 1
        · simp [h4, h5]; omega
        · have h7 : (low % 2 == 1) = false := by simpa using h5
          simp [h4, h7]; omega
      · have h6 : (gap == 2 * rest) = false := by simpa using h4
        simp [h3, h6]; omega

/-! Reading what was written -/
theorem read_word (neg : Bool) (rung : Nat) (h : rung < 9218868437227405312) :
    F64.read (F64.word neg rung) = if rung < 4503599627370496 then .number neg rung (-1074) else .number neg (4503599627370496 + rung % 4503599627370496) (-1074 + ((rung / 4503599627370496 - 1 : Nat) : Int)) := by
  have h1 : (F64.word neg rung / 9223372036854775808 % 2 == 1) = neg := by
    unfold Ieee.Format.word
    rw [sw]
    cases neg
    · simp; omega
    · simp; omega
  have h2 : F64.word neg rung % 9223372036854775808 = rung := by
    unfold Ieee.Format.word
    rw [sw]
    cases neg
    · simp; omega
    · simp; omega
  unfold Ieee.Format.read
  rw [sw, bn, ir, lp, h1, h2]
  simp only [h, if_true]

theorem read_inf (neg : Bool) : F64.read (F64.word neg 9218868437227405312) = .infinity neg := by
  cases neg <;> decide +kernel

/-- The rung of a kept number at a place. -/
theorem rung_val (neg : Bool) (E k : Nat) (hk : k ≤ 9007199254740992) (hE : E = 0 ∨ 4503599627370496 ≤ k) (h : E * 4503599627370496 + k < 9218868437227405312) :
    ∃ m e, F64.read (F64.word neg (E * 4503599627370496 + k)) = .number neg m e ∧ (m : Rat) * 2 ^ e = (k : Rat) * 2 ^ ((E : Int) - 1074) := by
  rw [read_word neg _ h]
  by_cases h1 : E * 4503599627370496 + k < 4503599627370496
  · rw [if_pos h1]
    have : E = 0 := by omega
    subst this
    refine ⟨_, _, rfl, ?_⟩
    rw [show 0 * 4503599627370496 + k = k by omega, show (((0 : Nat) : Int) - 1074) = -1074 by omega]
  · rw [if_neg h1]
    refine ⟨_, _, rfl, ?_⟩
    by_cases h2 : k < 9007199254740992
    · by_cases h3 : k < 4503599627370496
      · omega
      · have e1 : (E * 4503599627370496 + k) % 4503599627370496 = k - 4503599627370496 := by omega
        have e2 : (E * 4503599627370496 + k) / 4503599627370496 - 1 = E := by omega
        rw [e1, e2, show 4503599627370496 + (k - 4503599627370496) = k by omega]
        congr 2
    · have hk2 : k = 9007199254740992 := by omega
      subst hk2
      have e1 : (E * 4503599627370496 + 9007199254740992) % 4503599627370496 = 0 := by omega
      have e2 : (E * 4503599627370496 + 9007199254740992) / 4503599627370496 - 1 = E + 1 := by omega
      rw [e1, e2, show (-1074 : Int) + ((E + 1 : Nat) : Int) = ((E : Int) - 1074) + 1 by omega, p2_add]
      have : (2 : Rat) ^ (1 : Int) = 2 := by decide +kernel
      rw [this]
      generalize (2 : Rat) ^ ((E : Int) - 1074) = p
      grind
end Go.Proofs.Ytnhilikcgfhkbaa.Fl
