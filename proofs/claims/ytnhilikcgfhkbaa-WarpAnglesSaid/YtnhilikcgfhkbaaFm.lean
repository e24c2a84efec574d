/- Which words are finite numbers: by the greatest one, and by the difference from itself. -/
import Derived.Test.YtnhilikcgfhkbaaFl
namespace Go.Proofs.Ytnhilikcgfhkbaa.Fl

theorem sw : F64.signWeight = 9223372036854775808 := by decide +kernel
theorem bn : F64.binade = 4503599627370496 := by decide +kernel
theorem ir : F64.infRung = 9218868437227405312 := by decide +kernel
theorem lp : F64.leastPlace = -1074 := by decide +kernel

/-- The word without its sign. -/
def fabs (x : Nat) : Nat := x % 9223372036854775808
def fmax : Nat := 9218868437227405311
def infB (x : Nat) : Bool := ford (fabs x) fmax == some .gt
/-- A finite number. -/
def numB (x : Nat) : Bool := !isN x && !infB x

theorem read_max : F64.read fmax = .number false 9007199254740991 971 := by decide +kernel
theorem read_zero : F64.read 0 = .number false 0 (-1074) := by decide +kernel

/-- What a word without its sign stands for. -/
theorem read_abs (x : Nat) : F64.read (fabs x) = match F64.read x with
    | .number _ m e => .number false m e
    | .infinity _ => .infinity false
    | .nan _ f => .nan false f := by
  unfold Ieee.Format.read fabs
  simp only [sw, bn, ir, lp]
  have h1 : x % 9223372036854775808 % 9223372036854775808 = x % 9223372036854775808 := Nat.mod_mod _ _
  have h2 : (x % 9223372036854775808 / 9223372036854775808 % 2 == 1) = false := by
    rw [Nat.div_eq_of_lt (Nat.mod_lt _ (by decide))]; rfl
  rw [h1, h2]
  by_cases a : x % 9223372036854775808 < 4503599627370496
  · simp only [a, if_true]
  · by_cases b : x % 9223372036854775808 < 9218868437227405312
    · simp only [a, b, if_true, if_false]
    · by_cases c : x % 9223372036854775808 = 9218868437227405312
      · simp only [c]; rfl
      · simp only [a, b, c, if_false]

theorem number_bounds {x : Nat} {s : Bool} {m : Nat} {e : Int} (h : F64.read x = .number s m e) : m ≤ 9007199254740991 ∧ e ≤ 971 := by
  unfold Ieee.Format.read at h
  simp only [sw, bn, ir, lp] at h
  have h0 : x % 9223372036854775808 < 9223372036854775808 := Nat.mod_lt _ (by decide)
  generalize x % 9223372036854775808 = r at *
  split at h
  · injection h with _ h1 h2; subst h1; subst h2; omega
  · split at h
    · injection h with _ h1 h2
      have h3 : r % 4503599627370496 < 4503599627370496 := Nat.mod_lt _ (by decide)
      have h4 : r / 4503599627370496 < 2047 := by omega
      omega
    · split at h
      · cases h
      · cases h

theorem signed_le {m M : Nat} {e : Int} (hm : m ≤ M) (he : e ≤ 971) :
    ¬ (Ieee.signed false M (971 - min e 971).toNat < Ieee.signed false m (e - min e 971).toNat) := by
  have hmin : min e 971 = e := by omega
  rw [hmin]
  simp only [Ieee.signed, Int.sub_self, Nat.shiftLeft_eq]
  simp only [Bool.false_eq_true, if_false, Int.toNat_zero, Nat.pow_zero, Nat.mul_one]
  have h1 : m ≤ M * 2 ^ (971 - e).toNat := Nat.le_trans hm (Nat.le_mul_of_pos_right _ (Nat.two_pow_pos _))
  omega

theorem not_inf {x : Nat} {s : Bool} {m : Nat} {e : Int} (h : F64.read x = .number s m e) : infB x = false := by
  obtain ⟨hm, he⟩ := number_bounds h
  unfold infB ford Ieee.Format.order
  rw [read_abs, h, read_max]
  simp only [Ieee.Datum.order]
  have := signed_le hm he
  generalize Ieee.signed false m (e - min e 971).toNat = A at *
  generalize Ieee.signed false 9007199254740991 (971 - min e 971).toNat = B at *
  have : compare A B ≠ .gt := by
    intro hc
    rw [Int.compare_eq_gt] at hc
    omega
  simp [this]

theorem is_inf {x : Nat} {s : Bool} (h : F64.read x = .infinity s) : infB x = true := by
  unfold infB ford Ieee.Format.order
  rw [read_abs, h, read_max]
  rfl

theorem sub_self_num {x : Nat} {s : Bool} {m : Nat} {e : Int} (h : F64.read x = .number s m e) : fsub x x = 0 := by
  unfold fsub Ieee.Format.sub
  rw [h]
  have hz : Ieee.signed s m (e - min e e).toNat + Ieee.signed (!s) m (e - min e e).toNat = 0 := by
    cases s <;> simp [Ieee.signed] <;> omega
  simp only [Ieee.Datum.opposite, Ieee.Datum.sum, hz]
  cases s <;> simp [Ieee.Format.write, Ieee.Format.nearest, Ieee.Format.word]

/-- A finite number is one that differs from itself by 0. -/
theorem num_sub (x : Nat) : (ford (fsub x x) 0 == some .eq) = numB x := by
  unfold numB
  cases h : F64.read x with
  | nan s f =>
    have hn : isN x = true := by simp [isN, h, Ieee.Datum.isNaN]
    rw [hn]
    have e : fsub x x = qnan := by simp [fsub, sub_nan_left hn]
    rw [e, ord_nan_left isN_qnan]; rfl
  | infinity s =>
    rw [is_inf h]
    have e : fsub x x = qnan := by
      unfold fsub Ieee.Format.sub
      rw [h]
      cases s <;> rfl
    rw [e, ord_nan_left isN_qnan]
    cases isN x <;> rfl
  | number s m e =>
    have hn : isN x = false := by simp [isN, h, Ieee.Datum.isNaN]
    rw [hn, not_inf h, sub_self_num h]
    decide +kernel

theorem numB_congr {x y : Nat} (h : Sm x y) : numB x = numB y := by
  rw [← num_sub, ← num_sub, fsub_congr h h]

/-- Without the sign bit. -/
theorem andNot_sign (x : Nat) : (bits .andNot .u64 (x : Int) 9223372036854775808).toNat = fabs x := by
  unfold bits fabs
  have e : (BitVec.ofInt 64 (x : Int) &&& ~~~ BitVec.ofInt 64 9223372036854775808).toNat = x % 9223372036854775808 := by
    refine Nat.eq_of_testBit_eq fun i => ?_
    have h1 : (BitVec.ofInt 64 (x : Int)) = BitVec.ofNat 64 x := by simp
    have h2 : (BitVec.ofInt 64 9223372036854775808) = BitVec.ofNat 64 (2 ^ 63) := by decide
    rw [h1, h2, show (9223372036854775808 : Nat) = 2 ^ 63 from rfl, Nat.testBit_mod_two_pow, BitVec.testBit_toNat, BitVec.getLsbD_and, BitVec.getLsbD_not]
    simp only [BitVec.getLsbD_ofNat]
    by_cases hi : i < 64
    · by_cases hj : i < 63
      · have : Nat.testBit (2 ^ 63) i = false := by rw [Nat.testBit_two_pow]; simp; omega
        simp [hi, hj, this]
      · obtain rfl : i = 63 := by omega
        have : Nat.testBit (2 ^ 63) 63 = true := by rw [Nat.testBit_two_pow]; simp
        simp [this]
    · have : ¬ i < 63 := by omega
      simp [hi, this]
  have hlt : x % 9223372036854775808 < 9223372036854775808 := Nat.mod_lt _ (by decide)
  show (IntKind.u64.wrap ((BitVec.ofInt 64 (x : Int) &&& ~~~ BitVec.ofInt 64 9223372036854775808).toNat : Int)).toNat = _
  rw [e]
  have : IntKind.u64.wrap ((x % 9223372036854775808 : Nat) : Int) = ((x % 9223372036854775808 : Nat) : Int) := by
    unfold IntKind.wrap
    simp only [IntKind.signed, IntKind.bits, Bool.false_and, Bool.false_eq_true, if_false]
    omega
  rw [this]
  rfl
theorem wd_abs (x : Nat) : Wd (fabs x) := by
  have : x % 9223372036854775808 < 9223372036854775808 := Nat.mod_lt _ (by decide)
  unfold Wd fabs
  omega
end Go.Proofs.Ytnhilikcgfhkbaa.Fl
