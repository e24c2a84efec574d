/- Numbers that read alike; what rounding gives of equal ones. -/
import Derived.Test.YtnhilikcgfhkbaaZa
namespace Go.Proofs.Ytnhilikcgfhkbaa.Fl

theorem read_high {x : Nat} {s : Bool} {m : Nat} {e : Int} (h : F64.read x = .number s m e) : e = -1074 ∨ 4503599627370496 ≤ m := by
  unfold Ieee.Format.read at h
  simp only [sw, bn, ir, lp] at h
  generalize x % 9223372036854775808 = r at *
  split at h
  · injection h with _ _ h2; exact .inl h2.symm
  · split at h
    · injection h with _ h1 h2; exact .inr (by omega)
    · split at h <;> cases h
theorem place_uniq {m n : Nat} {i j : Int} (hm : m ≤ 9007199254740991) (hj : j = -1074 ∨ 4503599627370496 ≤ n) (hi : -1074 ≤ i) (hn : 0 < n) (h : (m : Rat) * 2 ^ i = n * 2 ^ j) : j ≤ i := by
  rcases Int.lt_or_le i j with k | k
  · exfalso
    have hn2 : 4503599627370496 ≤ n := by omega
    have e : (2 : Rat) ^ j = 2 ^ (j - i) * 2 ^ i := by rw [← p2_add]; congr 1; omega
    have p := p2_pos i
    have l := p2_le (show (1 : Int) ≤ j - i by omega)
    have z : (2 : Rat) ^ (1 : Int) = 2 := by decide +kernel
    rw [z] at l
    rw [e] at h
    have hm2 : (m : Rat) ≤ 9007199254740991 := by exact_mod_cast hm
    have hn3 : (4503599627370496 : Rat) ≤ n := by exact_mod_cast hn2
    generalize (2 : Rat) ^ (j - i) = q at *
    generalize (2 : Rat) ^ i = r at *
    have p1 := Rat.mul_nonneg (show (0 : Rat) ≤ n - 4503599627370496 by grind) (show (0 : Rat) ≤ q - 2 by grind)
    have p2 : (9007199254740992 : Rat) ≤ n * q := by grind
    have p3 := Rat.mul_pos (show (0 : Rat) < n * q - m by grind) p
    grind
  · exact k
theorem read_same {x y : Nat} (hx : Num x) (hy : Num y) (h : val x = val y) (h0 : val x ≠ 0) : F64.read x = F64.read y := by
  obtain ⟨s, m, i, rx⟩ := hx
  obtain ⟨t, n, j, ry⟩ := hy
  have vx : val x = sg s ((m : Rat) * 2 ^ i) := by unfold val; rw [rx, dval_number]
  have vy : val y = sg t ((n : Rat) * 2 ^ j) := by unfold val; rw [ry, dval_number]
  obtain ⟨bx, _⟩ := number_bounds rx
  obtain ⟨bY, _⟩ := number_bounds ry
  have lx := read_low rx
  have ly := read_low ry
  have ux := read_high rx
  have uy := read_high ry
  rw [vx] at h h0
  rw [vy] at h
  have m0 : m ≠ 0 := by
    rintro rfl
    apply h0
    have z : ((0 : Nat) : Rat) * 2 ^ i = 0 := Rat.zero_mul _
    rw [z]; cases s <;> simp [sg]
  have n0 : n ≠ 0 := by
    rintro rfl
    apply h0
    rw [h]
    have z : ((0 : Nat) : Rat) * 2 ^ j = 0 := Rat.zero_mul _
    rw [z]; cases t <;> simp [sg]
  have pm : (0 : Rat) < m * 2 ^ i := Rat.mul_pos (by exact_mod_cast Nat.pos_of_ne_zero m0) (p2_pos i)
  have pn : (0 : Rat) < n * 2 ^ j := Rat.mul_pos (by exact_mod_cast Nat.pos_of_ne_zero n0) (p2_pos j)
  have hs : s = t ∧ (m : Rat) * 2 ^ i = n * 2 ^ j := by
    cases s <;> cases t <;> simp only [sg, if_true, Bool.false_eq_true, if_false] at h
    · exact ⟨rfl, h⟩
    · exfalso; grind
    · exfalso; grind
    · exact ⟨rfl, by grind⟩
  obtain ⟨rfl, h2⟩ := hs
  have e1 := place_uniq bx uy lx (Nat.pos_of_ne_zero n0) h2
  have e2 := place_uniq bY ux ly (Nat.pos_of_ne_zero m0) h2.symm
  obtain rfl : i = j := by omega
  have e3 : (m : Rat) = n := by
    have p := p2_pos i
    have q : ((m : Rat) - n) * 2 ^ i = 0 := by grind
    rcases Rat.mul_eq_zero.1 q with a | a
    · grind
    · grind
  have e4 : m = n := by exact_mod_cast e3
  subst e4
  rw [rx, ry]
theorem fsqrt_read {x y : Nat} (h : F64.read x = F64.read y) : fsqrt x = fsqrt y := by unfold fsqrt Ieee.Format.sqrt; rw [h]
theorem fdiv_read {x y u v : Nat} (h : F64.read x = F64.read u) (k : F64.read y = F64.read v) : fdiv x y = fdiv u v := by unfold fdiv Ieee.Format.div; rw [h, k]
theorem fmul_read {x y u v : Nat} (h : F64.read x = F64.read u) (k : F64.read y = F64.read v) : fmul x y = fmul u v := by unfold fmul Ieee.Format.mul; rw [h, k]
theorem zero_read {x : Nat} (hx : Num x) (h : val x = 0) : ∃ s e, F64.read x = .number s 0 e := by
  obtain ⟨s, m, i, rx⟩ := hx
  by_cases m0 : m = 0
  · subst m0; exact ⟨s, i, rx⟩
  · exfalso
    have := num_sign rx m0
    cases s <;> simp only [if_true, Bool.false_eq_true, if_false] at this <;> grind
theorem sqrt_zero {x : Nat} (hx : Num x) (h : val x = 0) : Num (fsqrt x) ∧ val (fsqrt x) = 0 := by
  obtain ⟨s, e, hr⟩ := zero_read hx h
  have : fsqrt x = F64.nearest s 0 e := by
    unfold fsqrt Ieee.Format.sqrt
    rw [hr]
    simp [Ieee.Datum.root]
    rfl
  rw [this]
  exact nearest_zero s e
theorem sqrt_same {x y : Nat} (hx : Num x) (hy : Num y) (h0 : 0 ≤ val x) (h4 : val x ≤ 4) (h : val x = val y) : Num (fsqrt x) ∧ Num (fsqrt y) ∧ val (fsqrt x) = val (fsqrt y) := by
  by_cases hz : val x = 0
  · obtain ⟨a, b⟩ := sqrt_zero hx hz
    obtain ⟨c, d⟩ := sqrt_zero hy (by grind)
    exact ⟨a, c, by rw [b, d]⟩
  · have e := fsqrt_read (read_same hx hy h hz)
    obtain ⟨a, _⟩ := sqrt_ab hx h0 h4
    exact ⟨a, e ▸ a, by rw [e]⟩
theorem mul_same {x y u v : Nat} (hx : Num x) (hy : Num y) (hu : Num u) (hv : Num v) (h : val x * val y = val u * val v) (hn : Num (fmul u v)) : Num (fmul x y) ∧ val (fmul x y) = val (fmul u v) :=
  num_between hn (mul_mono hx hy hu hv (rat_le_of_eq h)) (mul_mono hu hv hx hy (rat_le_of_eq h.symm))
theorem sub_same {x y u v : Nat} (hx : Num x) (hy : Num y) (hu : Num u) (hv : Num v) (h : val x - val y = val u - val v) (hn : Num (fsub u v)) : Num (fsub x y) ∧ val (fsub x y) = val (fsub u v) :=
  num_between hn (sub_mono hx hy hu hv (rat_le_of_eq h)) (sub_mono hu hv hx hy (rat_le_of_eq h.symm))
theorem fmul_comm {x y : Nat} (hx : Num x) (hy : Num y) : fmul x y = fmul y x := by
  obtain ⟨s, m, i, rx⟩ := hx
  obtain ⟨t, n, j, ry⟩ := hy
  unfold fmul Ieee.Format.mul
  rw [rx, ry]
  simp only [Ieee.Datum.product]
  rw [Bool.xor_comm, Nat.mul_comm, Int.add_comm]
/-- A comparison that is true of equal numbers. -/
theorem eq_true' {x y : Nat} (hx : Num x) (hy : Num y) (h : val x = val y) : (FloatKind.f64.format.order x y == some .eq) = true := by
  have := ord_eq hx hy h
  unfold ford at this
  rw [this]; rfl
theorem eq_self {x : Nat} (h : Num x) : (FloatKind.f64.format.order x x == some .eq) = true := eq_true' h h rfl
end Go.Proofs.Ytnhilikcgfhkbaa.Fl
