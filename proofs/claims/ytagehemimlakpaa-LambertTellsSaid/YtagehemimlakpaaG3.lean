/- Numbers that need no rounding; quotients keep order. Floats that need no rounding; whole numbers as floats. A direction in the plane, (1, f) of length 1: how near its numbers are to what they are to be. Points in the disk and directions in space, of a direction in the plane of length 1: how near their lengths are to what they are to be. A direction's sector told back: the density of a draw's direction; a triangle's numbers; numbers that are more often near 0. Ranges that rounding keeps: a sector's density; a triangle's numbers; numbers that are more often near 0. -/
import Derived.Laws.Cover2
import Derived.Laws.FloatArith
import Derived.Test.YtagehemimlakpaaG2
namespace Go.Proofs.Ytagehemimlakpaa.Fl

theorem read_low {x : Nat} {s : Bool} {m : Nat} {e : Int} (h : F64.read x = .number s m e) : -1074 ≤ e := by
  unfold Ieee.Format.read at h
  simp only [sw, bn, ir, lp] at h
  generalize x % 9223372036854775808 = r at *
  split at h
  · injection h with _ _ h2; omega
  · split at h
    · injection h with _ _ h2; omega
    · split at h <;> cases h

theorem cut_none (neg : Bool) (n : Nat) : Ieee.Toward.even.cut neg n 0 = n := by
  unfold Ieee.Toward.cut
  simp [Nat.mod_one]

/-- What a word stands for is written as it is. -/
theorem nearest_exact {x : Nat} {s : Bool} {m : Nat} {e : Int} (h : F64.read x = .number s m e) : Num (F64.nearest s m e) ∧ val (F64.nearest s m e) = val x := by
  have hv : val x = sg s ((m : Rat) * 2 ^ e) := by unfold val; rw [h, dval_number]
  by_cases hm : m = 0
  · subst hm
    obtain ⟨a, v⟩ := nearest_zero s e
    refine ⟨a, ?_⟩
    rw [v, hv]
    have : ((0 : Nat) : Rat) * 2 ^ e = 0 := Rat.zero_mul _
    rw [this]
    cases s <;> simp [sg]
  · obtain ⟨b1, b2⟩ := number_bounds h
    have b3 := read_low h
    have l1 : m < 2 ^ 53 := by omega
    have l2 : m.log2 < 53 := (Nat.log2_lt hm).2 l1
    have hl : lastP m e ≤ e := by unfold lastP; omega
    have hd : (lastP m e - e).toNat = 0 := by omega
    have hk : kept s m e = m * 2 ^ (e - lastP m e).toNat := by
      unfold kept
      rw [hd, cut_none, Nat.shiftLeft_eq]
    have l3 : m < 2 ^ (m.log2 + 1) := Nat.lt_log2_self
    have hk2 : kept s m e < 9007199254740992 := by
      rw [hk]
      have e1 : m * 2 ^ (e - lastP m e).toNat < 2 ^ (m.log2 + 1) * 2 ^ (e - lastP m e).toNat := Nat.mul_lt_mul_of_pos_right l3 (Nat.two_pow_pos _)
      have e2 : 2 ^ (m.log2 + 1) * 2 ^ (e - lastP m e).toNat ≤ 2 ^ 53 := by
        rw [← Nat.pow_add]
        exact Nat.pow_le_pow_right (by decide) (by unfold lastP; omega)
      omega
    have hr : (lastP m e + 1074).toNat ≤ 2045 := by omega
    rcases nearest_is s (place := e) hm with ⟨_, a, v⟩ | ⟨o, _⟩
    · refine ⟨a, ?_⟩
      rw [v, hv, hk]
      congr 1
      rw [Rat.natCast_mul, ← p2_nat, Rat.mul_assoc, ← p2_add]
      congr 2
      omega
    · exfalso
      unfold rungOf at o
      omega

theorem log2_gap {q d a : Nat} (hq : q ≠ 0) (h1 : a < 2 ^ d) : (q * 2 ^ d + a).log2 = q.log2 + d := by
  have hp := Nat.two_pow_pos d
  have hne : q * 2 ^ d + a ≠ 0 := by
    have := Nat.mul_pos (Nat.pos_of_ne_zero hq) hp
    omega
  rw [Nat.log2_eq_iff hne]
  have l1 : 2 ^ q.log2 ≤ q := Nat.log2_self_le hq
  have l2 : q < 2 ^ (q.log2 + 1) := Nat.lt_log2_self
  constructor
  · rw [Nat.pow_add]
    exact Nat.le_trans (Nat.mul_le_mul_right _ l1) (Nat.le_add_right _ _)
  · rw [show q.log2 + d + 1 = (q.log2 + 1) + d by omega, Nat.pow_add]
    have : (q + 1) * 2 ^ d ≤ 2 ^ (q.log2 + 1) * 2 ^ d := Nat.mul_le_mul_right _ l2
    rw [Nat.add_mul, Nat.one_mul] at this
    omega

theorem cut_gap (neg : Bool) {q d a g : Nat} (hq : q ≠ 0) (h0 : 0 < a) (h1 : a < 2 ^ d) (hd : 0 < d) (hg : 2 ≤ g) :
    Ieee.Toward.even.cut neg (q * 2 ^ d + a) (g + d - 1) = Ieee.Toward.even.cut neg (2 * q + 1) g := by
  have e1 : (2 * q + 1).log2 = q.log2 + 1 := by
    have := log2_gap (d := 1) (a := 1) hq (by decide)
    rwa [show q * 2 ^ 1 + 1 = 2 * q + 1 by omega] at this
  unfold Ieee.Toward.cut
  simp only [Nat.one_shiftLeft]
  rw [log2_gap hq h1, e1]
  have e2 : min (g + d - 1) (q.log2 + d + 2) = min g (q.log2 + 1 + 2) - 2 + 1 + d := by omega
  have e3 : min g (q.log2 + 1 + 2) = min g (q.log2 + 1 + 2) - 2 + 2 := by omega
  rw [e2]
  rw [e3]
  generalize min g (q.log2 + 1 + 2) - 2 = c
  have f1 : 2 ^ (c + 1 + d) = 2 * 2 ^ c * 2 ^ d := by rw [Nat.pow_add, Nat.pow_succ, Nat.mul_comm (2 ^ c) 2]
  have f2 : 2 ^ (c + 2) = 4 * 2 ^ c := by rw [Nat.pow_add]; omega
  rw [show c + 2 - 2 + 1 + d = c + 1 + d by omega, f1, f2]
  have hH := Nat.two_pow_pos c
  generalize 2 ^ c = H at *
  generalize 2 ^ d = D at *
  have hD : 0 < D := by omega
  have hqe := Nat.div_add_mod q (2 * H)
  have ht := Nat.mod_lt q (show 0 < 2 * H by omega)
  generalize q / (2 * H) = l at *
  generalize q % (2 * H) = t at *
  -- the one
  have n1 : q * D + a = 2 * H * D * l + (t * D + a) := by
    rw [← hqe, Nat.add_mul]
    have : 2 * H * l * D = 2 * H * D * l := by rw [Nat.mul_assoc, Nat.mul_comm l D, ← Nat.mul_assoc]
    omega
  have r1 : t * D + a < 2 * H * D := by
    have : (t + 1) * D ≤ 2 * H * D := Nat.mul_le_mul_right _ ht
    rw [Nat.add_mul, Nat.one_mul] at this
    omega
  have d1 : (q * D + a) / (2 * H * D) = l := by
    rw [n1, Nat.mul_add_div (by omega), Nat.div_eq_of_lt r1, Nat.add_zero]
  have m1 : (q * D + a) % (2 * H * D) = t * D + a := by
    rw [n1, Nat.mul_add_mod, Nat.mod_eq_of_lt r1]
  -- the other
  have n2 : 2 * q + 1 = 4 * H * l + (2 * t + 1) := by
    rw [← hqe]
    have : 4 * H * l = 2 * (2 * H * l) := by rw [← Nat.mul_assoc, ← Nat.mul_assoc]
    omega
  have d2 : (2 * q + 1) / (4 * H) = l := by
    rw [n2, Nat.mul_add_div (by omega), Nat.div_eq_of_lt (by omega), Nat.add_zero]
  have m2 : (2 * q + 1) % (4 * H) = 2 * t + 1 := by
    rw [n2, Nat.mul_add_mod, Nat.mod_eq_of_lt (by omega)]
  rw [d1, m1, d2, m2]
  have c2 : (4 * H == 2 * (2 * t + 1)) = false := by simp; omega
  have key : (2 * H * D < 2 * (t * D + a)) ↔ H ≤ t := by
    constructor
    · intro h
      rcases Nat.lt_or_ge t H with k | k
      · have : (t + 1) * D ≤ H * D := Nat.mul_le_mul_right _ k
        rw [Nat.add_mul, Nat.one_mul] at this
        have e : 2 * H * D = 2 * (H * D) := Nat.mul_assoc _ _ _
        omega
      · exact k
    · intro h
      have : H * D ≤ t * D := Nat.mul_le_mul_right _ h
      have e : 2 * H * D = 2 * (H * D) := Nat.mul_assoc _ _ _
      omega
  have key2 : (2 * H * D == 2 * (t * D + a)) = false := by
    simp only [beq_eq_false_iff_ne, ne_eq]
    intro h
    have e : 2 * H * D = 2 * (H * D) := Nat.mul_assoc _ _ _
    rcases Nat.lt_or_ge t H with k | k
    · have : (t + 1) * D ≤ H * D := Nat.mul_le_mul_right _ k
      rw [Nat.add_mul, Nat.one_mul] at this
      omega
    · have : H * D ≤ t * D := Nat.mul_le_mul_right _ k
      omega
  have c1 : decide (2 * H * D < 2 * (t * D + a)) = decide (4 * H < 2 * (2 * t + 1)) := decide_eq_decide.2 (key.trans (by omega))
  simp only [key2, c2, c1]

/-- Between two halves of a unit all is written as one. -/
theorem nearest_gap (neg : Bool) {q d a : Nat} {p : Int} (hq : 9007199254740992 ≤ q) (h0 : 0 < a) (h1 : a < 2 ^ d) (hd : 0 < d) :
    F64.nearest neg (q * 2 ^ d + a) p = F64.nearest neg (2 * q + 1) (p + d - 1) := by
  have hq0 : q ≠ 0 := by omega
  have hl : 53 ≤ q.log2 := (Nat.le_log2 hq0).2 hq
  have e1 : (2 * q + 1).log2 = q.log2 + 1 := by
    have := log2_gap (d := 1) (a := 1) hq0 (by decide)
    rwa [show q * 2 ^ 1 + 1 = 2 * q + 1 by omega] at this
  have e0 := log2_gap (d := d) (a := a) hq0 h1
  have hne : q * 2 ^ d + a ≠ 0 := by omega
  rw [nearest_eq neg _ p hne, nearest_eq neg (2 * q + 1) _ (by omega)]
  have hlast : lastP (2 * q + 1) (p + d - 1) = lastP (q * 2 ^ d + a) p := by
    unfold lastP; rw [e1, e0]; omega
  have hk : kept neg (q * 2 ^ d + a) p = kept neg (2 * q + 1) (p + d - 1) := by
    unfold kept
    rw [hlast]
    have z1 : (p - lastP (q * 2 ^ d + a) p).toNat = 0 := by unfold lastP; rw [e0]; omega
    have z2 : (p + d - 1 - lastP (q * 2 ^ d + a) p).toNat = 0 := by unfold lastP; rw [e0]; omega
    rw [z1, z2, Nat.shiftLeft_zero, Nat.shiftLeft_zero]
    have hg : 2 ≤ (lastP (q * 2 ^ d + a) p - (p + d - 1)).toNat := by unfold lastP; rw [e0]; omega
    have hgd : (lastP (q * 2 ^ d + a) p - p).toNat = (lastP (q * 2 ^ d + a) p - (p + d - 1)).toNat + d - 1 := by omega
    rw [hgd]
    exact cut_gap neg hq0 h0 h1 hd hg
  rw [hlast, hk]

/-- A quotient's digits. -/
theorem div_form {x y : Nat} {s : Bool} {m n : Nat} {i j : Int} (hx : F64.read x = .number s m i) (hy : F64.read y = .number false n j) (hn : n ≠ 0) :
    fdiv x y = F64.nearest s (2 * (m * 2 ^ (54 + n.log2 - m.log2) / n) + (m * 2 ^ (54 + n.log2 - m.log2) % n != 0).toNat) (i - j - ((54 + n.log2 - m.log2 : Nat) : Int) - 1) := by
  unfold fdiv Ieee.Format.div
  have hf : F64.fractionBits + 2 = 54 := by decide +kernel
  rw [hx, hy, hf]
  simp only [Ieee.Datum.quotient, hn, if_false, Option.map_some, Option.getD_some, Nat.shiftLeft_eq, Bool.xor_false]
  rfl

theorem ne_toNat (r : Nat) : (r != 0).toNat = 0 ∧ r = 0 ∨ (r != 0).toNat = 1 ∧ 0 < r := by
  rcases Nat.eq_zero_or_pos r with h0 | h0
  · left; subst h0; exact ⟨rfl, rfl⟩
  · right
    have : (r != 0) = true := by simp; omega
    rw [this]; exact ⟨rfl, h0⟩

/-- Quotients by one divisor, as whole numbers. -/
theorem quot_mono {D1 D2 n dl : Nat} (hn : 0 < n) (h : D1 ≤ D2 * 2 ^ dl) :
    2 * (D1 / n) + (D1 % n != 0).toNat ≤ (2 * (D2 / n) + (D2 % n != 0).toNat) * 2 ^ dl ∨
    ∃ a, 0 < a ∧ a < 2 ^ (dl + 1) ∧ 2 * (D1 / n) + (D1 % n != 0).toNat = D2 / n * 2 ^ (dl + 1) + a ∧ 2 * (D2 / n) + (D2 % n != 0).toNat = 2 * (D2 / n) + 1 := by
  have e1 := Nat.div_add_mod D1 n
  have e2 := Nat.div_add_mod D2 n
  have r1 := Nat.mod_lt D1 hn
  have r2 := Nat.mod_lt D2 hn
  rcases Nat.lt_or_ge ((2 * (D2 / n) + (D2 % n != 0).toNat) * 2 ^ dl) (2 * (D1 / n) + (D1 % n != 0).toNat) with k | k
  · right
    have hp := Nat.two_pow_pos dl
    rw [Nat.pow_succ]
    generalize 2 ^ dl = P at *
    generalize D1 / n = q1 at *
    generalize D2 / n = q2 at *
    generalize D1 % n = a1 at *
    generalize D2 % n = a2 at *
    have hlt : n * q1 < n * ((q2 + 1) * P) := by
      have : D2 * P < n * (q2 + 1) * P := by
        refine Nat.mul_lt_mul_of_pos_right ?_ hp
        rw [Nat.mul_add]
        omega
      rw [← Nat.mul_assoc]
      omega
    have hlt2 : q1 < (q2 + 1) * P := Nat.lt_of_mul_lt_mul_left hlt
    rw [Nat.add_mul, Nat.one_mul] at hlt2
    have z : 2 * (q2 * P) = q2 * (P * 2) := by rw [← Nat.mul_assoc, Nat.mul_comm 2, Nat.mul_assoc, Nat.mul_comm 2]
    rcases ne_toNat a2 with ⟨b2, c2⟩ | ⟨b2, c2⟩
    · exfalso
      rw [b2, Nat.add_zero, Nat.mul_assoc] at k
      subst c2
      have hle : n * q1 + a1 ≤ n * (q2 * P) := by
        rw [← Nat.mul_assoc]
        rw [Nat.add_zero] at e2
        rw [e2, e1]
        exact h
      have hle2 : q1 ≤ q2 * P := Nat.le_of_mul_le_mul_left (Nat.le_trans (Nat.le_add_right _ _) hle) hn
      rcases ne_toNat a1 with ⟨b1, c1⟩ | ⟨b1, c1⟩
      · omega
      · have : q1 = q2 * P := by omega
        rw [this] at hle
        omega
    · rw [b2, Nat.add_mul, Nat.one_mul, Nat.mul_assoc] at k
      refine ⟨2 * q1 + (a1 != 0).toNat - q2 * (P * 2), ?_, ?_, ?_, by rw [b2]⟩
      · omega
      · rcases ne_toNat a1 with ⟨b1, c1⟩ | ⟨b1, c1⟩ <;> omega
      · omega
  · left
    exact k

theorem quot_big {m n : Nat} (hm : m ≠ 0) (hn : n ≠ 0) : 9007199254740992 ≤ m * 2 ^ (54 + n.log2 - m.log2) / n := by
  rw [Nat.le_div_iff_mul_le (Nat.pos_of_ne_zero hn)]
  have l1 : 2 ^ m.log2 ≤ m := Nat.log2_self_le hm
  have l2 : n < 2 ^ (n.log2 + 1) := Nat.lt_log2_self
  have l3 : 2 ^ (54 + n.log2) ≤ m * 2 ^ (54 + n.log2 - m.log2) := by
    refine Nat.le_trans ?_ (Nat.mul_le_mul_right _ l1)
    rw [← Nat.pow_add]
    exact Nat.pow_le_pow_right (by decide) (by omega)
  have l4 : 2 ^ (54 + n.log2) = 9007199254740992 * 2 ^ (n.log2 + 1) := by
    rw [show 54 + n.log2 = 53 + (n.log2 + 1) by omega, Nat.pow_add]
  omega

theorem log2_52 {x : Nat} {s : Bool} {m : Nat} {e : Int} (h : F64.read x = .number s m e) : m.log2 ≤ 52 := by
  by_cases hm : m = 0
  · subst hm; decide
  · have b := (number_bounds h).1
    have : m.log2 < 53 := (Nat.log2_lt hm).2 (by omega)
    omega

/-- QUOTIENTS BY ONE DIVISOR ABOVE 0 KEEP ORDER (of numbers not below 0). -/
theorem div_mono {x1 x2 y : Nat} (h1 : Num x1) (h2 : Num x2) (hy : Num y) (y0 : 0 < val y) (x0 : 0 ≤ val x1) (h : val x1 ≤ val x2) : leB (fdiv x1 y) (fdiv x2 y) = true := by
  obtain ⟨s1, m1, i1, h1⟩ := h1
  obtain ⟨s2, m2, i2, h2⟩ := h2
  obtain ⟨t, n, j, hy⟩ := hy
  have v1 : val x1 = sg s1 ((m1 : Rat) * 2 ^ i1) := by unfold val; rw [h1, dval_number]
  have v2 : val x2 = sg s2 ((m2 : Rat) * 2 ^ i2) := by unfold val; rw [h2, dval_number]
  have vy : val y = sg t ((n : Rat) * 2 ^ j) := by unfold val; rw [hy, dval_number]
  have ny := mag_nonneg n j
  have p1 := mag_nonneg m1 i1
  have p2 := mag_nonneg m2 i2
  have ht : t = false := by
    cases t
    · rfl
    · exfalso
      simp only [sg, if_true] at vy
      grind
  subst ht
  have hn : n ≠ 0 := by
    intro h0
    subst h0
    have : ((0 : Nat) : Rat) * 2 ^ j = 0 := Rat.zero_mul _
    simp only [sg, Bool.false_eq_true, if_false, this] at vy
    grind
  have pos_of : ∀ (m : Nat) (p : Int), m ≠ 0 → (0 : Rat) < (m : Rat) * 2 ^ p := by
    intro m p hm
    have : (0 : Rat) < m := by exact_mod_cast Nat.pos_of_ne_zero hm
    exact Rat.mul_pos this (p2_pos p)
  rw [div_form h1 hy hn, div_form h2 hy hn]
  have q0 : ∀ k : Nat, 0 * 2 ^ k / n = 0 := fun k => by rw [Nat.zero_mul, Nat.zero_div]
  have q1 : ∀ k : Nat, 0 * 2 ^ k % n = 0 := fun k => by rw [Nat.zero_mul, Nat.zero_mod]
  have z0 : ((0 != 0 : Bool)).toNat = 0 := rfl
  have zz : ∀ (s : Bool) (p : Int), dval (.number s 0 p) = 0 := by
    intro s p
    rw [dval_number]
    have : ((0 : Nat) : Rat) * 2 ^ p = 0 := Rat.zero_mul _
    rw [this]
    cases s <;> simp [sg]
  by_cases z2 : m2 = 0
  · subst z2
    have e2 : ((0 : Nat) : Rat) * 2 ^ i2 = 0 := Rat.zero_mul _
    have z1 : m1 = 0 := by
      refine Classical.byContradiction fun hm => ?_
      have := pos_of m1 i1 hm
      rw [v1] at h x0
      rw [v2, e2] at h
      cases s1 <;> cases s2 <;> simp only [sg, if_true, Bool.false_eq_true, if_false] at h x0 <;> grind
    subst z1
    rw [q0, q1]
    exact nearest_mono (by rw [z0, Nat.mul_zero, Nat.zero_add, zz, zz]; exact Rat.le_refl)
  · have s2f : s2 = false := by
      cases s2
      · rfl
      · exfalso
        have := pos_of m2 i2 z2
        rw [v2] at h
        simp only [sg, if_true] at h
        grind
    subst s2f
    by_cases z1 : m1 = 0
    · subst z1
      rw [q0, q1]
      refine nearest_mono ?_
      rw [z0, Nat.mul_zero, Nat.zero_add, zz, dval_number]
      simp only [sg, Bool.false_eq_true, if_false]
      exact mag_nonneg _ _
    · have s1f : s1 = false := by
        cases s1
        · rfl
        · exfalso
          have := pos_of m1 i1 z1
          rw [v1] at x0
          simp only [sg, if_true] at x0
          grind
      subst s1f
      simp only [sg, Bool.false_eq_true, if_false] at v1 v2
      rw [v1, v2] at h
      have l1 := log2_52 h1
      have l2 := log2_52 h2
      -- the places of the first digits
      have hpl : i1 + m1.log2 ≤ i2 + m2.log2 := by
        refine Classical.byContradiction fun hc => ?_
        have a1 : 2 ^ m1.log2 ≤ m1 := Nat.log2_self_le z1
        have a2 : m2 < 2 ^ (m2.log2 + 1) := Nat.lt_log2_self
        have b1 : (2 : Rat) ^ (m1.log2 : Int) ≤ m1 := by rw [p2_nat]; exact_mod_cast a1
        have b2 : (m2 : Rat) < 2 ^ ((m2.log2 + 1 : Nat) : Int) := by rw [p2_nat]; exact_mod_cast a2
        have c1 := Rat.mul_le_mul_of_nonneg_right b1 (Rat.le_of_lt (p2_pos i1))
        have c2 := Rat.mul_lt_mul_of_pos_right b2 (p2_pos i2)
        rw [← p2_add] at c1 c2
        have c3 := p2_le (show ((m2.log2 + 1 : Nat) : Int) + i2 ≤ (m1.log2 : Int) + i1 by omega)
        grind
      generalize hk1 : 54 + n.log2 - m1.log2 = k1
      generalize hk2 : 54 + n.log2 - m2.log2 = k2
      have hq := quot_big (n := n) z2 hn
      rw [hk2] at hq
      have hle : i1 - k1 ≤ i2 - k2 := by omega
      generalize hdl : ((i2 - k2) - (i1 - k1)).toNat = dl
      have hD : m1 * 2 ^ k1 ≤ m2 * 2 ^ k2 * 2 ^ dl := by
        have e1 : (m1 : Rat) * 2 ^ i1 = ((m1 * 2 ^ k1 : Nat) : Rat) * 2 ^ (i1 - k1) := by
          rw [Rat.natCast_mul, ← p2_nat, Rat.mul_assoc, ← p2_add]
          congr 2
          omega
        have e2 : (m2 : Rat) * 2 ^ i2 = ((m2 * 2 ^ k2 * 2 ^ dl : Nat) : Rat) * 2 ^ (i1 - k1) := by
          rw [Rat.natCast_mul, Rat.natCast_mul, ← p2_nat, ← p2_nat, Rat.mul_assoc, Rat.mul_assoc, ← p2_add, ← p2_add]
          congr 2
          omega
        rw [e1, e2] at h
        have := Rat.le_of_mul_le_mul_right h (p2_pos (i1 - k1))
        exact_mod_cast this
      rcases quot_mono (Nat.pos_of_ne_zero hn) hD with k | ⟨a, a0, a1, ea, eb⟩
      · refine nearest_mono ?_
        rw [dval_number, dval_number]
        simp only [sg, Bool.false_eq_true, if_false]
        generalize 2 * (m1 * 2 ^ k1 / n) + (m1 * 2 ^ k1 % n != 0).toNat = Q1 at *
        generalize 2 * (m2 * 2 ^ k2 / n) + (m2 * 2 ^ k2 % n != 0).toNat = Q2 at *
        have e2 : (Q2 : Rat) * 2 ^ (i2 - j - (k2 : Int) - 1) = ((Q2 * 2 ^ dl : Nat) : Rat) * 2 ^ (i1 - j - (k1 : Int) - 1) := by
          rw [Rat.natCast_mul, ← p2_nat, Rat.mul_assoc, ← p2_add]
          congr 2
          omega
        rw [e2]
        exact Rat.mul_le_mul_of_nonneg_right (by exact_mod_cast k) (Rat.le_of_lt (p2_pos _))
      · rw [ea, eb, nearest_gap false hq a0 a1 (by omega), show i1 - j - (k1 : Int) - 1 + ((dl + 1 : Nat) : Int) - 1 = i2 - j - (k2 : Int) - 1 by omega]
        exact leB_refl (nearest_not_nan _ _ _)
end Go.Proofs.Ytagehemimlakpaa.Fl

namespace Go.Proofs.Ytagehemimlakpaa.Fl

/-- A number that needs no rounding. -/
def Ex (r : Rat) : Prop := ∃ (s : Bool) (m : Nat) (e : Int), m < 9007199254740992 ∧ -1074 ≤ e ∧ e ≤ 971 ∧ r = dval (.number s m e)

theorem nearest_small {s : Bool} {m : Nat} {e : Int} (l1 : m < 9007199254740992) (b3 : -1074 ≤ e) (b2 : e ≤ 971) : Num (F64.nearest s m e) ∧ val (F64.nearest s m e) = dval (.number s m e) := by
  rw [dval_number]
  by_cases hm : m = 0
  · subst hm
    obtain ⟨a, v⟩ := nearest_zero s e
    refine ⟨a, ?_⟩
    rw [v]
    have : ((0 : Nat) : Rat) * 2 ^ e = 0 := Rat.zero_mul _
    rw [this]
    cases s <;> simp [sg]
  · have l2 : m.log2 < 53 := (Nat.log2_lt hm).2 l1
    have hl : lastP m e ≤ e := by unfold lastP; omega
    have hd : (lastP m e - e).toNat = 0 := by omega
    have hk : kept s m e = m * 2 ^ (e - lastP m e).toNat := by
      unfold kept
      rw [hd, cut_none, Nat.shiftLeft_eq]
    have l3 : m < 2 ^ (m.log2 + 1) := Nat.lt_log2_self
    have hk2 : kept s m e < 9007199254740992 := by
      rw [hk]
      have e1 : m * 2 ^ (e - lastP m e).toNat < 2 ^ (m.log2 + 1) * 2 ^ (e - lastP m e).toNat := Nat.mul_lt_mul_of_pos_right l3 (Nat.two_pow_pos _)
      have e2 : 2 ^ (m.log2 + 1) * 2 ^ (e - lastP m e).toNat ≤ 2 ^ 53 := by
        rw [← Nat.pow_add]
        exact Nat.pow_le_pow_right (by decide) (by unfold lastP; omega)
      omega
    have hr : (lastP m e + 1074).toNat ≤ 2045 := by omega
    rcases nearest_is s (place := e) hm with ⟨_, a, v⟩ | ⟨o, _⟩
    · refine ⟨a, ?_⟩
      rw [v, hk]
      congr 1
      rw [Rat.natCast_mul, ← p2_nat, Rat.mul_assoc, ← p2_add]
      congr 2
      omega
    · exfalso
      unfold rungOf at o
      omega

theorem rat_le_of_eq {a b : Rat} (h : a = b) : a ≤ b := h ▸ Rat.le_refl
theorem num_between {x y : Nat} (hy : Num y) (h1 : leB x y = true) (h2 : leB y x = true) : Num x ∧ val x = val y := by
  have hx : Num x := by
    obtain ⟨s, m, e, hr⟩ := hy
    cases hx : F64.read x with
    | nan a b =>
      exfalso
      have : isN x = true := by unfold isN; rw [hx]; rfl
      have := (leB_not_nan h1).1
      simp_all
    | infinity a =>
      exfalso
      unfold leB ford Ieee.Format.order at h1 h2
      rw [hx, hr] at h1 h2
      cases a
      · cases h1
      · cases h2
    | number a b c => exact ⟨a, b, c, hx⟩
  refine ⟨hx, ?_⟩
  rw [leB_val hx hy] at h1
  rw [leB_val hy hx] at h2
  exact Rat.le_antisymm (of_decide_eq_true h1) (of_decide_eq_true h2)

/-- A word written of a number that needs no rounding. -/
theorem write_ex {s : Bool} {m : Nat} {e : Int} (h : Ex (dval (.number s m e))) : Num (F64.nearest s m e) ∧ val (F64.nearest s m e) = dval (.number s m e) := by
  obtain ⟨t, n, j, h0, h1, h2, h3⟩ := h
  obtain ⟨a, v⟩ := nearest_small (s := t) h0 h1 h2
  obtain ⟨a2, v2⟩ := num_between a (nearest_mono (rat_le_of_eq h3)) (nearest_mono (rat_le_of_eq h3.symm))
  exact ⟨a2, by rw [v2, v, ← h3]⟩
theorem mul_ex {x y : Nat} (hx : Num x) (hy : Num y) (h : Ex (val x * val y)) : Num (fmul x y) ∧ val (fmul x y) = val x * val y := by
  obtain ⟨s, m, e, hf, hv⟩ := mul_near hx hy
  rw [hf, ← hv]
  rw [← hv] at h
  exact write_ex h
theorem add_ex {x y : Nat} (hx : Num x) (hy : Num y) (h : Ex (val x + val y)) : Num (fadd x y) ∧ val (fadd x y) = val x + val y := by
  obtain ⟨s, m, e, hf, hv⟩ := add_near hx hy
  rw [hf, ← hv]
  rw [← hv] at h
  exact write_ex h
theorem sub_ex {x y : Nat} (hx : Num x) (hy : Num y) (h : Ex (val x - val y)) : Num (fsub x y) ∧ val (fsub x y) = val x - val y := by
  obtain ⟨s, m, e, hf, hv⟩ := sub_near hx hy
  rw [hf, ← hv]
  rw [← hv] at h
  exact write_ex h

/-- A quotient by a power of two. -/
theorem div_ex {x y : Nat} {j : Int} (hx : Num x) (hy : F64.read y = .number false 4503599627370496 j) (h : Ex (val x * 2 ^ (-52 - j))) : Num (fdiv x y) ∧ val (fdiv x y) = val x * 2 ^ (-52 - j) := by
  obtain ⟨s, m, i, hx⟩ := hx
  have hl := log2_52 hx
  have hf := div_form hx hy (by decide)
  have hlog : (4503599627370496 : Nat).log2 = 52 := by decide +kernel
  rw [hlog] at hf
  have e0 : 54 + 52 - m.log2 = 52 + (54 - m.log2) := by omega
  have e1 : m * 2 ^ (54 + 52 - m.log2) = m * 2 ^ (54 - m.log2) * 4503599627370496 := by
    rw [e0, Nat.pow_add, Nat.mul_assoc, Nat.mul_comm (2 ^ (54 - m.log2))]
  rw [e1, Nat.mul_div_cancel _ (by decide), Nat.mul_mod_left] at hf
  have hv : dval (.number s (2 * (m * 2 ^ (54 - m.log2)) + ((0 : Nat) != 0).toNat) (i - j - ((54 + 52 - m.log2 : Nat) : Int) - 1)) = val x * 2 ^ (-52 - j) := by
    unfold val
    rw [hx, dval_number, dval_number]
    have z : ((0 : Nat) != 0).toNat = 0 := rfl
    rw [z, Nat.add_zero, Rat.natCast_mul, Rat.natCast_mul, ← p2_nat]
    have z2 : ((2 : Nat) : Rat) = 2 ^ (1 : Int) := by decide +kernel
    have z3 : (2 : Rat) ^ i * 2 ^ (-52 - j) = 2 ^ (1 : Int) * 2 ^ ((54 - m.log2 : Nat) : Int) * 2 ^ (i - j - ((54 + 52 - m.log2 : Nat) : Int) - 1) := by
      rw [← p2_add, ← p2_add, ← p2_add]
      congr 1
      omega
    rw [z2]
    generalize (2 : Rat) ^ i = a at *
    generalize (2 : Rat) ^ (-52 - j) = b at *
    generalize (2 : Rat) ^ (1 : Int) = c at *
    generalize (2 : Rat) ^ ((54 - m.log2 : Nat) : Int) = d at *
    generalize (2 : Rat) ^ (i - j - ((54 + 52 - m.log2 : Nat) : Int) - 1) = f at *
    cases s <;> simp only [sg, if_true, Bool.false_eq_true, if_false] <;> grind
  rw [hf, ← hv]
  rw [← hv] at h
  exact write_ex h

/-- A whole number as a float. -/
theorem ofint_val {n : Int} (h0 : -9007199254740992 < n) (h1 : n < 9007199254740992) : Num (floatOfInt .f64 n) ∧ val (floatOfInt .f64 n) = n := by
  have e : floatOfInt .f64 n = F64.nearest (decide (n < 0)) n.natAbs 0 := rfl
  obtain ⟨a, v⟩ := nearest_small (s := decide (n < 0)) (m := n.natAbs) (e := 0) (by omega) (by decide) (by decide)
  rw [e]
  refine ⟨a, ?_⟩
  rw [v, dval_number]
  have z : (2 : Rat) ^ (0 : Int) = 1 := by decide +kernel
  rw [z, Rat.mul_one]
  by_cases h : n < 0
  · rw [decide_eq_true h]
    simp only [sg, if_true]
    rw [← Rat.intCast_natCast, ← Rat.intCast_neg]
    congr 1
    omega
  · rw [decide_eq_false h]
    simp only [sg, Bool.false_eq_true, if_false]
    rw [← Rat.intCast_natCast]
    congr 1
    omega
theorem ofint_wd (n : Int) : Wd (floatOfInt .f64 n) := wd_of (floatOfInt_wf .f64 n)
theorem ord_eq {x y : Nat} (hx : Num x) (hy : Num y) (h : val x = val y) : ford x y = some .eq := by
  have h1 := leB_val hx hy
  have h2 := leB_val hy hx
  rw [decide_eq_true (rat_le_of_eq h)] at h1
  rw [decide_eq_true (rat_le_of_eq h.symm)] at h2
  have hs := ford_swap x y
  unfold leB at h1 h2
  rw [hs] at h2
  cases ho : ford x y with
  | none => rw [ho] at h1; exact absurd h1 (by decide)
  | some o => cases o <;> rw [ho] at h1 h2 <;> first | rfl | exact absurd h1 (by decide) | exact absurd h2 (by decide)

/-! Operations on numbers give a word, with no draw -/
theorem mul_some {x y : Nat} (hx : Num x) (hy : Num y) : F64.mul x y = some (fmul x y) := by
  obtain ⟨s, m, i, hx⟩ := hx
  obtain ⟨t, n, j, hy⟩ := hy
  unfold fmul Ieee.Format.mul
  rw [hx, hy]
  rfl
theorem div_some {x y : Nat} {t : Bool} {n : Nat} {j : Int} (hx : Num x) (hy : F64.read y = .number t n j) (hn : n ≠ 0) : F64.div x y = some (fdiv x y) := by
  obtain ⟨s, m, i, hx⟩ := hx
  unfold fdiv Ieee.Format.div
  rw [hx, hy]
  simp only [Ieee.Datum.quotient, hn, if_false, Option.map_some, Option.getD_some]
section
variable {P : Program} (w : World)
theorem run_mul_num (t : TypeId) {x y : Nat} (hx : Num x) (hy : Num y) : (binOp .mul t (.float .f64 x) (.float .f64 y)).run P w = .ok (.float .f64 (fmul x y)) w :=
  run_float_arith w .mul t .f64 x y _ (mul_some hx hy)
theorem run_div_num (t : TypeId) {x y : Nat} {s : Bool} {n : Nat} {j : Int} (hx : Num x) (hy : F64.read y = .number s n j) (hn : n ≠ 0) : (binOp .quo t (.float .f64 x) (.float .f64 y)).run P w = .ok (.float .f64 (fdiv x y)) w :=
  run_float_arith w .quo t .f64 x y _ (div_some hx hy hn)
end
end Go.Proofs.Ytagehemimlakpaa.Fl

namespace Go.Proofs.Ytagehemimlakpaa.Fl

def w1 : Nat := 4607182418800017408
theorem num_w1 : Num w1 := ⟨false, 4503599627370496, -52, by decide +kernel⟩
theorem val_w1 : val w1 = 1 := by decide +kernel
/-- (1 and f times f), its root, 1 and f divided by it. -/
def secQ (f : Nat) : Nat := fadd w1 (fmul f f)
def secD (f : Nat) : Nat := fsqrt (secQ f)
def secC (f : Nat) : Nat := fdiv w1 (secD f)
def secS (f : Nat) : Nat := fdiv f (secD f)

/-- What is known of them, f from 0 to 1. -/
structure Sec (f : Nat) : Prop where
  nq : Num (secQ f)
  nd : Num (secD f)
  nc : Num (secC f)
  ns : Num (secS f)
  q0 : 1 - 2 * dl ≤ val (secQ f)
  q1 : val (secQ f) ≤ 2 + 2 * dl
  dd : Ab (val (secD f) * val (secD f) - (1 + val f * val f)) (3 * dl)
  d0 : 15 / 16 ≤ val (secD f)
  d1 : val (secD f) ≤ 3 / 2
  cd : Ab (val (secC f) * val (secD f) - 1) (5 * dl)
  sd : Ab (val (secS f) * val (secD f) - val f) (5 * dl)
  len : Ab (val (secC f) * val (secC f) + val (secS f) * val (secS f) - 1) (24 * dl)
  c0 : 5 / 8 ≤ val (secC f)
  c1 : val (secC f) ≤ 9 / 8
  s0 : -(5 * dl) * 2 ≤ val (secS f)
  s1 : val (secS f) ≤ 9 / 8

theorem dl_le : dl ≤ 1 / 1048576 := by unfold dl; grind
theorem dl_ge : 0 ≤ dl := by unfold dl; grind
theorem sq_ge {a A : Rat} (h0 : 0 ≤ a) (h : A * A ≤ a * a) : A ≤ a := by
  by_cases h1 : A ≤ a
  · exact h1
  · exfalso
    have p1 := Rat.mul_pos (show 0 < A - a by grind) (show 0 < A - a by grind)
    have p2 := Rat.mul_nonneg (show 0 ≤ A - a by grind) h0
    grind
/-- A bound on a product with what is nearly 1 or more. -/
theorem ab_div {t g B B' : Rat} (hg : 1023 / 1024 ≤ g) (h : Ab (t * g) B) (hB : B ≤ B' * (1023 / 1024)) (hB0 : 0 ≤ B') : Ab t B' := by
  unfold Ab at *
  obtain ⟨h1, h2⟩ := h
  constructor
  · by_cases k : -B' ≤ t
    · exact k
    · exfalso
      have p := Rat.mul_nonneg (show 0 ≤ -B' - t by grind) (show 0 ≤ g - 1023 / 1024 by grind)
      have p2 := Rat.mul_nonneg hB0 (show 0 ≤ g - 1023 / 1024 by grind)
      grind
  · by_cases k : t ≤ B'
    · exact k
    · exfalso
      have p := Rat.mul_nonneg (show 0 ≤ t - B' by grind) (show 0 ≤ g - 1023 / 1024 by grind)
      have p2 := Rat.mul_nonneg hB0 (show 0 ≤ g - 1023 / 1024 by grind)
      grind

theorem sec_alg {D C S F : Rat} (fa : Ab F 1) (f0 : 0 ≤ F) (dd : Ab (D * D - (1 + F * F)) (3 * dl)) (d0 : 15 / 16 ≤ D) (ec' : Ab (C * D - 1) (5 * dl)) (es' : Ab (S * D - F) (5 * dl)) :
    Ab (C * C + S * S - 1) (24 * dl) ∧ 5 / 8 ≤ C ∧ C ≤ 9 / 8 ∧ -(5 * dl) * 2 ≤ S ∧ S ≤ 9 / 8 := by
  have hd := dl_le
  have hd0 := dl_ge
  have hdd : dl * dl ≤ dl * (1 / 1048576) := Rat.mul_le_mul_of_nonneg_left hd hd0
  have hdd0 : 0 ≤ dl * dl := Rat.mul_nonneg hd0 hd0
  have hFF : 0 ≤ F * F := Rat.mul_nonneg f0 f0
  have d1 : D ≤ 3 / 2 := by
    have ff := fa.mul fa
    refine (Ab.of_sq (A := 3 / 2) (by grind) ?_).2
    unfold Ab at dd ff
    grind
  have g1 : 1023 / 1024 ≤ D * D := by unfold Ab at dd; grind
  have cc : Ab ((C * D - 1) * (C * D - 1)) (5 * dl * (5 * dl)) := ec'.mul ec'
  have ss : Ab ((S * D - F) * (S * D - F)) (5 * dl * (5 * dl)) := es'.mul es'
  have fs : Ab (F * (S * D - F)) (1 * (5 * dl)) := fa.mul es'
  have len : Ab (C * C + S * S - 1) (24 * dl) := by
    refine ab_div (g := D * D) (B := 23 * dl + dl * (1 / 1000)) g1 ?_ (by grind) (by grind)
    have e : (C * C + S * S - 1) * (D * D) = 2 * (C * D - 1) + (C * D - 1) * (C * D - 1) + 2 * (F * (S * D - F)) + (S * D - F) * (S * D - F) - (D * D - (1 + F * F)) := by grind
    rw [e]
    generalize C * D - 1 = a at *
    generalize a * a = aa at *
    generalize F * (S * D - F) = b at *
    generalize (S * D - F) * (S * D - F) = bb at *
    generalize D * D - (1 + F * F) = c at *
    unfold Ab at *
    constructor <;> grind
  have c0 : 5 / 8 ≤ C := by
    by_cases k : 5 / 8 ≤ C
    · exact k
    · exfalso
      have p := Rat.mul_nonneg (show 0 ≤ 5 / 8 - C by grind) (show 0 ≤ D by grind)
      unfold Ab at ec'
      grind
  have c1 : C ≤ 9 / 8 := by
    by_cases k : C ≤ 9 / 8
    · exact k
    · exfalso
      have p := Rat.mul_nonneg (show 0 ≤ C - 9 / 8 by grind) (show 0 ≤ D by grind)
      unfold Ab at ec'
      grind
  have s0 : -(5 * dl) * 2 ≤ S := by
    by_cases k : -(5 * dl) * 2 ≤ S
    · exact k
    · exfalso
      have p := Rat.mul_nonneg (show 0 ≤ -(5 * dl) * 2 - S by grind) (show 0 ≤ D - 15 / 16 by grind)
      have p2 := Rat.mul_nonneg hd0 (show 0 ≤ D - 15 / 16 by grind)
      unfold Ab at es'
      grind
  have s1 : S ≤ 9 / 8 := by
    refine (Ab.of_sq (A := 9 / 8) (by grind) ?_).2
    have := sq_nonneg C
    unfold Ab at len
    grind
  exact ⟨len, c0, c1, s0, s1⟩

theorem sec_vals {f : Nat} (hf : Num f) (f0 : 0 ≤ val f) (f1 : val f ≤ 1) : Sec f := by
  have fa : Ab (val f) 1 := ⟨by grind, f1⟩
  have ff := fa.mul fa
  obtain ⟨n1, e1⟩ := mul_ab hf hf (ff.mono (by grind))
  have hd := dl_le
  have hd0 := dl_ge
  have hdd : dl * dl ≤ dl * (1 / 1048576) := Rat.mul_le_mul_of_nonneg_left hd hd0
  have hdd0 : 0 ≤ dl * dl := Rat.mul_nonneg hd0 hd0
  have hff0 : 0 ≤ val f * val f := Rat.mul_nonneg f0 f0
  have hff1 : val f * val f ≤ 1 := by unfold Ab at ff; grind
  obtain ⟨n2, e2⟩ := add_ab num_w1 n1 (by rw [val_w1]; unfold Ab at *; constructor <;> grind)
  rw [val_w1] at e2
  have nq : Num (secQ f) := n2
  have eq : Ab (val (secQ f) - (1 + val (fmul f f))) dl := e2
  have q0 : 1 - 2 * dl ≤ val (secQ f) := by unfold Ab at *; grind
  have q1 : val (secQ f) ≤ 2 + 2 * dl := by unfold Ab at *; grind
  obtain ⟨nd, dn, d3, ed, _⟩ := sqrt_ab nq (by grind) (by grind)
  have nd' : Num (secD f) := nd
  have ed' : Ab (val (secD f) * val (secD f) - val (secQ f)) dl := ed
  have dn' : 0 ≤ val (secD f) := dn
  have dd : Ab (val (secD f) * val (secD f) - (1 + val f * val f)) (3 * dl) := by unfold Ab at *; constructor <;> grind
  have d0 : 15 / 16 ≤ val (secD f) := sq_ge dn' (by unfold Ab at dd; grind)
  have d1 : val (secD f) ≤ 3 / 2 := (Ab.of_sq (A := 3 / 2) (by grind) (by unfold Ab at dd; grind)).2
  have d4 : Ab (val (secD f)) 4 := by unfold Ab; constructor <;> grind
  obtain ⟨nc, ec⟩ := div_ab num_w1 nd' (by rw [val_w1]; unfold Ab; constructor <;> grind) (.inl (by grind)) d4
  obtain ⟨ns, es⟩ := div_ab hf nd' fa (.inl (by grind)) d4
  rw [val_w1] at ec
  have nc' : Num (secC f) := nc
  have ns' : Num (secS f) := ns
  have ec' : Ab (val (secC f) * val (secD f) - 1) (5 * dl) := ec
  have es' : Ab (val (secS f) * val (secD f) - val f) (5 * dl) := es
  clear nc ns ec es nd ed dn e1 e2 n1 n2 eq
  obtain ⟨len, c0, c1, s0, s1⟩ := sec_alg fa f0 dd d0 ec' es'
  exact ⟨nq, nd', nc', ns', q0, q1, dd, d0, d1, ec', es', len, c0, c1, s0, s1⟩
end Go.Proofs.Ytagehemimlakpaa.Fl

namespace Go.Proofs.Ytagehemimlakpaa.Fl

/-- A pair that is nearly of length 1. -/
structure Unit2 (x y : Nat) : Prop where
  nx : Num x
  ny : Num y
  ax : Ab (val x) (9 / 8)
  ay : Ab (val y) (9 / 8)
  len : Ab (val x * val x + val y * val y - 1) (24 * dl)
theorem Sec.unit {f : Nat} (h : Sec f) : Unit2 (secC f) (secS f) := by
  have hd := dl_le
  have hd0 := dl_ge
  exact ⟨h.nc, h.ns, ⟨by have := h.c0; grind, h.c1⟩, ⟨by have := h.s0; grind, h.s1⟩, h.len⟩
theorem Unit2.swap {x y : Nat} (h : Unit2 x y) : Unit2 y x := ⟨h.ny, h.nx, h.ay, h.ax, by have := h.len; unfold Ab at *; constructor <;> grind⟩
/-- The square of a product, and what rounding does to both. -/
theorem mul_sq {x r : Nat} (hx : Num x) (hr : Num r) (ax : Ab (val x) (9 / 8)) (ar : Ab (val r) (17 / 16)) : Num (fmul x r) ∧ Ab (val (fmul x r)) (6 / 5) ∧ Num (fmul (fmul x r) (fmul x r)) ∧ Ab (val (fmul (fmul x r) (fmul x r)) - val x * val x * (val r * val r)) (4 * dl) := by
  have hd := dl_le
  have hd0 := dl_ge
  have xr := ax.mul ar
  obtain ⟨n1, e1⟩ := mul_ab hx hr (xr.mono (by grind))
  have s0 : Ab (val (fmul x r)) (6 / 5) := by unfold Ab at *; constructor <;> grind
  obtain ⟨n2, e2⟩ := mul_ab n1 n1 ((s0.mul s0).mono (by grind))
  refine ⟨n1, s0, n2, ?_⟩
  have e3 := e1.mul (s0.add xr)
  have e4 : val (fmul x r) * val (fmul x r) - val x * val x * (val r * val r) = (val (fmul x r) - val x * val r) * (val (fmul x r) + val x * val r) := by grind
  have e5 : Ab (val (fmul x r) * val (fmul x r) - val x * val x * (val r * val r)) (3 * dl) := by
    rw [e4]
    exact e3.mono (by grind)
  have e6 := e2.add e5
  have e7 : val (fmul (fmul x r) (fmul x r)) - val (fmul x r) * val (fmul x r) + (val (fmul x r) * val (fmul x r) - val x * val x * (val r * val r)) = val (fmul (fmul x r) (fmul x r)) - val x * val x * (val r * val r) := by grind
  rw [e7] at e6
  exact e6.mono (by grind)
/-- The square of the length of a pair that is nearly of length 1, times r: near to V, where r's square is near to V. -/
theorem pair_sq {x y r : Nat} {V B : Rat} (h : Unit2 x y) (hr : Num r) (r0 : 0 ≤ val r) (hV : Ab (val r * val r - V) B) (hB : B ≤ 1 / 1024) (v1 : V ≤ 1 + 1 / 1024) :
    Num (fadd (fmul (fmul x r) (fmul x r)) (fmul (fmul y r) (fmul y r))) ∧ Ab (val (fadd (fmul (fmul x r) (fmul x r)) (fmul (fmul y r) (fmul y r))) - V) (34 * dl + B) := by
  have hd := dl_le
  have hd0 := dl_ge
  have r1 : Ab (val r) (17 / 16) := Ab.of_sq (by grind) (by unfold Ab at hV; grind)
  obtain ⟨_, sx, nx, ex⟩ := mul_sq h.nx hr h.ax r1
  obtain ⟨_, sy, ny, ey⟩ := mul_sq h.ny hr h.ay r1
  have hl := h.len
  have hR : 0 ≤ val r * val r := Rat.mul_nonneg r0 r0
  have hR1 : Ab (val r * val r) (257 / 256) := by unfold Ab at *; constructor <;> grind
  have el := hl.mul hR1
  have e0 : (val x * val x + val y * val y - 1) * (val r * val r) = val x * val x * (val r * val r) + val y * val y * (val r * val r) - val r * val r := by grind
  rw [e0] at el
  have hp0 : 0 ≤ val x * val x * (val r * val r) := Rat.mul_nonneg (sq_nonneg _) hR
  have hq0 : 0 ≤ val y * val y * (val r * val r) := Rat.mul_nonneg (sq_nonneg _) hR
  have hs : Ab (val (fmul (fmul x r) (fmul x r)) + val (fmul (fmul y r) (fmul y r))) 64 := by unfold Ab at *; constructor <;> grind
  obtain ⟨n, e⟩ := add_ab nx ny hs
  refine ⟨n, ?_⟩
  unfold Ab at *
  constructor <;> grind

/-- What is written of a number not below 0 is not below 0. -/
theorem near_ge0 {s : Bool} {m : Nat} {e : Int} (h : 0 ≤ dval (.number s m e)) (hn : Num (F64.nearest s m e)) : 0 ≤ val (F64.nearest s m e) := by
  obtain ⟨z0, z1⟩ := nearest_zero false 0
  have l0 := nearest_mono (n1 := false) (m1 := 0) (p1 := 0) (n2 := s) (m2 := m) (p2 := e) (by
    rw [dval_number]
    have : sg false (((0 : Nat) : Rat) * 2 ^ (0 : Int)) = 0 := by decide +kernel
    rw [this]; exact h)
  rw [leB_val z0 hn, z1] at l0
  exact of_decide_eq_true l0
theorem sub_ge0 {x y : Nat} (hx : Num x) (hy : Num y) (h : val y ≤ val x) (hn : Num (fsub x y)) : 0 ≤ val (fsub x y) := by
  obtain ⟨s, m, e, hf, hv⟩ := sub_near hx hy
  rw [hf] at hn ⊢
  exact near_ge0 (by rw [hv]; grind) hn

/-- Above a point of the disk: (X times r, Y times r, the root of 1 less u), r the root of u. -/
def hemiN (x y u : Nat) : Nat := fadd (fadd (fmul (fmul x (fsqrt u)) (fmul x (fsqrt u))) (fmul (fmul y (fsqrt u)) (fmul y (fsqrt u)))) (fmul (fsqrt (fsub w1 u)) (fsqrt (fsub w1 u)))
theorem disk_len {x y u : Nat} (h : Unit2 x y) (hu : Num u) (u0 : 0 ≤ val u) (u1 : val u ≤ 1) :
    Num (fadd (fmul (fmul x (fsqrt u)) (fmul x (fsqrt u))) (fmul (fmul y (fsqrt u)) (fmul y (fsqrt u)))) ∧ Ab (val (fadd (fmul (fmul x (fsqrt u)) (fmul x (fsqrt u))) (fmul (fmul y (fsqrt u)) (fmul y (fsqrt u)))) - val u) (35 * dl) := by
  have hd := dl_le
  have hd0 := dl_ge
  obtain ⟨nr, r0, _, er, _⟩ := sqrt_ab hu u0 (by grind)
  obtain ⟨n, e⟩ := pair_sq h nr r0 er (by grind) (by grind)
  exact ⟨n, e.mono (by grind)⟩
theorem hemi_len {x y u : Nat} (h : Unit2 x y) (hu : Num u) (u0 : 0 ≤ val u) (u1 : val u ≤ 1) : Num (hemiN x y u) ∧ Ab (val (hemiN x y u) - 1) (39 * dl) ∧ Num (fsqrt (fsub w1 u)) ∧ 0 ≤ val (fsqrt (fsub w1 u)) := by
  have hd := dl_le
  have hd0 := dl_ge
  obtain ⟨n, e⟩ := disk_len h hu u0 u1
  obtain ⟨n1, e1⟩ := sub_ab num_w1 hu (by rw [val_w1]; unfold Ab; constructor <;> grind)
  rw [val_w1] at e1
  have z0 := sub_ge0 num_w1 hu (by rw [val_w1]; exact u1) n1
  have z1 : val (fsub w1 u) ≤ 2 := by unfold Ab at e1; grind
  obtain ⟨nz, s0, s3, ez, _⟩ := sqrt_ab n1 z0 (by grind)
  have sz := sq_nonneg (val (fsqrt (fsub w1 u)))
  obtain ⟨nzz, ezz⟩ := mul_ab nz nz (by unfold Ab at *; constructor <;> grind)
  have hs : Ab (val (fadd (fmul (fmul x (fsqrt u)) (fmul x (fsqrt u))) (fmul (fmul y (fsqrt u)) (fmul y (fsqrt u)))) + val (fmul (fsqrt (fsub w1 u)) (fsqrt (fsub w1 u)))) 64 := by unfold Ab at *; constructor <;> grind
  obtain ⟨nn, en⟩ := add_ab n nzz hs
  refine ⟨nn, ?_, nz, s0⟩
  unfold hemiN
  unfold Ab at *
  constructor <;> grind

/-- All around: (X times r, Y times r, Z), Z from -1 to 1 and r the root of 1 less Z times Z (of 0, if that is below 0). -/
theorem ball_len {x y z q r : Nat} (h : Unit2 x y) (hz : Num z) (az : Ab (val z) (1 + 4 * dl)) (hq : q = fsub w1 (fmul z z)) (hr : r = fsqrt (if (ford q 0 == some .lt) = true then 0 else q)) :
    Num q ∧ Num (fadd (fadd (fmul (fmul x r) (fmul x r)) (fmul (fmul y r) (fmul y r))) (fmul z z)) ∧ Ab (val (fadd (fadd (fmul (fmul x r) (fmul x r)) (fmul (fmul y r) (fmul y r))) (fmul z z)) - 1) (54 * dl) := by
  have hd := dl_le
  have hd0 := dl_ge
  have hdd : dl * dl ≤ dl * (1 / 1048576) := Rat.mul_le_mul_of_nonneg_left hd hd0
  have hdd0 : 0 ≤ dl * dl := Rat.mul_nonneg hd0 hd0
  have zz := az.mul az
  have z0 := sq_nonneg (val z)
  have z1 : val z * val z ≤ 1 + 9 * dl := by unfold Ab at zz; grind
  obtain ⟨n1, e1⟩ := mul_ab hz hz (by unfold Ab; constructor <;> grind)
  obtain ⟨n2, e2⟩ := sub_ab num_w1 n1 (by rw [val_w1]; unfold Ab at *; constructor <;> grind)
  rw [val_w1] at e2
  rw [← hq] at n2 e2
  obtain ⟨p, hp⟩ : ∃ p, p = if (ford q 0 == some .lt) = true then 0 else q := ⟨_, rfl⟩
  rw [← hp] at hr
  have hlt := lt_val n2 num_zero
  rw [val_zero] at hlt
  have hpp : Num p ∧ 0 ≤ val p ∧ Ab (val p - (1 - val z * val z)) (13 * dl) := by
    rw [hp, hlt]
    by_cases k : val q < 0
    · rw [decide_eq_true k, if_pos rfl]
      refine ⟨num_zero, by rw [val_zero]; exact Rat.le_refl, ?_⟩
      rw [val_zero]
      unfold Ab at *
      constructor <;> grind
    · rw [decide_eq_false k, if_neg (by simp)]
      refine ⟨n2, by grind, ?_⟩
      unfold Ab at *
      constructor <;> grind
  obtain ⟨np, p0, ep⟩ := hpp
  obtain ⟨nr, r0, _, er, _⟩ := sqrt_ab np p0 (by unfold Ab at ep; grind)
  rw [← hr] at nr r0 er
  have er2 : Ab (val r * val r - (1 - val z * val z)) (14 * dl) := by unfold Ab at *; constructor <;> grind
  obtain ⟨n3, e3⟩ := pair_sq h nr r0 er2 (by grind) (by grind)
  have hs : Ab (val (fadd (fmul (fmul x r) (fmul x r)) (fmul (fmul y r) (fmul y r))) + val (fmul z z)) 64 := by unfold Ab at *; constructor <;> grind
  obtain ⟨nn, en⟩ := add_ab n3 n1 hs
  refine ⟨n2, nn, ?_⟩
  unfold Ab at *
  constructor <;> grind
end Go.Proofs.Ytagehemimlakpaa.Fl

namespace Go.Proofs.Ytagehemimlakpaa.Fl

def eighth : Nat := 4593671619917905920
theorem num_eighth : Num eighth := ⟨false, 4503599627370496, -55, by decide +kernel⟩
theorem val_eighth : val eighth = 1 / 8 := by decide +kernel
/-- The density by f. -/
def densF (f : Nat) : Nat := fmul (secQ f) eighth
theorem dens_ab {f : Nat} (hf : Num f) {F B : Rat} (hF : Ab (val f - F) B) (hB : B ≤ 1 / 1024) (f0 : 0 ≤ F) (f1 : F ≤ 1) : Num (densF f) ∧ Ab (val (densF f) - (1 + F * F) * (1 / 8)) (B * (3 / 8) + 2 * dl) := by
  have hd := dl_le
  have hd0 := dl_ge
  have fa : Ab (val f) (9 / 8) := by unfold Ab at *; constructor <;> grind
  have Fa : Ab F 1 := by unfold Ab; constructor <;> grind
  have ff := fa.mul fa
  have f00 := sq_nonneg (val f)
  obtain ⟨n1, e1⟩ := mul_ab hf hf (ff.mono (by grind))
  obtain ⟨n2, e2⟩ := add_ab num_w1 n1 (by rw [val_w1]; unfold Ab at *; constructor <;> grind)
  rw [val_w1] at e2
  obtain ⟨n3, e3⟩ := mul_ab n2 num_eighth (by rw [val_eighth]; unfold Ab at *; constructor <;> grind)
  rw [val_eighth] at e3
  refine ⟨n3, ?_⟩
  have k := hF.mul (fa.add Fa)
  have e : (val f - F) * (val f + F) = val f * val f - F * F := by grind
  rw [e] at k
  have hB0 := hF.nonneg
  have k2 := k.mono (show B * (9 / 8 + 1) ≤ B * 3 by grind)
  unfold densF secQ
  unfold Ab at *
  constructor <;> grind

/-- What is less, divided by what is greater, tells f again. -/
theorem sec_back {f : Nat} (hf : Num f) (f0 : 0 ≤ val f) (f1 : val f ≤ 1) : Num (fdiv (secS f) (secC f)) ∧ Ab (val (fdiv (secS f) (secC f)) - val f) (20 * dl) := by
  have h := sec_vals hf f0 f1
  have hd := dl_le
  have hd0 := dl_ge
  have c0 := h.c0
  have c1 := h.c1
  have len := h.len
  have cc := Rat.mul_nonneg (show 0 ≤ val (secC f) - 5 / 8 by grind) (show 0 ≤ val (secC f) + 5 / 8 by grind)
  have sa : Ab (val (secS f)) (7 / 8) := Ab.of_sq (by grind) (by unfold Ab at len; grind)
  obtain ⟨n, e⟩ := div_ab h.ns h.nc (sa.mono (by grind)) (.inl (by grind)) (by unfold Ab; constructor <;> grind)
  refine ⟨n, ?_⟩
  have D0 := h.d0
  have D1 := h.d1
  have ec := h.cd
  have es := h.sd
  generalize val (fdiv (secS f) (secC f)) = g at *
  generalize val (secS f) = S at *
  generalize val (secC f) = C at *
  generalize val (secD f) = D at *
  generalize val f = F at *
  have Da : Ab D (3 / 2) := by unfold Ab; constructor <;> grind
  have k1 := e.mul Da
  have e1 : (g * C - S) * D = g * (C * D) - S * D := by grind
  rw [e1] at k1
  -- g (1 + a) = F + b
  have k2 : Ab (g * (C * D) - F) (13 * dl) := by unfold Ab at *; constructor <;> grind
  have ga : Ab g (17 / 16) := by
    have hh : Ab (g * (C * D)) (1 + 13 * dl) := by unfold Ab at *; constructor <;> grind
    exact ab_div (g := C * D) (B := 1 + 13 * dl) (by unfold Ab at ec; grind) hh (by grind) (by grind)
  have k3 := ga.mul ec
  have e3 : g * (C * D - 1) = g * (C * D) - g := by grind
  rw [e3] at k3
  unfold Ab at *
  constructor <;> grind

/-- The density of a draw's direction beside the draw's. -/
theorem dens_back {f : Nat} (hf : Num f) (f0 : 0 ≤ val f) (f1 : val f ≤ 1) : Num (densF (fdiv (secS f) (secC f))) ∧ Num (densF f) ∧ Ab (val (densF (fdiv (secS f) (secC f))) - val (densF f)) (12 * dl) := by
  have hd := dl_le
  have hd0 := dl_ge
  obtain ⟨n, e⟩ := sec_back hf f0 f1
  obtain ⟨n1, e1⟩ := dens_ab n e (by grind) f0 f1
  obtain ⟨n2, e2⟩ := dens_ab hf (F := val f) (B := 0) (by unfold Ab; constructor <;> grind) (by grind) f0 f1
  refine ⟨n1, n2, ?_⟩
  unfold Ab at *
  constructor <;> grind
end Go.Proofs.Ytagehemimlakpaa.Fl

namespace Go.Proofs.Ytagehemimlakpaa.Fl

/-- What is written lies between what lies around it. -/
theorem near_le {s t : Bool} {m n : Nat} {e j : Int} (h : dval (.number s m e) ≤ dval (.number t n j)) (hn : Num (F64.nearest s m e)) (hk : Num (F64.nearest t n j)) : val (F64.nearest s m e) ≤ val (F64.nearest t n j) := by
  have l := nearest_mono h
  rw [leB_val hn hk] at l
  exact of_decide_eq_true l
theorem near_hi {s t : Bool} {m n : Nat} {e j : Int} {R : Rat} (hk : Num (F64.nearest t n j)) (hv : val (F64.nearest t n j) = R) (hd : dval (.number t n j) = R) (h : dval (.number s m e) ≤ R) (hn : Num (F64.nearest s m e)) : val (F64.nearest s m e) ≤ R := by
  rw [← hv]; exact near_le (by rw [hd]; exact h) hn hk
theorem near_lo {s t : Bool} {m n : Nat} {e j : Int} {R : Rat} (hk : Num (F64.nearest t n j)) (hv : val (F64.nearest t n j) = R) (hd : dval (.number t n j) = R) (h : R ≤ dval (.number s m e)) (hn : Num (F64.nearest s m e)) : R ≤ val (F64.nearest s m e) := by
  rw [← hv]; exact near_le (by rw [hd]; exact h) hk hn
theorem n_one : Num (F64.nearest false 1 0) := ⟨false, 4503599627370496, -52, by decide +kernel⟩
theorem n_two : Num (F64.nearest false 2 0) := ⟨false, 4503599627370496, -51, by decide +kernel⟩
theorem n_neg : Num (F64.nearest true 1 0) := ⟨true, 4503599627370496, -52, by decide +kernel⟩
theorem n_8th : Num (F64.nearest false 1 (-3)) := ⟨false, 4503599627370496, -55, by decide +kernel⟩
theorem n_4th : Num (F64.nearest false 1 (-2)) := ⟨false, 4503599627370496, -54, by decide +kernel⟩
theorem n_zero : Num (F64.nearest false 0 0) := (nearest_zero false 0).1

/-- An operation whose exact result is from 0 to 1. -/
theorem unit_mul {x y : Nat} (hx : Num x) (hy : Num y) (x0 : 0 ≤ val x) (x1 : val x ≤ 1) (y0 : 0 ≤ val y) (y1 : val y ≤ 1) : Num (fmul x y) ∧ 0 ≤ val (fmul x y) ∧ val (fmul x y) ≤ 1 := by
  have p := Rat.mul_nonneg x0 y0
  have q : val x * val y ≤ 1 := by
    have := Rat.mul_le_mul_of_nonneg_right x1 y0
    grind
  obtain ⟨hn, _⟩ := mul_ab hx hy (by unfold Ab; constructor <;> grind)
  obtain ⟨s, m, e, hf, hv⟩ := mul_near hx hy
  rw [hf] at hn ⊢
  rw [← hv] at p q
  exact ⟨hn, near_lo n_zero (nearest_zero false 0).2 (by decide +kernel) p hn, near_hi n_one (by decide +kernel) (by decide +kernel) q hn⟩
theorem unit_sub {y : Nat} (hy : Num y) (y0 : 0 ≤ val y) (y1 : val y ≤ 1) : Num (fsub w1 y) ∧ 0 ≤ val (fsub w1 y) ∧ val (fsub w1 y) ≤ 1 := by
  obtain ⟨hn, _⟩ := sub_ab num_w1 hy (by rw [val_w1]; unfold Ab; constructor <;> grind)
  obtain ⟨s, m, e, hf, hv⟩ := sub_near num_w1 hy
  rw [val_w1] at hv
  rw [hf] at hn ⊢
  exact ⟨hn, near_lo n_zero (nearest_zero false 0).2 (by decide +kernel) (by rw [hv]; grind) hn, near_hi n_one (by decide +kernel) (by decide +kernel) (by rw [hv]; grind) hn⟩

/-- A triangle's numbers: 1 less r, r times (1 less v), r times v, r the root of u. -/
theorem bary_vals {u v : Nat} (hu : Num u) (u0 : 0 ≤ val u) (u1 : val u ≤ 1) (hv : Num v) (v0 : 0 ≤ val v) (v1 : val v ≤ 1) :
    (Num (fsub w1 (fsqrt u)) ∧ 0 ≤ val (fsub w1 (fsqrt u)) ∧ val (fsub w1 (fsqrt u)) ≤ 1) ∧ (Num (fmul (fsqrt u) (fsub w1 v)) ∧ 0 ≤ val (fmul (fsqrt u) (fsub w1 v)) ∧ val (fmul (fsqrt u) (fsub w1 v)) ≤ 1) ∧ (Num (fmul (fsqrt u) v) ∧ 0 ≤ val (fmul (fsqrt u) v) ∧ val (fmul (fsqrt u) v) ≤ 1) ∧
    Num (fadd (fadd (fsub w1 (fsqrt u)) (fmul (fsqrt u) (fsub w1 v))) (fmul (fsqrt u) v)) ∧ Ab (val (fadd (fadd (fsub w1 (fsqrt u)) (fmul (fsqrt u) (fsub w1 v))) (fmul (fsqrt u) v)) - 1) (8 * dl) := by
  have hd := dl_le
  have hd0 := dl_ge
  obtain ⟨nr, r0, _, _, r1⟩ := sqrt_ab hu u0 (by grind)
  have r1 := r1 u1
  obtain ⟨na, a0, a1⟩ := unit_sub nr r0 r1
  obtain ⟨nw, w0, w11⟩ := unit_sub hv v0 v1
  obtain ⟨nb, b0, b1⟩ := unit_mul nr nw r0 r1 w0 w11
  obtain ⟨nc, c0, c1⟩ := unit_mul nr hv r0 r1 v0 v1
  have ea := (sub_ab num_w1 nr (by rw [val_w1]; unfold Ab; constructor <;> grind)).2
  have ew := (sub_ab num_w1 hv (by rw [val_w1]; unfold Ab; constructor <;> grind)).2
  have p1 := Rat.mul_nonneg r0 w0
  have p2 := Rat.mul_nonneg r0 v0
  have p3 := Rat.mul_le_mul_of_nonneg_right r1 w0
  have p4 := Rat.mul_le_mul_of_nonneg_right r1 v0
  have eb := (mul_ab nr nw (by unfold Ab; constructor <;> grind)).2
  have ec := (mul_ab nr hv (by unfold Ab; constructor <;> grind)).2
  rw [val_w1] at ea ew
  obtain ⟨n1, e1⟩ := add_ab na nb (by unfold Ab; constructor <;> grind)
  obtain ⟨n2, e2⟩ := add_ab n1 nc (by unfold Ab at *; constructor <;> grind)
  refine ⟨⟨na, a0, a1⟩, ⟨nb, b0, b1⟩, ⟨nc, c0, c1⟩, n2, ?_⟩
  have ra : Ab (val (fsqrt u)) 1 := by unfold Ab; constructor <;> grind
  have rw' := ra.mul ew
  have e3 : val (fsqrt u) * (val (fsub w1 v) - (1 - val v)) = val (fsqrt u) * val (fsub w1 v) - val (fsqrt u) + val (fsqrt u) * val v := by grind
  rw [e3] at rw'
  unfold Ab at *
  constructor <;> grind

/-- A sector's density is from an eighth to a quarter. -/
theorem dens_range {f : Nat} (hf : Num f) (f0 : 0 ≤ val f) (f1 : val f ≤ 1) : Num (densF f) ∧ 1 / 8 ≤ val (densF f) ∧ val (densF f) ≤ 1 / 4 := by
  have hd := dl_le
  have hd0 := dl_ge
  obtain ⟨nf, m0, m1⟩ := unit_mul hf hf f0 f1 f0 f1
  obtain ⟨nq, _⟩ := add_ab num_w1 nf (by rw [val_w1]; unfold Ab; constructor <;> grind)
  obtain ⟨s, m, e, hq, hv⟩ := add_near num_w1 nf
  rw [val_w1] at hv
  have q01 : 1 ≤ val (secQ f) ∧ val (secQ f) ≤ 2 := by
    unfold secQ
    rw [hq] at nq ⊢
    exact ⟨near_lo n_one (by decide +kernel) (by decide +kernel) (by rw [hv]; grind) nq, near_hi n_two (by decide +kernel) (by decide +kernel) (by rw [hv]; grind) nq⟩
  have nq' : Num (secQ f) := nq
  obtain ⟨np, _⟩ := mul_ab nq' num_eighth (by rw [val_eighth]; unfold Ab; constructor <;> grind)
  obtain ⟨s2, m2, e2, hp, hv2⟩ := mul_near nq' num_eighth
  rw [val_eighth] at hv2
  unfold densF
  rw [hp] at np ⊢
  exact ⟨np, near_lo n_8th (by decide +kernel) (by decide +kernel) (by rw [hv2]; grind) np, near_hi n_4th (by decide +kernel) (by decide +kernel) (by rw [hv2]; grind) np⟩

/-- The root less 1; 1 less the root. -/
theorem tent_lo {w : Nat} (hw : Num w) (w0 : 0 ≤ val w) (wl : val w ≤ 1) : Num (fsub (fsqrt w) w1) ∧ -1 ≤ val (fsub (fsqrt w) w1) ∧ val (fsub (fsqrt w) w1) ≤ 1 := by
  obtain ⟨nr, r0, _, _, r1⟩ := sqrt_ab hw w0 (by grind)
  have r1 := r1 wl
  obtain ⟨hn, _⟩ := sub_ab nr num_w1 (by rw [val_w1]; unfold Ab; constructor <;> grind)
  obtain ⟨s, m, e, hf, hv⟩ := sub_near nr num_w1
  rw [val_w1] at hv
  rw [hf] at hn ⊢
  exact ⟨hn, near_lo n_neg (by decide +kernel) (by decide +kernel) (by rw [hv]; grind) hn, near_hi n_one (by decide +kernel) (by decide +kernel) (by rw [hv]; grind) hn⟩
theorem tent_hi {w : Nat} (hw : Num w) (w0 : 0 ≤ val w) (wl : val w ≤ 1) : Num (fsub w1 (fsqrt w)) ∧ -1 ≤ val (fsub w1 (fsqrt w)) ∧ val (fsub w1 (fsqrt w)) ≤ 1 := by
  obtain ⟨nr, r0, _, _, r1⟩ := sqrt_ab hw w0 (by grind)
  obtain ⟨n, a, b⟩ := unit_sub nr r0 (r1 wl)
  exact ⟨n, by grind, b⟩
end Go.Proofs.Ytagehemimlakpaa.Fl
