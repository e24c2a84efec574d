/- Numbers that need no rounding; quotients keep order. Floats that need no rounding; whole numbers as floats. A direction in the plane, (1, f) of length 1: how near its numbers are to what they are to be. Words not below 0, infinite or not: sums, products, quotients keep order; what is cut off behind the point. A region that draws its order, whose operations' values are told up to a relation of their own, and whose worlds are told by one class: one walk in the order of the text serves every order. -/
import Derived.Laws.Cover2
import Derived.Laws.FloatArith
import Derived.Deep.Quiet
import Derived.Tactics
import Derived.Tactics2
import Derived.KernelRfl
import Derived.Test.YtjcdmdjkolmliaaG2
import Derived.Test.YtjcdmdjkolmliaaG1
namespace Go.Proofs.Ytjcdmdjkolmliaa.Fl

theorem read_low {x : Nat} {s : Bool} {m : Nat} {e : Int} (h : F64.read x = .number s m e) : -1074 ≤ e := by
  unfold Ieee.Format.read at h
  simp only [sw, bn, ir, lp] at h
  generalize x % 9223372036854775808 = r at *
  split at h
  · injection h with _ _ h2; omega
  · split at h
    · injection h with _ _ h2; omega
    · split at h <;> cases h

theorem cut_none (neg : Bool) (n : Nat) : Ieee.Toward.even.cut neg n 0 = n := by
  unfold Ieee.Toward.cut
  simp [Nat.mod_one]

/-- What a word stands for is written as it is. -/
theorem nearest_exact {x : Nat} {s : Bool} {m : Nat} {e : Int} (h : F64.read x = .number s m e) : Num (F64.nearest s m e) ∧ val (F64.nearest s m e) = val x := by
  have hv : val x = sg s ((m : Rat) * 2 ^ e) := by unfold val; rw [h, dval_number]
  by_cases hm : m = 0
  · subst hm
    obtain ⟨a, v⟩ := nearest_zero s e
    refine ⟨a, ?_⟩
    rw [v, hv]
    have : ((0 : Nat) : Rat) * 2 ^ e = 0 := Rat.zero_mul _
    rw [this]
    cases s <;> simp [sg]
  · obtain ⟨b1, b2⟩ := number_bounds h
    have b3 := read_low h
    have l1 : m < 2 ^ 53 := by omega
    have l2 : m.log2 < 53 := (Nat.log2_lt hm).2 l1
    have hl : lastP m e ≤ e := by unfold lastP; omega
    have hd : (lastP m e - e).toNat = 0 := by omega
    have hk : kept s m e = m * 2 ^ (e - lastP m e).toNat := by
      unfold kept
      rw [hd, cut_none, Nat.shiftLeft_eq]
    have l3 : m < 2 ^ (m.log2 + 1) := Nat.lt_log2_self
    have hk2 : kept s m e < 9007199254740992 := by
      rw [hk]
      have e1 : m * 2 ^ (e - lastP m e).toNat < 2 ^ (m.log2 + 1) * 2 ^ (e - lastP m e).toNat := Nat.mul_lt_mul_of_pos_right l3 (Nat.two_pow_pos _)
      have e2 : 2 ^ (m.log2 + 1) * 2 ^ (e - lastP m e).toNat ≤ 2 ^ 53 := by
        rw [← Nat.pow_add]
        exact Nat.pow_le_pow_right (by decide) (by unfold lastP; omega)
      omega
    have hr : (lastP m e + 1074).toNat ≤ 2045 := by omega
    rcases nearest_is s (place := e) hm with ⟨_, a, v⟩ | ⟨o, _⟩
    · refine ⟨a, ?_⟩
      rw [v, hv, hk]
      congr 1
      rw [Rat.natCast_mul, ← p2_nat, Rat.mul_assoc, ← p2_add]
      congr 2
      omega
    · exfalso
      unfold rungOf at o
      omega

theorem log2_gap {q d a : Nat} (hq : q ≠ 0) (h1 : a < 2 ^ d) : (q * 2 ^ d + a).log2 = q.log2 + d := by
  have hp := Nat.two_pow_pos d
  have hne : q * 2 ^ d + a ≠ 0 := by
    have := Nat.mul_pos (Nat.pos_of_ne_zero hq) hp
    omega
  rw [Nat.log2_eq_iff hne]
  have l1 : 2 ^ q.log2 ≤ q := Nat.log2_self_le hq
  have l2 : q < 2 ^ (q.log2 + 1) := Nat.lt_log2_self
  constructor
  · rw [Nat.pow_add]
    exact Nat.le_trans (Nat.mul_le_mul_right _ l1) (Nat.le_add_right _ _)
  · rw [show q.log2 + d + 1 = (q.log2 + 1) + d by omega, Nat.pow_add]
    have : (q + 1) * 2 ^ d ≤ 2 ^ (q.log2 + 1) * 2 ^ d := Nat.mul_le_mul_right _ l2
    rw [Nat.add_mul, Nat.one_mul] at this
    omega

theorem cut_gap (neg : Bool) {q d a g : Nat} (hq : q ≠ 0) (h0 : 0 < a) (h1 : a < 2 ^ d) (hd : 0 < d) (hg : 2 ≤ g) :
    Ieee.Toward.even.cut neg (q * 2 ^ d + a) (g + d - 1) = Ieee.Toward.even.cut neg (2 * q + 1) g := by
  have e1 : (2 * q + 1).log2 = q.log2 + 1 := by
    have := log2_gap (d := 1) (a := 1) hq (by decide)
    rwa [show q * 2 ^ 1 + 1 = 2 * q + 1 by omega] at this
  unfold Ieee.Toward.cut
  simp only [Nat.one_shiftLeft]
  rw [log2_gap hq h1, e1]
  have e2 : min (g + d - 1) (q.log2 + d + 2) = min g (q.log2 + 1 + 2) - 2 + 1 + d := by omega
  have e3 : min g (q.log2 + 1 + 2) = min g (q.log2 + 1 + 2) - 2 + 2 := by omega
  rw [e2]
  rw [e3]
  generalize min g (q.log2 + 1 + 2) - 2 = c
  have f1 : 2 ^ (c + 1 + d) = 2 * 2 ^ c * 2 ^ d := by rw [Nat.pow_add, Nat.pow_succ, Nat.mul_comm (2 ^ c) 2]
  have f2 : 2 ^ (c + 2) = 4 * 2 ^ c := by rw [Nat.pow_add]; omega
  rw [show c + 2 - 2 + 1 + d = c + 1 + d by omega, f1, f2]
  have hH := Nat.two_pow_pos c
  generalize 2 ^ c = H at *
  generalize 2 ^ d = D at *
  have hD : 0 < D := by omega
  have hqe := Nat.div_add_mod q (2 * H)
  have ht := Nat.mod_lt q (show 0 < 2 * H by omega)
  generalize q / (2 * H) = l at *
  generalize q % (2 * H) = t at *
  -- the one
  have n1 : q * D + a = 2 * H * D * l + (t * D + a) := by
    rw [← hqe, Nat.add_mul]
    have : 2 * H * l * D = 2 * H * D * l := by rw [Nat.mul_assoc, Nat.mul_comm l D, ← Nat.mul_assoc]
    omega
  have r1 : t * D + a < 2 * H * D := by
    have : (t + 1) * D ≤ 2 * H * D := Nat.mul_le_mul_right _ ht
    rw [Nat.add_mul, Nat.one_mul] at this
    omega
  have d1 : (q * D + a) / (2 * H * D) = l := by
    rw [n1, Nat.mul_add_div (by omega), Nat.div_eq_of_lt r1, Nat.add_zero]
  have m1 : (q * D + a) % (2 * H * D) = t * D + a := by
    rw [n1, Nat.mul_add_mod, Nat.mod_eq_of_lt r1]
  -- the other
  have n2 : 2 * q + 1 = 4 * H * l + (2 * t + 1) := by
    rw [← hqe]
    have : 4 * H * l = 2 * (2 * H * l) := by rw [← Nat.mul_assoc, ← Nat.mul_assoc]
    omega
  have d2 : (2 * q + 1) / (4 * H) = l := by
    rw [n2, Nat.mul_add_div (by omega), Nat.div_eq_of_lt (by omega), Nat.add_zero]
  have m2 : (2 * q + 1) % (4 * H) = 2 * t + 1 := by
    rw [n2, Nat.mul_add_mod, Nat.mod_eq_of_lt (by omega)]
  rw [d1, m1, d2, m2]
  have c2 : (4 * H == 2 * (2 * t + 1)) = false := by simp; omega
  have key : (2 * H * D < 2 * (t * D + a)) ↔ H ≤ t := by
    constructor
    · intro h
      rcases Nat.lt_or_ge t H with k | k
      · have : (t + 1) * D ≤ H * D := Nat.mul_le_mul_right _ k
        rw [Nat.add_mul, Nat.one_mul] at this
        have e : 2 * H * D = 2 * (H * D) := Nat.mul_assoc _ _ _
        omega
      · exact k
    · intro h
      have : H * D ≤ t * D := Nat.mul_le_mul_right _ h
      have e : 2 * H * D = 2 * (H * D) := Nat.mul_assoc _ _ _
      omega
  have key2 : (2 * H * D == 2 * (t * D + a)) = false := by
    simp only [beq_eq_false_iff_ne, ne_eq]
    intro h
    have e : 2 * H * D = 2 * (H * D) := Nat.mul_assoc _ _ _
    rcases Nat.lt_or_ge t H with k | k
    · have : (t + 1) * D ≤ H * D := Nat.mul_le_mul_right _ k
      rw [Nat.add_mul, Nat.one_mul] at this
      omega
    · have : H * D ≤ t * D := Nat.mul_le_mul_right _ k
      omega
  have c1 : decide (2 * H * D < 2 * (t * D + a)) = decide (4 * H < 2 * (2 * t + 1)) := decide_eq_decide.2 (key.trans (by omega))
  simp only [key2, c2, c1]

/-- Between two halves of a unit all is written as one. -/
theorem nearest_gap (neg : Bool) {q d a : Nat} {p : Int} (hq : 9007199254740992 ≤ q) (h0 : 0 < a) (h1 : a < 2 ^ d) (hd : 0 < d) :
    F64.nearest neg (q * 2 ^ d + a) p = F64.nearest neg (2 * q + 1) (p + d - 1) := by
  have hq0 : q ≠ 0 := by omega
  have hl : 53 ≤ q.log2 := (Nat.le_log2 hq0).2 hq
  have e1 : (2 * q + 1).log2 = q.log2 + 1 := by
    have := log2_gap (d := 1) (a := 1) hq0 (by decide)
    rwa [show q * 2 ^ 1 + 1 = 2 * q + 1 by omega] at this
  have e0 := log2_gap (d := d) (a := a) hq0 h1
  have hne : q * 2 ^ d + a ≠ 0 := by omega
  rw [nearest_eq neg _ p hne, nearest_eq neg (2 * q + 1) _ (by omega)]
  have hlast : lastP (2 * q + 1) (p + d - 1) = lastP (q * 2 ^ d + a) p := by
    unfold lastP; rw [e1, e0]; omega
  have hk : kept neg (q * 2 ^ d + a) p = kept neg (2 * q + 1) (p + d - 1) := by
    unfold kept
    rw [hlast]
    have z1 : (p - lastP (q * 2 ^ d + a) p).toNat = 0 := by unfold lastP; rw [e0]; omega
    have z2 : (p + d - 1 - lastP (q * 2 ^ d + a) p).toNat = 0 := by unfold lastP; rw [e0]; omega
    rw [z1, z2, Nat.shiftLeft_zero, Nat.shiftLeft_zero]
    have hg : 2 ≤ (lastP (q * 2 ^ d + a) p - (p + d - 1)).toNat := by unfold lastP; rw [e0]; omega
    have hgd : (lastP (q * 2 ^ d + a) p - p).toNat = (lastP (q * 2 ^ d + a) p - (p + d - 1)).toNat + d - 1 := by omega
    rw [hgd]
    exact cut_gap neg hq0 h0 h1 hd hg
  rw [hlast, hk]

/-- A quotient's digits. -/
theorem div_form {x y : Nat} {s : Bool} {m n : Nat} {i j : Int} (hx : F64.read x = .number s m i) (hy : F64.read y = .number false n j) (hn : n ≠ 0) :
    fdiv x y = F64.nearest s (2 * (m * 2 ^ (54 + n.log2 - m.log2) / n) + (m * 2 ^ (54 + n.log2 - m.log2) % n != 0).toNat) (i - j - ((54 + n.log2 - m.log2 : Nat) : Int) - 1) := by
  unfold fdiv Ieee.Format.div
  have hf : F64.fractionBits + 2 = 54 := by decide +kernel
  rw [hx, hy, hf]
  simp only [Ieee.Datum.quotient, hn, if_false, Option.map_some, Option.getD_some, Nat.shiftLeft_eq, Bool.xor_false]
  rfl

theorem ne_toNat (r : Nat) : (r != 0).toNat = 0 ∧ r = 0 ∨ (r != 0).toNat = 1 ∧ 0 < r := by
  rcases Nat.eq_zero_or_pos r with h0 | h0
  · left; subst h0; exact ⟨rfl, rfl⟩
  · right
    have : (r != 0) = true := by simp; omega
    rw [this]; exact ⟨rfl, h0⟩

/-- Quotients by one divisor, as whole numbers. -/
theorem quot_mono {D1 D2 n dl : Nat} (hn : 0 < n) (h : D1 ≤ D2 * 2 ^ dl) :
    2 * (D1 / n) + (D1 % n != 0).toNat ≤ (2 * (D2 / n) + (D2 % n != 0).toNat) * 2 ^ dl ∨
    ∃ a, 0 < a ∧ a < 2 ^ (dl + 1) ∧ 2 * (D1 / n) + (D1 % n != 0).toNat = D2 / n * 2 ^ (dl + 1) + a ∧ 2 * (D2 / n) + (D2 % n != 0).toNat = 2 * (D2 / n) + 1 := by
  have e1 := Nat.div_add_mod D1 n
  have e2 := Nat.div_add_mod D2 n
  have r1 := Nat.mod_lt D1 hn
  have r2 := Nat.mod_lt D2 hn
  rcases Nat.lt_or_ge ((2 * (D2 / n) + (D2 % n != 0).toNat) * 2 ^ dl) (2 * (D1 / n) + (D1 % n != 0).toNat) with k | k
  · right
    have hp := Nat.two_pow_pos dl
    rw [Nat.pow_succ]
    generalize 2 ^ dl = P at *
    generalize D1 / n = q1 at *
    generalize D2 / n = q2 at *
    generalize D1 % n = a1 at *
    generalize D2 % n = a2 at *
    have hlt : n * q1 < n * ((q2 + 1) * P) := by
      have : D2 * P < n * (q2 + 1) * P := by
        refine Nat.mul_lt_mul_of_pos_right ?_ hp
        rw [Nat.mul_add]
        omega
      rw [← Nat.mul_assoc]
      omega
    have hlt2 : q1 < (q2 + 1) * P := Nat.lt_of_mul_lt_mul_left hlt
    rw [Nat.add_mul, Nat.one_mul] at hlt2
    have z : 2 * (q2 * P) = q2 * (P * 2) := by rw [← Nat.mul_assoc, Nat.mul_comm 2, Nat.mul_assoc, Nat.mul_comm 2]
    rcases ne_toNat a2 with ⟨b2, c2⟩ | ⟨b2, c2⟩
    · exfalso
      rw [b2, Nat.add_zero, Nat.mul_assoc] at k
      subst c2
      have hle : n * q1 + a1 ≤ n * (q2 * P) := by
        rw [← Nat.mul_assoc]
        rw [Nat.add_zero] at e2
        rw [e2, e1]
        exact h
      have hle2 : q1 ≤ q2 * P := Nat.le_of_mul_le_mul_left (Nat.le_trans (Nat.le_add_right _ _) hle) hn
      rcases ne_toNat a1 with ⟨b1, c1⟩ | ⟨b1, c1⟩
      · omega
      · have : q1 = q2 * P := by omega
        rw [this] at hle
        omega
    · rw [b2, Nat.add_mul, Nat.one_mul, Nat.mul_assoc] at k
      refine ⟨2 * q1 + (a1 != 0).toNat - q2 * (P * 2), ?_, ?_, ?_, by rw [b2]⟩
      · omega
      · rcases ne_toNat a1 with ⟨b1, c1⟩ | ⟨b1, c1⟩ <;> omega
      · omega
  · left
    exact k

theorem quot_big {m n : Nat} (hm : m ≠ 0) (hn : n ≠ 0) : 9007199254740992 ≤ m * 2 ^ (54 + n.log2 - m.log2) / n := by
  rw [Nat.le_div_iff_mul_le (Nat.pos_of_ne_zero hn)]
  have l1 : 2 ^ m.log2 ≤ m := Nat.log2_self_le hm
  have l2 : n < 2 ^ (n.log2 + 1) := Nat.lt_log2_self
  have l3 : 2 ^ (54 + n.log2) ≤ m * 2 ^ (54 + n.log2 - m.log2) := by
    refine Nat.le_trans ?_ (Nat.mul_le_mul_right _ l1)
    rw [← Nat.pow_add]
    exact Nat.pow_le_pow_right (by decide) (by omega)
  have l4 : 2 ^ (54 + n.log2) = 9007199254740992 * 2 ^ (n.log2 + 1) := by
    rw [show 54 + n.log2 = 53 + (n.log2 + 1) by omega, Nat.pow_add]
  omega

theorem log2_52 {x : Nat} {s : Bool} {m : Nat} {e : Int} (h : F64.read x = .number s m e) : m.log2 ≤ 52 := by
  by_cases hm : m = 0
  · subst hm; decide
  · have b := (number_bounds h).1
    have : m.log2 < 53 := (Nat.log2_lt hm).2 (by omega)
    omega

/-- QUOTIENTS BY ONE DIVISOR ABOVE 0 KEEP ORDER (of numbers not below 0). -/
theorem div_mono {x1 x2 y : Nat} (h1 : Num x1) (h2 : Num x2) (hy : Num y) (y0 : 0 < val y) (x0 : 0 ≤ val x1) (h : val x1 ≤ val x2) : leB (fdiv x1 y) (fdiv x2 y) = true := by
  obtain ⟨s1, m1, i1, h1⟩ := h1
  obtain ⟨s2, m2, i2, h2⟩ := h2
  obtain ⟨t, n, j, hy⟩ := hy
  have v1 : val x1 = sg s1 ((m1 : Rat) * 2 ^ i1) := by unfold val; rw [h1, dval_number]
  have v2 : val x2 = sg s2 ((m2 : Rat) * 2 ^ i2) := by unfold val; rw [h2, dval_number]
  have vy : val y = sg t ((n : Rat) * 2 ^ j) := by unfold val; rw [hy, dval_number]
  have ny := mag_nonneg n j
  have p1 := mag_nonneg m1 i1
  have p2 := mag_nonneg m2 i2
  have ht : t = false := by
    cases t
    · rfl
    · exfalso
      simp only [sg, if_true] at vy
      grind
  subst ht
  have hn : n ≠ 0 := by
    intro h0
    subst h0
    have : ((0 : Nat) : Rat) * 2 ^ j = 0 := Rat.zero_mul _
    simp only [sg, Bool.false_eq_true, if_false, this] at vy
    grind
  have pos_of : ∀ (m : Nat) (p : Int), m ≠ 0 → (0 : Rat) < (m : Rat) * 2 ^ p := by
    intro m p hm
    have : (0 : Rat) < m := by exact_mod_cast Nat.pos_of_ne_zero hm
    exact Rat.mul_pos this (p2_pos p)
  rw [div_form h1 hy hn, div_form h2 hy hn]
  have q0 : ∀ k : Nat, 0 * 2 ^ k / n = 0 := fun k => by rw [Nat.zero_mul, Nat.zero_div]
  have q1 : ∀ k : Nat, 0 * 2 ^ k % n = 0 := fun k => by rw [Nat.zero_mul, Nat.zero_mod]
  have z0 : ((0 != 0 : Bool)).toNat = 0 := rfl
  have zz : ∀ (s : Bool) (p : Int), dval (.number s 0 p) = 0 := by
    intro s p
    rw [dval_number]
    have : ((0 : Nat) : Rat) * 2 ^ p = 0 := Rat.zero_mul _
    rw [this]
    cases s <;> simp [sg]
  by_cases z2 : m2 = 0
  · subst z2
    have e2 : ((0 : Nat) : Rat) * 2 ^ i2 = 0 := Rat.zero_mul _
    have z1 : m1 = 0 := by
      refine Classical.byContradiction fun hm => ?_
      have := pos_of m1 i1 hm
      rw [v1] at h x0
      rw [v2, e2] at h
      cases s1 <;> cases s2 <;> simp only [sg, if_true, Bool.false_eq_true, if_false] at h x0 <;> grind
    subst z1
    rw [q0, q1]
    exact nearest_mono (by rw [z0, Nat.mul_zero, Nat.zero_add, zz, zz]; exact Rat.le_refl)
  · have s2f : s2 = false := by
      cases s2
      · rfl
      · exfalso
        have := pos_of m2 i2 z2
        rw [v2] at h
        simp only [sg, if_true] at h
        grind
    subst s2f
    by_cases z1 : m1 = 0
    · subst z1
      rw [q0, q1]
      refine nearest_mono ?_
      rw [z0, Nat.mul_zero, Nat.zero_add, zz, dval_number]
      simp only [sg, Bool.false_eq_true, if_false]
      exact mag_nonneg _ _
    · have s1f : s1 = false := by
        cases s1
        · rfl
        · exfalso
          have := pos_of m1 i1 z1
          rw [v1] at x0
          simp only [sg, if_true] at x0
          grind
      subst s1f
      simp only [sg, Bool.false_eq_true, if_false] at v1 v2
      rw [v1, v2] at h
      have l1 := log2_52 h1
      have l2 := log2_52 h2
      -- the places of the first digits
      have hpl : i1 + m1.log2 ≤ i2 + m2.log2 := by
        refine Classical.byContradiction fun hc => ?_
        have a1 : 2 ^ m1.log2 ≤ m1 := Nat.log2_self_le z1
        have a2 : m2 < 2 ^ (m2.log2 + 1) := Nat.lt_log2_self
        have b1 : (2 : Rat) ^ (m1.log2 : Int) ≤ m1 := by rw [p2_nat]; exact_mod_cast a1
        have b2 : (m2 : Rat) < 2 ^ ((m2.log2 + 1 : Nat) : Int) := by rw [p2_nat]; exact_mod_cast a2
        have c1 := Rat.mul_le_mul_of_nonneg_right b1 (Rat.le_of_lt (p2_pos i1))
        have c2 := Rat.mul_lt_mul_of_pos_right b2 (p2_pos i2)
        rw [← p2_add] at c1 c2
        have c3 := p2_le (show ((m2.log2 + 1 : Nat) : Int) + i2 ≤ (m1.log2 : Int) + i1 by omega)
        grind
      generalize hk1 : 54 + n.log2 - m1.log2 = k1
      generalize hk2 : 54 + n.log2 - m2.log2 = k2
      have hq := quot_big (n := n) z2 hn
      rw [hk2] at hq
      have hle : i1 - k1 ≤ i2 - k2 := by omega
      generalize hdl : ((i2 - k2) - (i1 - k1)).toNat = dl
      have hD : m1 * 2 ^ k1 ≤ m2 * 2 ^ k2 * 2 ^ dl := by
        have e1 : (m1 : Rat) * 2 ^ i1 = ((m1 * 2 ^ k1 : Nat) : Rat) * 2 ^ (i1 - k1) := by
          rw [Rat.natCast_mul, ← p2_nat, Rat.mul_assoc, ← p2_add]
          congr 2
          omega
        have e2 : (m2 : Rat) * 2 ^ i2 = ((m2 * 2 ^ k2 * 2 ^ dl : Nat) : Rat) * 2 ^ (i1 - k1) := by
          rw [Rat.natCast_mul, Rat.natCast_mul, ← p2_nat, ← p2_nat, Rat.mul_assoc, Rat.mul_assoc, ← p2_add, ← p2_add]
          congr 2
          omega
        rw [e1, e2] at h
        have := Rat.le_of_mul_le_mul_right h (p2_pos (i1 - k1))
        exact_mod_cast this
      rcases quot_mono (Nat.pos_of_ne_zero hn) hD with k | ⟨a, a0, a1, ea, eb⟩
      · refine nearest_mono ?_
        rw [dval_number, dval_number]
        simp only [sg, Bool.false_eq_true, if_false]
        generalize 2 * (m1 * 2 ^ k1 / n) + (m1 * 2 ^ k1 % n != 0).toNat = Q1 at *
        generalize 2 * (m2 * 2 ^ k2 / n) + (m2 * 2 ^ k2 % n != 0).toNat = Q2 at *
        have e2 : (Q2 : Rat) * 2 ^ (i2 - j - (k2 : Int) - 1) = ((Q2 * 2 ^ dl : Nat) : Rat) * 2 ^ (i1 - j - (k1 : Int) - 1) := by
          rw [Rat.natCast_mul, ← p2_nat, Rat.mul_assoc, ← p2_add]
          congr 2
          omega
        rw [e2]
        exact Rat.mul_le_mul_of_nonneg_right (by exact_mod_cast k) (Rat.le_of_lt (p2_pos _))
      · rw [ea, eb, nearest_gap false hq a0 a1 (by omega), show i1 - j - (k1 : Int) - 1 + ((dl + 1 : Nat) : Int) - 1 = i2 - j - (k2 : Int) - 1 by omega]
        exact leB_refl (nearest_not_nan _ _ _)
end Go.Proofs.Ytjcdmdjkolmliaa.Fl

namespace Go.Proofs.Ytjcdmdjkolmliaa.Fl

/-- A number that needs no rounding. -/
def Ex (r : Rat) : Prop := ∃ (s : Bool) (m : Nat) (e : Int), m < 9007199254740992 ∧ -1074 ≤ e ∧ e ≤ 971 ∧ r = dval (.number s m e)

theorem nearest_small {s : Bool} {m : Nat} {e : Int} (l1 : m < 9007199254740992) (b3 : -1074 ≤ e) (b2 : e ≤ 971) : Num (F64.nearest s m e) ∧ val (F64.nearest s m e) = dval (.number s m e) := by
  rw [dval_number]
  by_cases hm : m = 0
  · subst hm
    obtain ⟨a, v⟩ := nearest_zero s e
    refine ⟨a, ?_⟩
    rw [v]
    have : ((0 : Nat) : Rat) * 2 ^ e = 0 := Rat.zero_mul _
    rw [this]
    cases s <;> simp [sg]
  · have l2 : m.log2 < 53 := (Nat.log2_lt hm).2 l1
    have hl : lastP m e ≤ e := by unfold lastP; omega
    have hd : (lastP m e - e).toNat = 0 := by omega
    have hk : kept s m e = m * 2 ^ (e - lastP m e).toNat := by
      unfold kept
      rw [hd, cut_none, Nat.shiftLeft_eq]
    have l3 : m < 2 ^ (m.log2 + 1) := Nat.lt_log2_self
    have hk2 : kept s m e < 9007199254740992 := by
      rw [hk]
      have e1 : m * 2 ^ (e - lastP m e).toNat < 2 ^ (m.log2 + 1) * 2 ^ (e - lastP m e).toNat := Nat.mul_lt_mul_of_pos_right l3 (Nat.two_pow_pos _)
      have e2 : 2 ^ (m.log2 + 1) * 2 ^ (e - lastP m e).toNat ≤ 2 ^ 53 := by
        rw [← Nat.pow_add]
        exact Nat.pow_le_pow_right (by decide) (by unfold lastP; omega)
      omega
    have hr : (lastP m e + 1074).toNat ≤ 2045 := by omega
    rcases nearest_is s (place := e) hm with ⟨_, a, v⟩ | ⟨o, _⟩
    · refine ⟨a, ?_⟩
      rw [v, hk]
      congr 1
      rw [Rat.natCast_mul, ← p2_nat, Rat.mul_assoc, ← p2_add]
      congr 2
      omega
    · exfalso
      unfold rungOf at o
      omega

theorem rat_le_of_eq {a b : Rat} (h : a = b) : a ≤ b := h ▸ Rat.le_refl
theorem num_between {x y : Nat} (hy : Num y) (h1 : leB x y = true) (h2 : leB y x = true) : Num x ∧ val x = val y := by
  have hx : Num x := by
    obtain ⟨s, m, e, hr⟩ := hy
    cases hx : F64.read x with
    | nan a b =>
      exfalso
      have : isN x = true := by unfold isN; rw [hx]; rfl
      have := (leB_not_nan h1).1
      simp_all
    | infinity a =>
      exfalso
      unfold leB ford Ieee.Format.order at h1 h2
      rw [hx, hr] at h1 h2
      cases a
      · cases h1
      · cases h2
    | number a b c => exact ⟨a, b, c, hx⟩
  refine ⟨hx, ?_⟩
  rw [leB_val hx hy] at h1
  rw [leB_val hy hx] at h2
  exact Rat.le_antisymm (of_decide_eq_true h1) (of_decide_eq_true h2)

/-- A word written of a number that needs no rounding. -/
theorem write_ex {s : Bool} {m : Nat} {e : Int} (h : Ex (dval (.number s m e))) : Num (F64.nearest s m e) ∧ val (F64.nearest s m e) = dval (.number s m e) := by
  obtain ⟨t, n, j, h0, h1, h2, h3⟩ := h
  obtain ⟨a, v⟩ := nearest_small (s := t) h0 h1 h2
  obtain ⟨a2, v2⟩ := num_between a (nearest_mono (rat_le_of_eq h3)) (nearest_mono (rat_le_of_eq h3.symm))
  exact ⟨a2, by rw [v2, v, ← h3]⟩
theorem mul_ex {x y : Nat} (hx : Num x) (hy : Num y) (h : Ex (val x * val y)) : Num (fmul x y) ∧ val (fmul x y) = val x * val y := by
  obtain ⟨s, m, e, hf, hv⟩ := mul_near hx hy
  rw [hf, ← hv]
  rw [← hv] at h
  exact write_ex h
theorem add_ex {x y : Nat} (hx : Num x) (hy : Num y) (h : Ex (val x + val y)) : Num (fadd x y) ∧ val (fadd x y) = val x + val y := by
  obtain ⟨s, m, e, hf, hv⟩ := add_near hx hy
  rw [hf, ← hv]
  rw [← hv] at h
  exact write_ex h
theorem sub_ex {x y : Nat} (hx : Num x) (hy : Num y) (h : Ex (val x - val y)) : Num (fsub x y) ∧ val (fsub x y) = val x - val y := by
  obtain ⟨s, m, e, hf, hv⟩ := sub_near hx hy
  rw [hf, ← hv]
  rw [← hv] at h
  exact write_ex h

/-- A quotient by a power of two. -/
theorem div_ex {x y : Nat} {j : Int} (hx : Num x) (hy : F64.read y = .number false 4503599627370496 j) (h : Ex (val x * 2 ^ (-52 - j))) : Num (fdiv x y) ∧ val (fdiv x y) = val x * 2 ^ (-52 - j) := by
  obtain ⟨s, m, i, hx⟩ := hx
  have hl := log2_52 hx
  have hf := div_form hx hy (by decide)
  have hlog : (4503599627370496 : Nat).log2 = 52 := by decide +kernel
  rw [hlog] at hf
  have e0 : 54 + 52 - m.log2 = 52 + (54 - m.log2) := by omega
  have e1 : m * 2 ^ (54 + 52 - m.log2) = m * 2 ^ (54 - m.log2) * 4503599627370496 := by
    rw [e0, Nat.pow_add, Nat.mul_assoc, Nat.mul_comm (2 ^ (54 - m.log2))]
  rw [e1, Nat.mul_div_cancel _ (by decide), Nat.mul_mod_left] at hf
  have hv : dval (.number s (2 * (m * 2 ^ (54 - m.log2)) + ((0 : Nat) != 0).toNat) (i - j - ((54 + 52 - m.log2 : Nat) : Int) - 1)) = val x * 2 ^ (-52 - j) := by
    unfold val
    rw [hx, dval_number, dval_number]
    have z : ((0 : Nat) != 0).toNat = 0 := rfl
    rw [z, Nat.add_zero, Rat.natCast_mul, Rat.natCast_mul, ← p2_nat]
    have z2 : ((2 : Nat) : Rat) = 2 ^ (1 : Int) := by decide +kernel
    have z3 : (2 : Rat) ^ i * 2 ^ (-52 - j) = 2 ^ (1 : Int) * 2 ^ ((54 - m.log2 : Nat) : Int) * 2 ^ (i - j - ((54 + 52 - m.log2 : Nat) : Int) - 1) := by
      rw [← p2_add, ← p2_add, ← p2_add]
      congr 1
      omega
    rw [z2]
    generalize (2 : Rat) ^ i = a at *
    generalize (2 : Rat) ^ (-52 - j) = b at *
    generalize (2 : Rat) ^ (1 : Int) = c at *
    generalize (2 : Rat) ^ ((54 - m.log2 : Nat) : Int) = d at *
    generalize (2 : Rat) ^ (i - j - ((54 + 52 - m.log2 : Nat) : Int) - 1) = f at *
    cases s <;> simp only [sg, if_true, Bool.false_eq_true, if_false] <;> grind
  rw [hf, ← hv]
  rw [← hv] at h
  exact write_ex h

/-- A whole number as a float. -/
theorem ofint_val {n : Int} (h0 : -9007199254740992 < n) (h1 : n < 9007199254740992) : Num (floatOfInt .f64 n) ∧ val (floatOfInt .f64 n) = n := by
  have e : floatOfInt .f64 n = F64.nearest (decide (n < 0)) n.natAbs 0 := rfl
  obtain ⟨a, v⟩ := nearest_small (s := decide (n < 0)) (m := n.natAbs) (e := 0) (by omega) (by decide) (by decide)
  rw [e]
  refine ⟨a, ?_⟩
  rw [v, dval_number]
  have z : (2 : Rat) ^ (0 : Int) = 1 := by decide +kernel
  rw [z, Rat.mul_one]
  by_cases h : n < 0
  · rw [decide_eq_true h]
    simp only [sg, if_true]
    rw [← Rat.intCast_natCast, ← Rat.intCast_neg]
    congr 1
    omega
  · rw [decide_eq_false h]
    simp only [sg, Bool.false_eq_true, if_false]
    rw [← Rat.intCast_natCast]
    congr 1
    omega
theorem ofint_wd (n : Int) : Wd (floatOfInt .f64 n) := wd_of (floatOfInt_wf .f64 n)
theorem ord_eq {x y : Nat} (hx : Num x) (hy : Num y) (h : val x = val y) : ford x y = some .eq := by
  have h1 := leB_val hx hy
  have h2 := leB_val hy hx
  rw [decide_eq_true (rat_le_of_eq h)] at h1
  rw [decide_eq_true (rat_le_of_eq h.symm)] at h2
  have hs := ford_swap x y
  unfold leB at h1 h2
  rw [hs] at h2
  cases ho : ford x y with
  | none => rw [ho] at h1; exact absurd h1 (by decide)
  | some o => cases o <;> rw [ho] at h1 h2 <;> first | rfl | exact absurd h1 (by decide) | exact absurd h2 (by decide)

/-! Operations on numbers give a word, with no draw -/
theorem mul_some {x y : Nat} (hx : Num x) (hy : Num y) : F64.mul x y = some (fmul x y) := by
  obtain ⟨s, m, i, hx⟩ := hx
  obtain ⟨t, n, j, hy⟩ := hy
  unfold fmul Ieee.Format.mul
  rw [hx, hy]
  rfl
theorem div_some {x y : Nat} {t : Bool} {n : Nat} {j : Int} (hx : Num x) (hy : F64.read y = .number t n j) (hn : n ≠ 0) : F64.div x y = some (fdiv x y) := by
  obtain ⟨s, m, i, hx⟩ := hx
  unfold fdiv Ieee.Format.div
  rw [hx, hy]
  simp only [Ieee.Datum.quotient, hn, if_false, Option.map_some, Option.getD_some]
section
variable {P : Program} (w : World)
theorem run_mul_num (t : TypeId) {x y : Nat} (hx : Num x) (hy : Num y) : (binOp .mul t (.float .f64 x) (.float .f64 y)).run P w = .ok (.float .f64 (fmul x y)) w :=
  run_float_arith w .mul t .f64 x y _ (mul_some hx hy)
theorem run_div_num (t : TypeId) {x y : Nat} {s : Bool} {n : Nat} {j : Int} (hx : Num x) (hy : F64.read y = .number s n j) (hn : n ≠ 0) : (binOp .quo t (.float .f64 x) (.float .f64 y)).run P w = .ok (.float .f64 (fdiv x y)) w :=
  run_float_arith w .quo t .f64 x y _ (div_some hx hy hn)
end
end Go.Proofs.Ytjcdmdjkolmliaa.Fl

namespace Go.Proofs.Ytjcdmdjkolmliaa.Fl

def w1 : Nat := 4607182418800017408
theorem num_w1 : Num w1 := ⟨false, 4503599627370496, -52, by decide +kernel⟩
theorem val_w1 : val w1 = 1 := by decide +kernel
/-- (1 and f times f), its root, 1 and f divided by it. -/
def secQ (f : Nat) : Nat := fadd w1 (fmul f f)
def secD (f : Nat) : Nat := fsqrt (secQ f)
def secC (f : Nat) : Nat := fdiv w1 (secD f)
def secS (f : Nat) : Nat := fdiv f (secD f)

/-- What is known of them, f from 0 to 1. -/
structure Sec (f : Nat) : Prop where
  nq : Num (secQ f)
  nd : Num (secD f)
  nc : Num (secC f)
  ns : Num (secS f)
  q0 : 1 - 2 * dl ≤ val (secQ f)
  q1 : val (secQ f) ≤ 2 + 2 * dl
  dd : Ab (val (secD f) * val (secD f) - (1 + val f * val f)) (3 * dl)
  d0 : 15 / 16 ≤ val (secD f)
  d1 : val (secD f) ≤ 3 / 2
  cd : Ab (val (secC f) * val (secD f) - 1) (5 * dl)
  sd : Ab (val (secS f) * val (secD f) - val f) (5 * dl)
  len : Ab (val (secC f) * val (secC f) + val (secS f) * val (secS f) - 1) (24 * dl)
  c0 : 5 / 8 ≤ val (secC f)
  c1 : val (secC f) ≤ 9 / 8
  s0 : -(5 * dl) * 2 ≤ val (secS f)
  s1 : val (secS f) ≤ 9 / 8

theorem dl_le : dl ≤ 1 / 1048576 := by unfold dl; grind
theorem dl_ge : 0 ≤ dl := by unfold dl; grind
theorem sq_ge {a A : Rat} (h0 : 0 ≤ a) (h : A * A ≤ a * a) : A ≤ a := by
  by_cases h1 : A ≤ a
  · exact h1
  · exfalso
    have p1 := Rat.mul_pos (show 0 < A - a by grind) (show 0 < A - a by grind)
    have p2 := Rat.mul_nonneg (show 0 ≤ A - a by grind) h0
    grind
/-- A bound on a product with what is nearly 1 or more. -/
theorem ab_div {t g B B' : Rat} (hg : 1023 / 1024 ≤ g) (h : Ab (t * g) B) (hB : B ≤ B' * (1023 / 1024)) (hB0 : 0 ≤ B') : Ab t B' := by
  unfold Ab at *
  obtain ⟨h1, h2⟩ := h
  constructor
  · by_cases k : -B' ≤ t
    · exact k
    · exfalso
      have p := Rat.mul_nonneg (show 0 ≤ -B' - t by grind) (show 0 ≤ g - 1023 / 1024 by grind)
      have p2 := Rat.mul_nonneg hB0 (show 0 ≤ g - 1023 / 1024 by grind)
      grind
  · by_cases k : t ≤ B'
    · exact k
    · exfalso
      have p := Rat.mul_nonneg (show 0 ≤ t - B' by grind) (show 0 ≤ g - 1023 / 1024 by grind)
      have p2 := Rat.mul_nonneg hB0 (show 0 ≤ g - 1023 / 1024 by grind)
      grind

theorem sec_alg {D C S F : Rat} (fa : Ab F 1) (f0 : 0 ≤ F) (dd : Ab (D * D - (1 + F * F)) (3 * dl)) (d0 : 15 / 16 ≤ D) (ec' : Ab (C * D - 1) (5 * dl)) (es' : Ab (S * D - F) (5 * dl)) :
    Ab (C * C + S * S - 1) (24 * dl) ∧ 5 / 8 ≤ C ∧ C ≤ 9 / 8 ∧ -(5 * dl) * 2 ≤ S ∧ S ≤ 9 / 8 := by
  have hd := dl_le
  have hd0 := dl_ge
  have hdd : dl * dl ≤ dl * (1 / 1048576) := Rat.mul_le_mul_of_nonneg_left hd hd0
  have hdd0 : 0 ≤ dl * dl := Rat.mul_nonneg hd0 hd0
  have hFF : 0 ≤ F * F := Rat.mul_nonneg f0 f0
  have d1 : D ≤ 3 / 2 := by
    have ff := fa.mul fa
    refine (Ab.of_sq (A := 3 / 2) (by grind) ?_).2
    unfold Ab at dd ff
    grind
  have g1 : 1023 / 1024 ≤ D * D := by unfold Ab at dd; grind
  have cc : Ab ((C * D - 1) * (C * D - 1)) (5 * dl * (5 * dl)) := ec'.mul ec'
  have ss : Ab ((S * D - F) * (S * D - F)) (5 * dl * (5 * dl)) := es'.mul es'
  have fs : Ab (F * (S * D - F)) (1 * (5 * dl)) := fa.mul es'
  have len : Ab (C * C + S * S - 1) (24 * dl) := by
    refine ab_div (g := D * D) (B := 23 * dl + dl * (1 / 1000)) g1 ?_ (by grind) (by grind)
    have e : (C * C + S * S - 1) * (D * D) = 2 * (C * D - 1) + (C * D - 1) * (C * D - 1) + 2 * (F * (S * D - F)) + (S * D - F) * (S * D - F) - (D * D - (1 + F * F)) := by grind
    rw [e]
    generalize C * D - 1 = a at *
    generalize a * a = aa at *
    generalize F * (S * D - F) = b at *
    generalize (S * D - F) * (S * D - F) = bb at *
    generalize D * D - (1 + F * F) = c at *
    unfold Ab at *
    constructor <;> grind
  have c0 : 5 / 8 ≤ C := by
    by_cases k : 5 / 8 ≤ C
    · exact k
    · exfalso
      have p := Rat.mul_nonneg (show 0 ≤ 5 / 8 - C by grind) (show 0 ≤ D by grind)
      unfold Ab at ec'
      grind
  have c1 : C ≤ 9 / 8 := by
    by_cases k : C ≤ 9 / 8
    · exact k
    · exfalso
      have p := Rat.mul_nonneg (show 0 ≤ C - 9 / 8 by grind) (show 0 ≤ D by grind)
      unfold Ab at ec'
      grind
  have s0 : -(5 * dl) * 2 ≤ S := by
    by_cases k : -(5 * dl) * 2 ≤ S
    · exact k
    · exfalso
      have p := Rat.mul_nonneg (show 0 ≤ -(5 * dl) * 2 - S by grind) (show 0 ≤ D - 15 / 16 by grind)
      have p2 := Rat.mul_nonneg hd0 (show 0 ≤ D - 15 / 16 by grind)
      unfold Ab at es'
      grind
  have s1 : S ≤ 9 / 8 := by
    refine (Ab.of_sq (A := 9 / 8) (by grind) ?_).2
    have := sq_nonneg C
    unfold Ab at len
    grind
  exact ⟨len, c0, c1, s0, s1⟩

theorem sec_vals {f : Nat} (hf : Num f) (f0 : 0 ≤ val f) (f1 : val f ≤ 1) : Sec f := by
  have fa : Ab (val f) 1 := ⟨by grind, f1⟩
  have ff := fa.mul fa
  obtain ⟨n1, e1⟩ := mul_ab hf hf (ff.mono (by grind))
  have hd := dl_le
  have hd0 := dl_ge
  have hdd : dl * dl ≤ dl * (1 / 1048576) := Rat.mul_le_mul_of_nonneg_left hd hd0
  have hdd0 : 0 ≤ dl * dl := Rat.mul_nonneg hd0 hd0
  have hff0 : 0 ≤ val f * val f := Rat.mul_nonneg f0 f0
  have hff1 : val f * val f ≤ 1 := by unfold Ab at ff; grind
  obtain ⟨n2, e2⟩ := add_ab num_w1 n1 (by rw [val_w1]; unfold Ab at *; constructor <;> grind)
  rw [val_w1] at e2
  have nq : Num (secQ f) := n2
  have eq : Ab (val (secQ f) - (1 + val (fmul f f))) dl := e2
  have q0 : 1 - 2 * dl ≤ val (secQ f) := by unfold Ab at *; grind
  have q1 : val (secQ f) ≤ 2 + 2 * dl := by unfold Ab at *; grind
  obtain ⟨nd, dn, d3, ed, _⟩ := sqrt_ab nq (by grind) (by grind)
  have nd' : Num (secD f) := nd
  have ed' : Ab (val (secD f) * val (secD f) - val (secQ f)) dl := ed
  have dn' : 0 ≤ val (secD f) := dn
  have dd : Ab (val (secD f) * val (secD f) - (1 + val f * val f)) (3 * dl) := by unfold Ab at *; constructor <;> grind
  have d0 : 15 / 16 ≤ val (secD f) := sq_ge dn' (by unfold Ab at dd; grind)
  have d1 : val (secD f) ≤ 3 / 2 := (Ab.of_sq (A := 3 / 2) (by grind) (by unfold Ab at dd; grind)).2
  have d4 : Ab (val (secD f)) 4 := by unfold Ab; constructor <;> grind
  obtain ⟨nc, ec⟩ := div_ab num_w1 nd' (by rw [val_w1]; unfold Ab; constructor <;> grind) (.inl (by grind)) d4
  obtain ⟨ns, es⟩ := div_ab hf nd' fa (.inl (by grind)) d4
  rw [val_w1] at ec
  have nc' : Num (secC f) := nc
  have ns' : Num (secS f) := ns
  have ec' : Ab (val (secC f) * val (secD f) - 1) (5 * dl) := ec
  have es' : Ab (val (secS f) * val (secD f) - val f) (5 * dl) := es
  clear nc ns ec es nd ed dn e1 e2 n1 n2 eq
  obtain ⟨len, c0, c1, s0, s1⟩ := sec_alg fa f0 dd d0 ec' es'
  exact ⟨nq, nd', nc', ns', q0, q1, dd, d0, d1, ec', es', len, c0, c1, s0, s1⟩
end Go.Proofs.Ytjcdmdjkolmliaa.Fl

namespace Go.Proofs.Ytjcdmdjkolmliaa.Fl

/-- Not below 0: a number, or infinite. -/
def Nn (x : Nat) : Prop := (Num x ∧ 0 ≤ val x) ∨ F64.read x = .infinity false

theorem Nn.not_nan {x : Nat} (h : Nn x) : isN x = false := h.elim (fun h => not_nan_num h.1) not_nan_inf
theorem nn_of_le {x : Nat} (h : leB 0 x = true) : Nn x := by
  cases hr : F64.read x with
  | nan s f =>
    exfalso
    have : isN x = true := by unfold isN; rw [hr]; rfl
    have := (leB_not_nan h).2
    simp_all
  | infinity s =>
    cases s
    · exact .inr hr
    · exfalso
      unfold leB ford Ieee.Format.order at h
      rw [read_zero, hr] at h
      cases h
  | number s m e =>
    have hn : Num x := ⟨_, _, _, hr⟩
    refine .inl ⟨hn, ?_⟩
    rw [leB_val num_zero hn, val_zero] at h
    exact of_decide_eq_true h
theorem Nn.le {x : Nat} (h : Nn x) : leB 0 x = true := by
  rcases h with ⟨hn, h⟩ | h
  · rw [leB_val num_zero hn, val_zero]; exact decide_eq_true h
  · exact leB_high h (not_nan_num num_zero)
theorem num_of_fin {x : Nat} (h : numB x = true) : Num x := by
  cases hr : F64.read x with
  | nan s f =>
    exfalso
    have : isN x = true := by unfold isN; rw [hr]; rfl
    unfold numB at h
    rw [this] at h
    cases h
  | infinity s =>
    exfalso
    unfold numB at h
    rw [is_inf hr] at h
    simp at h
  | number s m e => exact ⟨_, _, _, hr⟩
theorem nearest_nn {neg : Bool} {m : Nat} {p : Int} (h : 0 ≤ dval (.number neg m p)) : Nn (F64.nearest neg m p) := by
  refine nn_of_le ?_
  have e : F64.nearest false 0 0 = 0 := by decide +kernel
  have hz : dval (.number false 0 0) = 0 := by
    rw [dval_number]
    have : ((0 : Nat) : Rat) * 2 ^ (0 : Int) = 0 := Rat.zero_mul _
    rw [this]
    rfl
  have := nearest_mono (n1 := false) (m1 := 0) (p1 := 0) (n2 := neg) (m2 := m) (p2 := p) (by rw [hz]; exact h)
  rwa [e] at this

/-- An order among them. -/
theorem Nn.cases {x y : Nat} (hy : Nn y) (h : leB x y = true) (hx : Nn x) : F64.read y = .infinity false ∨ (Num x ∧ Num y ∧ 0 ≤ val x ∧ val x ≤ val y) := by
  rcases hy with ⟨ny, y0⟩ | hy
  · right
    rcases hx with ⟨nx, x0⟩ | hx
    · refine ⟨nx, ny, x0, ?_⟩
      rw [leB_val nx ny] at h
      exact of_decide_eq_true h
    · exfalso
      obtain ⟨s, m, e, hr⟩ := ny
      unfold leB ford Ieee.Format.order at h
      rw [hx, hr] at h
      cases h
  · exact .inl hy

theorem sum_in (s t : Bool) (m : Nat) (e : Int) : (Ieee.Datum.infinity s).sum (.number t m e) = some (.infinity s) := rfl
theorem sum_ni (s t : Bool) (m : Nat) (e : Int) : (Ieee.Datum.number t m e).sum (.infinity s) = some (.infinity s) := rfl
theorem sum_ii : (Ieee.Datum.infinity false).sum (.infinity false) = some (.infinity false) := rfl
theorem add_is {x y : Nat} {s : Bool} (h : (F64.read x).sum (F64.read y) = some (.infinity s)) : F64.read (fadd x y) = .infinity s := by
  unfold fadd Ieee.Format.add
  rw [h, Option.map_some, Option.getD_some]
  exact write_inf s
theorem add_inf_left {x y : Nat} (hx : F64.read x = .infinity false) (hy : Nn y) : F64.read (fadd x y) = .infinity false := by
  rcases hy with ⟨⟨s, m, e, hr⟩, _⟩ | hr
  · exact add_is (by rw [hx, hr, sum_in])
  · exact add_is (by rw [hx, hr, sum_ii])
theorem add_inf_right {x y : Nat} (hy : F64.read y = .infinity false) (hx : Nn x) : F64.read (fadd x y) = .infinity false := by
  rcases hx with ⟨⟨s, m, e, hr⟩, _⟩ | hr
  · exact add_is (by rw [hy, hr, sum_ni])
  · exact add_is (by rw [hy, hr, sum_ii])

theorem add_nn {x y : Nat} (hx : Nn x) (hy : Nn y) : Nn (fadd x y) := by
  have hx' := hx
  have hy' := hy
  rcases hx with ⟨nx, x0⟩ | hx
  · rcases hy with ⟨ny, y0⟩ | hy
    · obtain ⟨n, m, p, e, v⟩ := add_near nx ny
      rw [e]
      exact nearest_nn (by rw [v]; grind)
    · exact .inr (add_inf_right hy hx')
  · exact .inr (add_inf_left hx hy')
theorem add_nn_mono {x y u v : Nat} (hx : Nn x) (hy : Nn y) (hu : Nn u) (hv : Nn v) (h : leB x u = true) (k : leB y v = true) : leB (fadd x y) (fadd u v) = true := by
  rcases hu.cases h hx with iu | ⟨nx, nu, x0, hle⟩
  · exact leB_high (add_inf_left iu hv) (add_nn hx hy).not_nan
  · rcases hv.cases k hy with iv | ⟨ny, nv, y0, kle⟩
    · exact leB_high (add_inf_right iv hu) (add_nn hx hy).not_nan
    · exact add_mono nx ny nu nv (by grind)
/-- A sum is not less than a part of it. -/
theorem le_add {x y : Nat} (hx : Num x) (hy : Num y) (y0 : 0 ≤ val y) : leB x (fadd x y) = true := by
  obtain ⟨n, m, p, e, v⟩ := add_near hx hy
  obtain ⟨s, m1, e1, hr⟩ := hx
  obtain ⟨a, b⟩ := nearest_exact hr
  have hxn : Num x := ⟨_, _, _, hr⟩
  have h1 : leB x (F64.nearest s m1 e1) = true := by rw [leB_val hxn a, b]; exact decide_eq_true Rat.le_refl
  refine leB_trans h1 ?_
  rw [e]
  refine nearest_mono ?_
  rw [v]
  have : val x = dval (.number s m1 e1) := by unfold val; rw [hr]
  grind

def three : Nat := 4613937818241073152
def sixteen : Nat := 4625196817309499392
def one16 : Nat := 4607182418800017408
def maxW : Nat := 4697254411347427328
theorem read_three : F64.read three = .number false 6755399441055744 (-51) := by decide +kernel
theorem read_sixteen : F64.read sixteen = .number false 4503599627370496 (-48) := by decide +kernel
theorem num_three : Num three := ⟨_, _, _, read_three⟩
theorem val_three : val three = 3 := by unfold val; rw [read_three]; decide +kernel
theorem num_sixteen : Num sixteen := ⟨_, _, _, read_sixteen⟩
theorem val_sixteen : val sixteen = 16 := by unfold val; rw [read_sixteen]; decide +kernel
theorem num_one16 : Num one16 := ⟨false, 4503599627370496, -52, by decide +kernel⟩
theorem val_one16 : val one16 = 1 := by
  unfold val
  rw [show F64.read one16 = .number false 4503599627370496 (-52) by decide +kernel]
  decide +kernel
theorem num_max : Num maxW := ⟨false, 4503599627370496, -32, by decide +kernel⟩
theorem val_max : val maxW = 1048576 := by
  unfold val
  rw [show F64.read maxW = .number false 4503599627370496 (-32) by decide +kernel]
  decide +kernel

theorem div_inf_num {x : Nat} (hx : F64.read x = .infinity false) : F64.read (fdiv x three) = .infinity false := by
  unfold fdiv Ieee.Format.div
  rw [hx, read_three]
  simp only [Ieee.Datum.quotient, Option.map_some, Option.getD_some, Bool.xor_false]
  exact write_inf false
theorem div_nn {x : Nat} (hx : Nn x) : Nn (fdiv x three) := by
  rcases hx with ⟨nx, x0⟩ | hx
  · refine nn_of_le ?_
    have h := div_mono num_zero nx num_three (by rw [val_three]; decide) (by rw [val_zero]; exact Rat.le_refl) (by rw [val_zero]; exact x0)
    have e : fdiv 0 three = 0 := by decide +kernel
    rwa [e] at h
  · exact .inr (div_inf_num hx)
theorem div_nn_mono {x u : Nat} (hx : Nn x) (hu : Nn u) (h : leB x u = true) : leB (fdiv x three) (fdiv u three) = true := by
  rcases hu.cases h hx with iu | ⟨nx, nu, x0, hle⟩
  · exact leB_high (div_inf_num iu) (div_nn hx).not_nan
  · exact div_mono nx nu num_three (by rw [val_three]; decide) x0 hle
theorem mul_nn {x : Nat} (hx : Nn x) : Nn (fmul x sixteen) := by
  rcases hx with ⟨nx, x0⟩ | hx
  · obtain ⟨n, m, p, e, v⟩ := mul_near nx num_sixteen
    rw [e]
    exact nearest_nn (by rw [v, val_sixteen]; grind)
  · exact .inr (mul_inf_num hx read_sixteen (by decide))
theorem mul_nn_mono {x u : Nat} (hx : Nn x) (hu : Nn u) (h : leB x u = true) : leB (fmul x sixteen) (fmul u sixteen) = true :=
  mul_order (t := false) h (.inl ⟨_, _, read_sixteen, by decide⟩) (mul_nn hx).not_nan (mul_nn hu).not_nan

/-- What is ahead of the point. -/
def truncF (x : Nat) : Int := ((F64.read x).toInt .zero).getD 0

theorem cut_zero (n drop : Nat) : Ieee.Toward.zero.cut false n drop = n / 2 ^ drop := by
  unfold Ieee.Toward.cut
  simp only [Nat.one_shiftLeft, Bool.toNat_false, Nat.add_zero]
  rcases Nat.lt_or_ge (n.log2 + 2) drop with hd | hd
  · rw [Nat.min_eq_right (Nat.le_of_lt hd)]
    have h1 : n < 2 ^ (n.log2 + 1) := Nat.lt_log2_self
    have h2 : 2 ^ (n.log2 + 1) ≤ 2 ^ (n.log2 + 2) := Nat.pow_le_pow_right (by decide) (by omega)
    have h3 : 2 ^ (n.log2 + 1) ≤ 2 ^ drop := Nat.pow_le_pow_right (by decide) (by omega)
    rw [Nat.div_eq_of_lt (by omega), Nat.div_eq_of_lt (by omega)]
  · rw [Nat.min_eq_left hd]

theorem floor_of {v : Rat} {t : Nat} (h : (t : Rat) ≤ v) (k : v < (t : Rat) + 1) : v.floor = (t : Int) := by
  have h1 : (t : Int) ≤ v.floor := Rat.le_floor_iff.2 (by rw [Rat.intCast_natCast]; exact h)
  have h2 := Rat.floor_le v
  have h3 : ((v.floor : Int) : Rat) < (((t : Int) + 1 : Int) : Rat) := by
    have e : (((t : Int) + 1 : Int) : Rat) = (t : Rat) + 1 := by rw [Rat.intCast_add, Rat.intCast_natCast]; rfl
    rw [e]
    grind
  have h4 : v.floor < (t : Int) + 1 := by exact_mod_cast h3
  omega

theorem trunc_floor {x : Nat} (hx : Num x) (h0 : 0 ≤ val x) : (F64.read x).toInt .zero = some (val x).floor := by
  obtain ⟨s, m, e, hr⟩ := hx
  have hv : val x = sg s ((m : Rat) * 2 ^ e) := by unfold val; rw [hr, dval_number]
  have p := mag_nonneg m e
  cases s
  · simp only [sg, Bool.false_eq_true, if_false] at hv
    have hi : (F64.read x).toInt .zero = some ((m * 2 ^ e.toNat / 2 ^ (-e).toNat : Nat) : Int) := by
      rw [hr]
      unfold Ieee.Datum.toInt Ieee.Datum.integral
      simp only [cut_zero, Nat.shiftLeft_eq]
      simp [Ieee.signed]
    rw [hi, hv]
    congr 1
    symm
    generalize hn : m * 2 ^ e.toNat = n
    generalize hd : (-e).toNat = d
    have hval : (m : Rat) * 2 ^ e * 2 ^ (d : Int) = (n : Rat) := by
      rw [← hn, Rat.natCast_mul, ← p2_nat, Rat.mul_assoc, ← p2_add]
      congr 2
      omega
    have hp := p2_pos (d : Int)
    have e1 := Nat.div_add_mod n (2 ^ d)
    have r1 := Nat.mod_lt n (Nat.two_pow_pos d)
    have lo : n / 2 ^ d * 2 ^ d ≤ n := Nat.div_mul_le_self _ _
    have hi2 : n < (n / 2 ^ d + 1) * 2 ^ d := by rw [Nat.add_mul, Nat.one_mul, Nat.mul_comm]; omega
    have lo' : ((n / 2 ^ d : Nat) : Rat) * 2 ^ (d : Int) ≤ n := by rw [p2_nat]; exact_mod_cast lo
    have hi' : (n : Rat) < (((n / 2 ^ d : Nat) : Rat) + 1) * 2 ^ (d : Int) := by rw [p2_nat]; exact_mod_cast hi2
    rw [← hval] at lo' hi'
    refine floor_of ?_ ?_
    · exact Rat.le_of_mul_le_mul_right lo' hp
    · exact Rat.lt_of_mul_lt_mul_right hi' (Rat.le_of_lt hp)
  · simp only [sg, if_true] at hv
    have z : (m : Rat) * 2 ^ e = 0 := by grind
    have hm : m = 0 := by
      refine Classical.byContradiction fun hm => ?_
      have : (0 : Rat) < m := by exact_mod_cast Nat.pos_of_ne_zero hm
      have := Rat.mul_pos this (p2_pos e)
      grind
    subst hm
    have hv0 : val x = 0 := by rw [hv, z]; rfl
    rw [hv0, hr]
    unfold Ieee.Datum.toInt Ieee.Datum.integral Ieee.Toward.cut
    simp [Ieee.signed]
    decide +kernel
end Go.Proofs.Ytjcdmdjkolmliaa.Fl

namespace Go.Proofs.Ytjcdmdjkolmliaa.Fl

/-- What an operation of the loose kind leaves: a value of V, in a world of C. -/
def looseUpon (P : Program) (C : World → Prop) (V : Value → Prop) : Result Next → Prop
  | .ok (.value u) w' => V u ∧ C w'
  | .ok (.enter f args) w' => Calls P f args w' fun e w'' => ∃ v, e = .returned v ∧ V v ∧ C w''
  | _ => False

theorem looseUpon.some {P : Program} {C : World → Prop} {V : Value → Prop} {r : Result Next} (h : looseUpon P C V r) : ∃ v, V v := by
  unfold looseUpon at h
  split at h
  · exact ⟨_, h.1⟩
  · obtain ⟨_, _, _, ⟨v, _, hv, _⟩, _⟩ := h []
    exact ⟨v, hv⟩
  · exact h.elim

section
variable {P : Program} {ops : Array Oper} {C : World → Prop} {md : Region.Mode} {Q : Exit → Act → World → Prop}

/-- The values that an operation may leave in its slot, in every world of C: one, the world being as it was (kind none); those of V, the world being of C (kind 'some V'). -/
def Gives (P : Program) (ops : Array Oper) (C : World → Prop) (kd : Option (Value → Prop)) (o : Oper) (a : Act) (S : Value → Prop) : Prop :=
  if Region.wanted o (yielded ops a.tmps) = true then
    match kd with
    | none => ∃ v, S = (fun u => u = v) ∧ ∀ w, C w → (execOp a.eval o).run P w = .ok (.value v) w
    | some V => S = V ∧ ∀ w, C w → looseUpon P C V ((execOp a.eval o).run P w)
  else S = fun u => u = undef

theorem Gives.move {kd : Option (Value → Prop)} {o : Oper} {a a' : Act} {S : Value → Prop} (h : Gives P ops C kd o a S) (he : execOp a'.eval o = execOp a.eval o)
    (hw : Region.wanted o (yielded ops a'.tmps) = Region.wanted o (yielded ops a.tmps)) : Gives P ops C kd o a' S := by
  unfold Gives at *
  rw [he, hw]
  exact h

theorem Gives.one {kd : Option (Value → Prop)} {o : Oper} {a : Act} {S T : Value → Prop} {w : World} (hC : C w) (h : Gives P ops C kd o a S) (k : Gives P ops C kd o a T) : S = T := by
  unfold Gives at *
  split at h
  · rename_i hw
    rw [if_pos hw] at k
    cases kd with
    | none =>
      obtain ⟨v, rfl, hv⟩ := h
      obtain ⟨u, rfl, hu⟩ := k
      have e := (hv w hC).symm.trans (hu w hC)
      injection e with e1 _
      injection e1 with e2
      rw [e2]
    | some V => exact h.1.trans k.1.symm
  · rename_i hw
    rw [if_neg hw] at k
    exact h.trans k.symm

theorem Gives.ex {kd : Option (Value → Prop)} {o : Oper} {a : Act} {S : Value → Prop} {w : World} (hC : C w) (h : Gives P ops C kd o a S) : ∃ v, S v := by
  unfold Gives at h
  split at h
  · cases kd with
    | none => obtain ⟨v, rfl, _⟩ := h; exact ⟨v, rfl⟩
    | some V => obtain ⟨rfl, hv⟩ := h; exact (hv w hC).some
  · exact ⟨undef, by rw [h]⟩

/-- One operation. -/
def lStep (P : Program) (ops : Array Oper) (C : World → Prop) (kd : Option (Value → Prop)) (o : Oper) (K : Act → Prop) (a : Act) : Prop :=
  ∃ S, Gives P ops C kd o a S ∧ ∀ v, S v → K (a.put o.dst v)

theorem wpOp_of_lStep {kd : Option (Value → Prop)} {o : Oper} {K : Act → Prop} {a : Act} {i : Nat} {w : World} {K' : Act → World → Prop} (hi : ops[i]? = some o) (hC : C w)
    (hK : ∀ a' w', C w' → K a' → K' a' w') (h : lStep P ops C kd o K a) : wpOp P ops Q i K' a w := by
  obtain ⟨S, hS, hn⟩ := h
  unfold Gives at hS
  unfold wpOp
  rw [hi]
  dsimp only
  split at hS
  · rename_i hw
    rw [if_pos hw]
    refine .inl ?_
    unfold Oper.wp
    cases kd with
    | none =>
      obtain ⟨v, rfl, hv⟩ := hS
      rw [hv w hC]
      exact hK _ _ hC (hn v rfl)
    | some V =>
      obtain ⟨rfl, hv⟩ := hS
      have h1 := hv w hC
      generalize (execOp a.eval o).run P w = r at h1
      unfold looseUpon at h1
      split at h1
      · exact hK _ _ h1.2 (hn _ h1.1)
      · refine Calls.mono h1 fun e w'' ⟨v, he, hV, hc⟩ => ?_
        subst he
        exact hK _ _ hc (hn _ hV)
      · exact h1.elim
  · rename_i hw
    rw [if_neg hw]
    exact hK _ _ hC (hn undef (by rw [hS]))

/-- Whatever order is picked, till only the last operation (number m) is left; then F. -/
def wpAnyL (P : Program) (md : Region.Mode) (ops : Array Oper) (C : World → Prop) (kinds : Nat → Option (Value → Prop)) (m : Nat) (F : Act → Prop) : Nat → Array Bool → Act → Prop
  | 0, listed, a => (∀ k, k < m → listed.getD k true = true) ∧ m ∈ Region.ready md ops listed ∧ F a
  | fuel + 1, listed, a => Region.ready md ops listed ≠ [] ∧ ∀ i ∈ Region.ready md ops listed, ∃ o, ops[i]? = some o ∧ lStep P ops C (kinds i) o (wpAnyL P md ops C kinds m F fuel (listed.setIfInBounds i true)) a

/-- The last operation waits for all others. -/
def lastWaits (md : Region.Mode) (ops : Array Oper) (m : Nat) : Bool :=
  ops.size == m + 1 && match ops[m]? with
    | some o => (List.range m).all fun k => o.after.any fun e => Region.binds md e && e.on == k
    | none => false

theorem lastWaits_spec {m : Nat} (h : lastWaits md ops m = true) {listed : Array Bool} (hr : m ∈ Region.ready md ops listed) : ∀ k, k < m → listed.getD k false = true := by
  intro k hk
  simp only [lastWaits, Bool.and_eq_true] at h
  obtain ⟨_, o, ho, hall⟩ := mem_ready.1 hr
  rw [ho] at h
  have h2 := List.all_eq_true.1 h.2 k (List.mem_range.2 hk)
  obtain ⟨e, he, hb⟩ := Array.any_eq_true'.1 h2
  simp only [Bool.and_eq_true, beq_iff_eq] at hb
  have := hall e he hb.1
  rw [hb.2] at this
  exact this

theorem lt_of_ready {i : Nat} {listed : Array Bool} (h : i ∈ Region.ready md ops listed) : i < ops.size := by
  obtain ⟨_, o, ho, _⟩ := mem_ready.1 h
  exact (Array.getElem?_eq_some_iff.1 ho).1

theorem getD_true_of {listed : Array Bool} {k : Nat} (h : listed.getD k false = true) : listed.getD k true = true := by
  rcases Nat.lt_or_ge k listed.size with h' | h'
  · simp [h'] at h ⊢; exact h
  · simp [Array.getElem?_eq_none h']

/-- An operation that may come up now may be taken first. -/
theorem wpAnyL_first {kinds : Nat → Option (Value → Prop)} {m : Nat} {F : Act → Prop} {w0 : World} (hC : C w0) (hL : lastWaits md ops m = true) {i : Nat} (him : i < m) {oi : Oper} (hi : ops[i]? = some oi)
    (hsel : ∀ (j : Nat) (o : Oper) cs b, ops[j]? = some o → o.op ≠ .select cs b) {S : Value → Prop} :
    ∀ (fuel : Nat) (listed : Array Bool) (a : Act),
      (∀ j oj, ops[j]? = some oj → j ≠ i → listed.getD j true = false → (∀ e ∈ oj.after, Region.binds md e = true → e.on ≠ i) → oi.apart ops oj = true) →
      i ∈ Region.ready md ops listed → Gives P ops C (kinds i) oi a S →
      (∀ v, S v → wpAnyL P md ops C kinds m F fuel (listed.setIfInBounds i true) (a.put oi.dst v)) → wpAnyL P md ops C kinds m F (fuel + 1) listed a := by
  have small : ∀ (listed : Array Bool) (j : Nat), i ∈ Region.ready md ops listed → j ∈ Region.ready md ops listed → j < m := by
    intro listed j hr hj
    have h1 := lt_of_ready hj
    have h2 : ops.size = m + 1 := by simp only [lastWaits, Bool.and_eq_true, beq_iff_eq] at hL; exact hL.1
    rcases Nat.lt_or_ge j m with h | h
    · exact h
    · obtain rfl : j = m := by omega
      have h3 := getD_true_of (lastWaits_spec hL hj i him)
      rw [(mem_ready.1 hr).1] at h3
      cases h3
  intro fuel
  induction fuel with
  | zero =>
    intro listed a _ hr hG H
    refine ⟨fun h => (by rw [h] at hr; cases hr), fun j hj => ?_⟩
    by_cases hji : j = i
    · subst hji; exact ⟨oi, hi, S, hG, H⟩
    · obtain ⟨v, hv⟩ := hG.ex hC
      have h1 := (H v hv).1 j (small listed j hr hj)
      rw [getD_set_ne true (Ne.symm hji), (mem_ready.1 hj).1] at h1
      cases h1
  | succ fuel ih =>
    intro listed a hfree hr hG H
    refine ⟨fun h => (by rw [h] at hr; cases hr), fun j hj => ?_⟩
    by_cases hji : j = i
    · subst hji; exact ⟨oi, hi, S, hG, H⟩
    · obtain ⟨hjun, oj, hoj, hall⟩ := mem_ready.1 hj
      have hnot : ∀ e ∈ oj.after, Region.binds md e = true → e.on ≠ i := by
        intro e he hb heq
        have h1 := getD_true_of (hall e he hb)
        rw [heq, (mem_ready.1 hr).1] at h1
        cases h1
      obtain ⟨h1, h2, h3⟩ := Oper.apart_spec (hfree j oj hoj hji hjun hnot)
      have hsi := fun cs b => hsel i oi cs b hi
      have hsj := fun cs b => hsel j oj cs b hoj
      -- what j gives does not hang on i's value
      have got : ∀ v, S v → ∃ T, Gives P ops C (kinds j) oj a T ∧ ∀ u, T u → wpAnyL P md ops C kinds m F fuel ((listed.setIfInBounds i true).setIfInBounds j true) ((a.put oi.dst v).put oj.dst u) := by
        intro v hv
        obtain ⟨o', ho', T, hT, hn⟩ := (H v hv).2 j (ready_mono hj hji)
        rw [hoj] at ho'
        cases ho'
        exact ⟨T, hT.move (execOp_put oj hsj a oi.dst v h1).symm (wanted_put oj a oi.dst v h1).symm, hn⟩
      obtain ⟨v0, hv0⟩ := hG.ex hC
      obtain ⟨T, hT, _⟩ := got v0 hv0
      refine ⟨oj, hoj, T, hT, fun u hu => ih (listed.setIfInBounds j true) (a.put oj.dst u) ?_ (ready_mono hr (Ne.symm hji)) (hG.move (execOp_put oi hsi a oj.dst u h3) (wanted_put oi a oj.dst u h3)) fun v hv => ?_⟩
      · intro k ok hk hki hun hno
        refine hfree k ok hk hki ?_ hno
        by_cases hjk : j = k
        · subst hjk; exact hjun
        · rw [getD_set_ne true hjk] at hun; exact hun
      · obtain ⟨T', hT', hn⟩ := got v hv
        have e := Gives.one hC hT hT'
        subst e
        have := hn u hu
        rw [Array.setIfInBounds_comm _ _ (Ne.symm hji)] at this
        rw [← Act.put_comm a v u h2]
        exact this

theorem wpAny_of_L {kinds : Nat → Option (Value → Prop)} {m : Nat} {last : Oper} (hL : lastWaits md ops m = true) (hm : ops[m]? = some last) :
    ∀ (fuel : Nat) (listed : Array Bool) (a : Act) (w : World), C w → wpAnyL P md ops C kinds m (fun a => ∀ w, C w → wpList P ops Q [last] a w) fuel listed a → wpAny P md ops Q (fuel + 1) listed a w := by
  have hsz : ops.size = m + 1 := by simp only [lastWaits, Bool.and_eq_true, beq_iff_eq] at hL; exact hL.1
  intro fuel
  induction fuel with
  | zero =>
    intro listed a w hw h
    obtain ⟨hall, hr, hF⟩ := h
    refine ⟨fun h0 => (by rw [h0] at hr; cases hr), fun i hi => ?_⟩
    have hlt := lt_of_ready hi
    obtain rfl : i = m := by
      rcases Nat.lt_or_ge i m with h' | h'
      · have := hall i h'; rw [(mem_ready.1 hi).1] at this; cases this
      · omega
    have hend : Region.ready md ops (listed.setIfInBounds i true) = [] := by
      refine List.eq_nil_iff_forall_not_mem.2 fun j hj => ?_
      have hjl := lt_of_ready hj
      have h0 := (mem_ready.1 hj).1
      by_cases hji : j = i
      · subst hji
        rcases Nat.lt_or_ge j listed.size with h' | h'
        · simp [h'] at h0
        · simp [h'] at h0
      · rw [getD_set_ne true (Ne.symm hji), hall j (by omega)] at h0
        cases h0
    have h1 := hF w hw
    unfold wpList at h1
    unfold wpOp
    rw [hm]
    dsimp only
    split at h1
    · rename_i hwd
      rw [if_pos hwd]
      exact h1.imp (Oper.wp_mono fun a' w' h' => ⟨hend, h'⟩) id
    · rename_i hwd
      rw [if_neg hwd]
      exact ⟨hend, h1⟩
  | succ fuel ih =>
    intro listed a w hw h
    refine ⟨fun h0 => absurd h0 h.1, fun i hi => ?_⟩
    obtain ⟨o, ho, hs⟩ := h.2 i hi
    exact wpOp_of_lStep ho hw (fun a' w' hw' hk => ih _ a' w' hw' hk) hs

/-- The walk in the order of the text, a kind beside each operation; the last operation is left to the plain walk. -/
def wpLoose (P : Program) (ops : Array Oper) (C : World → Prop) (Q : Exit → Act → World → Prop) : List (Option (Value → Prop)) → List Oper → Act → Prop
  | _, [], _ => False
  | _, [o], a => ∀ w, C w → wpList P ops Q [o] a w
  | kds, o :: o2 :: rest, a => lStep P ops C (kds.headD none) o (wpLoose P ops C Q kds.tail (o2 :: rest)) a

theorem wpAnyL_lex {m : Nat} {w0 : World} (hC : C w0) (hs : Region.noSelect ops = true) (hL : lastWaits md ops m = true) {last : Oper} (hlast : ops[m]? = some last) {kinds : Nat → Option (Value → Prop)} :
    ∀ (l : List Oper) (kds : List (Option (Value → Prop))) (k : Nat) (listed : Array Bool) (a : Act), (∀ j, l[j]? = ops[k + j]?) → (∀ j, kinds (k + j) = kds.getD j none) → k + l.length = m + 1 →
      (∀ j, j < k → listed.getD j true = true) → Region.lexFrom md ops l.length k listed = true → wpLoose P ops C Q kds l a →
      wpAnyL P md ops C kinds m (fun a => ∀ w, C w → wpList P ops Q [last] a w) (l.length - 1) listed a
  | [], _, _, _, _, _, _, _, _, _, h => h.elim
  | [o], kds, k, listed, a, hl, hk, hn, hd, hB, h => by
    have h0 : ops[k]? = some o := by simpa using (hl 0).symm
    have hkm : k = m := by simp at hn; omega
    subst hkm
    rw [hlast] at h0
    cases h0
    simp only [List.length_cons, List.length_nil, Region.lexFrom, Bool.and_eq_true] at hB
    exact ⟨hd, by simpa using hB.1.1, h⟩
  | o :: o2 :: l, kds, k, listed, a, hl, hk, hn, hd, hB, h => by
    have h0 : ops[k]? = some o := by simpa using (hl 0).symm
    have hkm : k < m := by simp at hn; omega
    simp only [List.length_cons, Region.lexFrom, Bool.and_eq_true] at hB
    obtain ⟨⟨hr, hf⟩, hB'⟩ := hB
    obtain ⟨S, hS, hK⟩ := h
    have e0 : kinds k = kds.headD none := by have := hk 0; cases kds <;> simpa using this
    rw [← e0] at hS
    have hr' : k ∈ Region.ready md ops listed := by simpa using hr
    have hsz := lt_of_ready hr'
    refine wpAnyL_first hC hL hkm h0 (Region.noSelect_spec hs) _ listed a (Region.free_spec h0 hf) hr' hS fun v hv => ?_
    refine wpAnyL_lex hC hs hL hlast (o2 :: l) kds.tail (k + 1) _ _ (fun j => ?_) (fun j => ?_) (by simp at hn ⊢; omega) (fun j hj => ?_) (by simpa [Region.lexFrom] using hB') (hK v hv)
    · have := hl (j + 1); simpa [Nat.add_assoc, Nat.add_comm 1 j] using this
    · have := hk (j + 1)
      rw [Nat.add_assoc, Nat.add_comm 1 j, this]
      cases kds <;> simp
    · by_cases hjk : j = k
      · subst hjk
        have h1 := (mem_ready.1 hr').1
        rcases Nat.lt_or_ge j listed.size with h' | h'
        · simp [h']
        · simp [h']
      · rw [getD_set_ne true (Ne.symm hjk)]
        exact hd j (by omega)

/-- The law: a region that draws, written out. 'm': its last operation's number. -/
theorem wp_region_loose {id : Nat} {a : Act} {w : World} {l : List Oper} (C : World → Prop) (kds : List (Option (Value → Prop))) (m : Nat) (hm : P.follows .mixedOrders = true) (hB : Region.lexB .any l.toArray = true)
    (hL : lastWaits .any l.toArray m = true) (hC : C w.drew) (h : wpLoose P l.toArray C Q kds l a) : (Code.region id l.toArray true).wp P Q a w := by
  simp only [Region.lexB, Bool.and_eq_true] at hB
  have hsz : l.length = m + 1 := by have := hL; simp only [lastWaits, Bool.and_eq_true, beq_iff_eq] at this; simpa using this.1
  obtain ⟨last, hlast⟩ : ∃ o, l.toArray[m]? = some o := ⟨l[m]'(by omega), by simp⟩
  refine wp_region_any hm ?_
  have h1 := wpAnyL_lex (P := P) (Q := Q) (kinds := fun j => kds.getD j none) hC hB.1 hL hlast l kds 0 (Array.replicate l.toArray.size false) a (by simp) (by simp) (by omega) (by simp) (by simpa using hB.2) h
  have h2 := wpAny_of_L hL hlast _ _ _ _ hC h1
  have e : l.length - 1 + 1 = l.toArray.size := by simp; omega
  rw [e] at h2
  exact h2

/-! The steps -/
theorem loose_step {kds : List (Option (Value → Prop))} {o o2 : Oper} {rest : List Oper} {a : Act} (h : ∀ K : Act → Prop, (∀ a, wpLoose P ops C Q kds.tail (o2 :: rest) a → K a) → lStep P ops C (kds.headD none) o K a) :
    wpLoose P ops C Q kds (o :: o2 :: rest) a := h _ fun _ h => h
theorem lStep_one {o : Oper} {a : Act} {K : Act → Prop} (hw : Region.wanted o (yielded ops a.tmps) = true) (v : Value) (h : ∀ w, C w → (execOp a.eval o).run P w = .ok (.value v) w) (hK : K (a.put o.dst v)) : lStep P ops C none o K a :=
  ⟨fun u => u = v, by unfold Gives; rw [if_pos hw]; exact ⟨v, rfl, h⟩, fun u hu => by subst hu; exact hK⟩
theorem lStep_any {o : Oper} {a : Act} {K : Act → Prop} {V : Value → Prop} (hw : Region.wanted o (yielded ops a.tmps) = true) (h : ∀ w, C w → looseUpon P C V ((execOp a.eval o).run P w)) (hK : ∀ v, V v → K (a.put o.dst v)) : lStep P ops C (some V) o K a :=
  ⟨V, by unfold Gives; rw [if_pos hw]; exact ⟨rfl, h⟩, hK⟩
theorem lStep_skip {kd : Option (Value → Prop)} {o : Oper} {a : Act} {K : Act → Prop} (hw : Region.wanted o (yielded ops a.tmps) = false) (hK : K (a.put o.dst undef)) : lStep P ops C kd o K a :=
  ⟨fun u => u = undef, by unfold Gives; rw [if_neg (by rw [hw]; exact Bool.false_ne_true)], fun u hu => by subst hu; exact hK⟩
end
end Go.Proofs.Ytjcdmdjkolmliaa.Fl
