/- Numbers that need no rounding; quotients keep order. -/
import Derived.Test.YtnhilikcgfhkbaaFx
import Derived.Test.YtnhilikcgfhkbaaFq
namespace Go.Proofs.Ytnhilikcgfhkbaa.Fl

theorem read_low {x : Nat} {s : Bool} {m : Nat} {e : Int} (h : F64.read x = .number s m e) : -1074 ≤ e := by
  unfold Ieee.Format.read at h
  simp only [sw, bn, ir, lp] at h
  generalize x % 9223372036854775808 = r at *
  split at h
  · injection h with _ _ h2; omega
  · split at h
    · injection h with _ _ h2; omega
    · split at h <;> cases h

theorem cut_none (neg : Bool) (n : Nat) : Ieee.Toward.even.cut neg n 0 = n := by
  unfold Ieee.Toward.cut
  simp [Nat.mod_one]

/-- What a word stands for is written as it is. -/
theorem nearest_exact {x : Nat} {s : Bool} {m : Nat} {e : Int} (h : F64.read x = .number s m e) : Num (F64.nearest s m e) ∧ val (F64.nearest s m e) = val x := by
  have hv : val x = sg s ((m : Rat) * 2 ^ e) := by unfold val; rw [h, dval_number]
  by_cases hm : m = 0
  · subst hm
    obtain ⟨a, v⟩ := nearest_zero s e
    refine ⟨a, ?_⟩
    rw [v, hv]
    have : ((0 : Nat) : Rat) * 2 ^ e = 0 := Rat.zero_mul _
    rw [this]
    cases s <;> simp [sg]
  · obtain ⟨b1, b2⟩ := number_bounds h
    have b3 := read_low h
    have l1 : m < 2 ^ 53 := by omega
    have l2 : m.log2 < 53 := (Nat.log2_lt hm).2 l1
    have hl : lastP m e ≤ e := by unfold lastP; omega
    have hd : (lastP m e - e).toNat = 0 := by omega
    have hk : kept s m e = m * 2 ^ (e - lastP m e).toNat := by
      unfold kept
      rw [hd, cut_none, Nat.shiftLeft_eq]
    have l3 : m < 2 ^ (m.log2 + 1) := Nat.lt_log2_self
    have hk2 : kept s m e < 9007199254740992 := by
      rw [hk]
      have e1 : m * 2 ^ (e - lastP m e).toNat < 2 ^ (m.log2 + 1) * 2 ^ (e - lastP m e).toNat := Nat.mul_lt_mul_of_pos_right l3 (Nat.two_pow_pos _)
      have e2 : 2 ^ (m.log2 + 1) * 2 ^ (e - lastP m e).toNat ≤ 2 ^ 53 := by
        rw [← Nat.pow_add]
        exact Nat.pow_le_pow_right (by decide) (by unfold lastP; omega)
      omega
    have hr : (lastP m e + 1074).toNat ≤ 2045 := by omega
    rcases nearest_is s (place := e) hm with ⟨_, a, v⟩ | ⟨o, _⟩
    · refine ⟨a, ?_⟩
      rw [v, hv, hk]
      congr 1
      rw [Rat.natCast_mul, ← p2_nat, Rat.mul_assoc, ← p2_add]
      congr 2
      omega
    · exfalso
      unfold rungOf at o
      omega

theorem log2_gap {q d a : Nat} (hq : q ≠ 0) (h1 : a < 2 ^ d) : (q * 2 ^ d + a).log2 = q.log2 + d := by
  have hp := Nat.two_pow_pos d
  have hne : q * 2 ^ d + a ≠ 0 := by
    have := Nat.mul_pos (Nat.pos_of_ne_zero hq) hp
    omega
  rw [Nat.log2_eq_iff hne]
  have l1 : 2 ^ q.log2 ≤ q := Nat.log2_self_le hq
  have l2 : q < 2 ^ (q.log2 + 1) := Nat.lt_log2_self
  constructor
  · rw [Nat.pow_add]
    exact Nat.le_trans (Nat.mul_le_mul_right _ l1) (Nat.le_add_right _ _)
  · rw [show q.log2 + d + 1 = (q.log2 + 1) + d by omega, Nat.pow_add]
    have : (q + 1) * 2 ^ d ≤ 2 ^ (q.log2 + 1) * 2 ^ d := Nat.mul_le_mul_right _ l2
    rw [Nat.add_mul, Nat.one_mul] at this
    omega

theorem cut_gap (neg : Bool) {q d a g : Nat} (hq : q ≠ 0) (h0 : 0 < a) (h1 : a < 2 ^ d) (hd : 0 < d) (hg : 2 ≤ g) :
    Ieee.Toward.even.cut neg (q * 2 ^ d + a) (g + d - 1) = Ieee.Toward.even.cut neg (2 * q + 1) g := by
  have e1 : (2 * q + 1).log2 = q.log2 + 1 := by
    have := log2_gap (d := 1) (a := 1) hq (by decide)
    rwa [show q * 2 ^ 1 + 1 = 2 * q + 1 by omega] at this
  unfold Ieee.Toward.cut
  simp only [Nat.one_shiftLeft]
  rw [log2_gap hq h1, e1]
  have e2 : min (g + d - 1) (q.log2 + d + 2) = min g (q.log2 + 1 + 2) - 2 + 1 + d := by omega
  have e3 : min g (q.log2 + 1 + 2) = min g (q.log2 + 1 + 2) - 2 + 2 := by omega
  rw [e2]
  rw [e3]
  generalize min g (q.log2 + 1 + 2) - 2 = c
  have f1 : 2 ^ (c + 1 + d) = 2 * 2 ^ c * 2 ^ d := by rw [Nat.pow_add, Nat.pow_succ, Nat.mul_comm (2 ^ c) 2]
  have f2 : 2 ^ (c + 2) = 4 * 2 ^ c := by rw [Nat.pow_add]; omega
  rw [show c + 2 - 2 + 1 + d = c + 1 + d by omega, f1, f2]
  have hH := Nat.two_pow_pos c
  generalize 2 ^ c = H at *
  generalize 2 ^ d = D at *
  have hD : 0 < D := by omega
  have hqe := Nat.div_add_mod q (2 * H)
  have ht := Nat.mod_lt q (show 0 < 2 * H by omega)
  generalize q / (2 * H) = l at *
  generalize q % (2 * H) = t at *
  -- the one
  have n1 : q * D + a = 2 * H * D * l + (t * D + a) := by
    rw [← hqe, Nat.add_mul]
    have : 2 * H * l * D = 2 * H * D * l := by rw [Nat.mul_assoc, Nat.mul_comm l D, ← Nat.mul_assoc]
    omega
  have r1 : t * D + a < 2 * H * D := by
    have : (t + 1) * D ≤ 2 * H * D := Nat.mul_le_mul_right _ ht
    rw [Nat.add_mul, Nat.one_mul] at this
    omega
  have d1 : (q * D + a) / (2 * H * D) = l := by
    rw [n1, Nat.mul_add_div (by omega), Nat.div_eq_of_lt r1, Nat.add_zero]
  have m1 : (q * D + a) % (2 * H * D) = t * D + a := by
    rw [n1, Nat.mul_add_mod, Nat.mod_eq_of_lt r1]
  -- the other
  have n2 : 2 * q + 1 = 4 * H * l + (2 * t + 1) := by
    rw [← hqe]
    have : 4 * H * l = 2 * (2 * H * l) := by rw [← Nat.mul_assoc, ← Nat.mul_assoc]
    omega
  have d2 : (2 * q + 1) / (4 * H) = l := by
    rw [n2, Nat.mul_add_div (by omega), Nat.div_eq_of_lt (by omega), Nat.add_zero]
  have m2 : (2 * q + 1) % (4 * H) = 2 * t + 1 := by
    rw [n2, Nat.mul_add_mod, Nat.mod_eq_of_lt (by omega)]
  rw [d1, m1, d2, m2]
  have c2 : (4 * H == 2 * (2 * t + 1)) = false := by simp; omega
  have key : (2 * H * D < 2 * (t * D + a)) ↔ H ≤ t := by
    constructor
    · intro h
      rcases Nat.lt_or_ge t H with k | k
      · have : (t + 1) * D ≤ H * D := Nat.mul_le_mul_right _ k
        rw [Nat.add_mul, Nat.one_mul] at this
        have e : 2 * H * D = 2 * (H * D) := Nat.mul_assoc _ _ _
        omega
      · exact k
    · intro h
      have : H * D ≤ t * D := Nat.mul_le_mul_right _ h
      have e : 2 * H * D = 2 * (H * D) := Nat.mul_assoc _ _ _
      omega
  have key2 : (2 * H * D == 2 * (t * D + a)) = false := by
    simp only [beq_eq_false_iff_ne, ne_eq]
    intro h
    have e : 2 * H * D = 2 * (H * D) := Nat.mul_assoc _ _ _
    rcases Nat.lt_or_ge t H with k | k
    · have : (t + 1) * D ≤ H * D := Nat.mul_le_mul_right _ k
      rw [Nat.add_mul, Nat.one_mul] at this
      omega
    · have : H * D ≤ t * D := Nat.mul_le_mul_right _ k
      omega
  have c1 : decide (2 * H * D < 2 * (t * D + a)) = decide (4 * H < 2 * (2 * t + 1)) := decide_eq_decide.2 (key.trans (by omega))
  simp only [key2, c2, c1]

/-- Between two halves of a unit all is written as one. -/
theorem nearest_gap (neg : Bool) {q d a : Nat} {p : Int} (hq : 9007199254740992 ≤ q) (h0 : 0 < a) (h1 : a < 2 ^ d) (hd : 0 < d) :
    F64.nearest neg (q * 2 ^ d + a) p = F64.nearest neg (2 * q + 1) (p + d - 1) := by
  have hq0 : q ≠ 0 := by omega
  have hl : 53 ≤ q.log2 := (Nat.le_log2 hq0).2 hq
  have e1 : (2 * q + 1).log2 = q.log2 + 1 := by
    have := log2_gap (d := 1) (a := 1) hq0 (by decide)
    rwa [show q * 2 ^ 1 + 1 = 2 * q + 1 by omega] at this
  have e0 := log2_gap (d := d) (a := a) hq0 h1
  have hne : q * 2 ^ d + a ≠ 0 := by omega
  rw [nearest_eq neg _ p hne, nearest_eq neg (2 * q + 1) _ (by omega)]
  have hlast : lastP (2 * q + 1) (p + d - 1) = lastP (q * 2 ^ d + a) p := by
    unfold lastP; rw [e1, e0]; omega
  have hk : kept neg (q * 2 ^ d + a) p = kept neg (2 * q + 1) (p + d - 1) := by
    unfold kept
    rw [hlast]
    have z1 : (p - lastP (q * 2 ^ d + a) p).toNat = 0 := by unfold lastP; rw [e0]; omega
    have z2 : (p + d - 1 - lastP (q * 2 ^ d + a) p).toNat = 0 := by unfold lastP; rw [e0]; omega
    rw [z1, z2, Nat.shiftLeft_zero, Nat.shiftLeft_zero]
    have hg : 2 ≤ (lastP (q * 2 ^ d + a) p - (p + d - 1)).toNat := by unfold lastP; rw [e0]; omega
    have hgd : (lastP (q * 2 ^ d + a) p - p).toNat = (lastP (q * 2 ^ d + a) p - (p + d - 1)).toNat + d - 1 := by omega
    rw [hgd]
    exact cut_gap neg hq0 h0 h1 hd hg
  rw [hlast, hk]

/-- A quotient's digits. -/
theorem div_form {x y : Nat} {s : Bool} {m n : Nat} {i j : Int} (hx : F64.read x = .number s m i) (hy : F64.read y = .number false n j) (hn : n ≠ 0) :
    fdiv x y = F64.nearest s (2 * (m * 2 ^ (54 + n.log2 - m.log2) / n) + (m * 2 ^ (54 + n.log2 - m.log2) % n != 0).toNat) (i - j - ((54 + n.log2 - m.log2 : Nat) : Int) - 1) := by
  unfold fdiv Ieee.Format.div
  have hf : F64.fractionBits + 2 = 54 := by decide +kernel
  rw [hx, hy, hf]
  simp only [Ieee.Datum.quotient, hn, if_false, Option.map_some, Option.getD_some, Nat.shiftLeft_eq, Bool.xor_false]
  rfl

theorem ne_toNat (r : Nat) : (r != 0).toNat = 0 ∧ r = 0 ∨ (r != 0).toNat = 1 ∧ 0 < r := by
  rcases Nat.eq_zero_or_pos r with h0 | h0
  · left; subst h0; exact ⟨rfl, rfl⟩
  · right
    have : (r != 0) = true := by simp; omega
    rw [this]; exact ⟨rfl, h0⟩

/-- Quotients by one divisor, as whole numbers. -/
theorem quot_mono {D1 D2 n dl : Nat} (hn : 0 < n) (h : D1 ≤ D2 * 2 ^ dl) :
    2 * (D1 / n) + (D1 % n != 0).toNat ≤ (2 * (D2 / n) + (D2 % n != 0).toNat) * 2 ^ dl ∨
    ∃ a, 0 < a ∧ a < 2 ^ (dl + 1) ∧ 2 * (D1 / n) + (D1 % n != 0).toNat = D2 / n * 2 ^ (dl + 1) + a ∧ 2 * (D2 / n) + (D2 % n != 0).toNat = 2 * (D2 / n) + 1 := by
  have e1 := Nat.div_add_mod D1 n
  have e2 := Nat.div_add_mod D2 n
  have r1 := Nat.mod_lt D1 hn
  have r2 := Nat.mod_lt D2 hn
  rcases Nat.lt_or_ge ((2 * (D2 / n) + (D2 % n != 0).toNat) * 2 ^ dl) (2 * (D1 / n) + (D1 % n != 0).toNat) with k | k
  · right
    have hp := Nat.two_pow_pos dl
    rw [Nat.pow_succ]
    generalize 2 ^ dl = P at *
    generalize D1 / n = q1 at *
    generalize D2 / n = q2 at *
    generalize D1 % n = a1 at *
    generalize D2 % n = a2 at *
    have hlt : n * q1 < n * ((q2 + 1) * P) := by
      have : D2 * P < n * (q2 + 1) * P := by
        refine Nat.mul_lt_mul_of_pos_right ?_ hp
        rw [Nat.mul_add]
        omega
      rw [← Nat.mul_assoc]
      omega
    have hlt2 : q1 < (q2 + 1) * P := Nat.lt_of_mul_lt_mul_left hlt
    rw [Nat.add_mul, Nat.one_mul] at hlt2
    have z : 2 * (q2 * P) = q2 * (P * 2) := by rw [← Nat.mul_assoc, Nat.mul_comm 2, Nat.mul_assoc, Nat.mul_comm 2]
    rcases ne_toNat a2 with ⟨b2, c2⟩ | ⟨b2, c2⟩
    · exfalso
      rw [b2, Nat.add_zero, Nat.mul_assoc] at k
      subst c2
      have hle : n * q1 + a1 ≤ n * (q2 * P) := by
        rw [← Nat.mul_assoc]
        rw [Nat.add_zero] at e2
        rw [e2, e1]
        exact h
      have hle2 : q1 ≤ q2 * P := Nat.le_of_mul_le_mul_left (Nat.le_trans (Nat.le_add_right _ _) hle) hn
      rcases ne_toNat a1 with ⟨b1, c1⟩ | ⟨b1, c1⟩
      · omega
      · have : q1 = q2 * P := by omega
        rw [this] at hle
        omega
    · rw [b2, Nat.add_mul, Nat.one_mul, Nat.mul_assoc] at k
      refine ⟨2 * q1 + (a1 != 0).toNat - q2 * (P * 2), ?_, ?_, ?_, by rw [b2]⟩
      · omega
      · rcases ne_toNat a1 with ⟨b1, c1⟩ | ⟨b1, c1⟩ <;> omega
      · omega
  · left
    exact k

theorem quot_big {m n : Nat} (hm : m ≠ 0) (hn : n ≠ 0) : 9007199254740992 ≤ m * 2 ^ (54 + n.log2 - m.log2) / n := by
  rw [Nat.le_div_iff_mul_le (Nat.pos_of_ne_zero hn)]
  have l1 : 2 ^ m.log2 ≤ m := Nat.log2_self_le hm
  have l2 : n < 2 ^ (n.log2 + 1) := Nat.lt_log2_self
  have l3 : 2 ^ (54 + n.log2) ≤ m * 2 ^ (54 + n.log2 - m.log2) := by
    refine Nat.le_trans ?_ (Nat.mul_le_mul_right _ l1)
    rw [← Nat.pow_add]
    exact Nat.pow_le_pow_right (by decide) (by omega)
  have l4 : 2 ^ (54 + n.log2) = 9007199254740992 * 2 ^ (n.log2 + 1) := by
    rw [show 54 + n.log2 = 53 + (n.log2 + 1) by omega, Nat.pow_add]
  omega

theorem log2_52 {x : Nat} {s : Bool} {m : Nat} {e : Int} (h : F64.read x = .number s m e) : m.log2 ≤ 52 := by
  by_cases hm : m = 0
  · subst hm; decide
  · have b := (number_bounds h).1
    have : m.log2 < 53 := (Nat.log2_lt hm).2 (by omega)
    omega

/-- QUOTIENTS BY ONE DIVISOR ABOVE 0 KEEP ORDER (of numbers not below 0). -/
theorem div_mono {x1 x2 y : Nat} (h1 : Num x1) (h2 : Num x2) (hy : Num y) (y0 : 0 < val y) (x0 : 0 ≤ val x1) (h : val x1 ≤ val x2) : leB (fdiv x1 y) (fdiv x2 y) = true := by
  obtain ⟨s1, m1, i1, h1⟩ := h1
  obtain ⟨s2, m2, i2, h2⟩ := h2
  obtain ⟨t, n, j, hy⟩ := hy
  have v1 : val x1 = sg s1 ((m1 : Rat) * 2 ^ i1) := by unfold val; rw [h1, dval_number]
  have v2 : val x2 = sg s2 ((m2 : Rat) * 2 ^ i2) := by unfold val; rw [h2, dval_number]
  have vy : val y = sg t ((n : Rat) * 2 ^ j) := by unfold val; rw [hy, dval_number]
  have ny := mag_nonneg n j
  have p1 := mag_nonneg m1 i1
  have p2 := mag_nonneg m2 i2
  have ht : t = false := by
    cases t
    · rfl
    · exfalso
      simp only [sg, if_true] at vy
      grind
  subst ht
  have hn : n ≠ 0 := by
    intro h0
    subst h0
    have : ((0 : Nat) : Rat) * 2 ^ j = 0 := Rat.zero_mul _
    simp only [sg, Bool.false_eq_true, if_false, this] at vy
    grind
  have pos_of : ∀ (m : Nat) (p : Int), m ≠ 0 → (0 : Rat) < (m : Rat) * 2 ^ p := by
    intro m p hm
    have : (0 : Rat) < m := by exact_mod_cast Nat.pos_of_ne_zero hm
    exact Rat.mul_pos this (p2_pos p)
  rw [div_form h1 hy hn, div_form h2 hy hn]
  have q0 : ∀ k : Nat, 0 * 2 ^ k / n = 0 := fun k => by rw [Nat.zero_mul, Nat.zero_div]
  have q1 : ∀ k : Nat, 0 * 2 ^ k % n = 0 := fun k => by rw [Nat.zero_mul, Nat.zero_mod]
  have z0 : ((0 != 0 : Bool)).toNat = 0 := rfl
  have zz : ∀ (s : Bool) (p : Int), dval (.number s 0 p) = 0 := by
    intro s p
    rw [dval_number]
    have : ((0 : Nat) : Rat) * 2 ^ p = 0 := Rat.zero_mul _
    rw [this]
    cases s <;> simp [sg]
  by_cases z2 : m2 = 0
  · subst z2
    have e2 : ((0 : Nat) : Rat) * 2 ^ i2 = 0 := Rat.zero_mul _
    have z1 : m1 = 0 := by
      refine Classical.byContradiction fun hm => ?_
      have := pos_of m1 i1 hm
      rw [v1] at h x0
      rw [v2, e2] at h
      cases s1 <;> cases s2 <;> simp only [sg, if_true, Bool.false_eq_true, if_false] at h x0 <;> grind
    subst z1
    rw [q0, q1]
    exact nearest_mono (by rw [z0, Nat.mul_zero, Nat.zero_add, zz, zz]; exact Rat.le_refl)
  · have s2f : s2 = false := by
      cases s2
      · rfl
      · exfalso
        have := pos_of m2 i2 z2
        rw [v2] at h
        simp only [sg, if_true] at h
        grind
    subst s2f
    by_cases z1 : m1 = 0
    · subst z1
      rw [q0, q1]
      refine nearest_mono ?_
      rw [z0, Nat.mul_zero, Nat.zero_add, zz, dval_number]
      simp only [sg, Bool.false_eq_true, if_false]
      exact mag_nonneg _ _
    · have s1f : s1 = false := by
        cases s1
        · rfl
        · exfalso
          have := pos_of m1 i1 z1
          rw [v1] at x0
          simp only [sg, if_true] at x0
          grind
      subst s1f
      simp only [sg, Bool.false_eq_true, if_false] at v1 v2
      rw [v1, v2] at h
      have l1 := log2_52 h1
      have l2 := log2_52 h2
      -- the places of the first digits
      have hpl : i1 + m1.log2 ≤ i2 + m2.log2 := by
        refine Classical.byContradiction fun hc => ?_
        have a1 : 2 ^ m1.log2 ≤ m1 := Nat.log2_self_le z1
        have a2 : m2 < 2 ^ (m2.log2 + 1) := Nat.lt_log2_self
        have b1 : (2 : Rat) ^ (m1.log2 : Int) ≤ m1 := by rw [p2_nat]; exact_mod_cast a1
        have b2 : (m2 : Rat) < 2 ^ ((m2.log2 + 1 : Nat) : Int) := by rw [p2_nat]; exact_mod_cast a2
        have c1 := Rat.mul_le_mul_of_nonneg_right b1 (Rat.le_of_lt (p2_pos i1))
        have c2 := Rat.mul_lt_mul_of_pos_right b2 (p2_pos i2)
        rw [← p2_add] at c1 c2
        have c3 := p2_le (show ((m2.log2 + 1 : Nat) : Int) + i2 ≤ (m1.log2 : Int) + i1 by omega)
        grind
      generalize hk1 : 54 + n.log2 - m1.log2 = k1
      generalize hk2 : 54 + n.log2 - m2.log2 = k2
      have hq := quot_big (n := n) z2 hn
      rw [hk2] at hq
      have hle : i1 - k1 ≤ i2 - k2 := by omega
      generalize hdl : ((i2 - k2) - (i1 - k1)).toNat = dl
      have hD : m1 * 2 ^ k1 ≤ m2 * 2 ^ k2 * 2 ^ dl := by
        have e1 : (m1 : Rat) * 2 ^ i1 = ((m1 * 2 ^ k1 : Nat) : Rat) * 2 ^ (i1 - k1) := by
          rw [Rat.natCast_mul, ← p2_nat, Rat.mul_assoc, ← p2_add]
          congr 2
          omega
        have e2 : (m2 : Rat) * 2 ^ i2 = ((m2 * 2 ^ k2 * 2 ^ dl : Nat) : Rat) * 2 ^ (i1 - k1) := by
          rw [Rat.natCast_mul, Rat.natCast_mul, ← p2_nat, ← p2_nat, Rat.mul_assoc, Rat.mul_assoc, ← p2_add, ← p2_add]
          congr 2
          omega
        rw [e1, e2] at h
        have := Rat.le_of_mul_le_mul_right h (p2_pos (i1 - k1))
        exact_mod_cast this
      rcases quot_mono (Nat.pos_of_ne_zero hn) hD with k | ⟨a, a0, a1, ea, eb⟩
      · refine nearest_mono ?_
        rw [dval_number, dval_number]
        simp only [sg, Bool.false_eq_true, if_false]
        generalize 2 * (m1 * 2 ^ k1 / n) + (m1 * 2 ^ k1 % n != 0).toNat = Q1 at *
        generalize 2 * (m2 * 2 ^ k2 / n) + (m2 * 2 ^ k2 % n != 0).toNat = Q2 at *
        have e2 : (Q2 : Rat) * 2 ^ (i2 - j - (k2 : Int) - 1) = ((Q2 * 2 ^ dl : Nat) : Rat) * 2 ^ (i1 - j - (k1 : Int) - 1) := by
          rw [Rat.natCast_mul, ← p2_nat, Rat.mul_assoc, ← p2_add]
          congr 2
          omega
        rw [e2]
        exact Rat.mul_le_mul_of_nonneg_right (by exact_mod_cast k) (Rat.le_of_lt (p2_pos _))
      · rw [ea, eb, nearest_gap false hq a0 a1 (by omega), show i1 - j - (k1 : Int) - 1 + ((dl + 1 : Nat) : Int) - 1 = i2 - j - (k2 : Int) - 1 by omega]
        exact leB_refl (nearest_not_nan _ _ _)
end Go.Proofs.Ytnhilikcgfhkbaa.Fl
