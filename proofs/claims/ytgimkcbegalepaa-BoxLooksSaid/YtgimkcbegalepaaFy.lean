/- Where a ray goes through a box, by floats; and that what goes through a box goes through one that has it. -/
import Derived.Test.YtgimkcbegalepaaFx
namespace Go.Proofs.Ytgimkcbegalepaa.Fl

abbrev one : Nat := 4607182418800017408
theorem num_one : Num one := ⟨false, 4503599627370496, -52, by decide +kernel⟩
theorem val_one : val one = 1 := by decide +kernel

theorem val_big {x : Nat} (h : Num x) : Ab (val x) (2 ^ (1024 : Int)) := by
  obtain ⟨s, m, e, h⟩ := h
  obtain ⟨hm, he⟩ := number_bounds h
  have hv : val x = sg s ((m : Rat) * 2 ^ e) := by unfold val; rw [h, dval_number]
  have h1 : (m : Rat) ≤ 2 ^ ((53 : Nat) : Int) := by
    rw [p2_nat]
    have : m ≤ 2 ^ 53 := Nat.le_trans hm (by decide)
    exact_mod_cast this
  have h2 := p2_le he
  have h3 := Rat.mul_le_mul_of_nonneg_right h1 (Rat.le_of_lt (p2_pos e))
  have h4 := Rat.mul_le_mul_of_nonneg_left h2 (Rat.le_of_lt (p2_pos ((53 : Nat) : Int)))
  have h5 : (2 : Rat) ^ ((53 : Nat) : Int) * 2 ^ (971 : Int) = 2 ^ (1024 : Int) := by rw [← p2_add]; congr 1
  rw [h5] at h4
  have h6 := mag_nonneg m e
  rw [hv]
  generalize (2 : Rat) ^ (1024 : Int) = G at *
  generalize (2 : Rat) ^ ((53 : Nat) : Int) * 2 ^ e = K at *
  generalize (m : Rat) * 2 ^ e = M at *
  cases s <;> simp only [sg, if_true, Bool.false_eq_true, if_false] <;> constructor <;> grind

/-- 1 divided by a number that is not 0 is not 0, and has its sign. -/
theorem inv_read {d : Nat} (hd : Num d) (hz : val d ≠ 0) : ∃ t, ((val d < 0) = (t = true)) ∧ ((∃ n j, F64.read (fdiv one d) = .number t n j ∧ n ≠ 0) ∨ F64.read (fdiv one d) = .infinity t) := by
  obtain ⟨neg, mag, place, e, hq⟩ := div_near num_one hd hz
  obtain ⟨q1, q2⟩ := hq 1 (by rw [val_one]; grind) (by rw [val_one]; grind)
  rw [val_one, ev_eq] at q1 q2
  have hb := val_big hd
  have hR := mag_nonneg mag place
  have hneg : (val d < 0) = (neg = true) := by
    rw [dval_number] at q1 q2
    cases neg
    · simp only [sg, Bool.false_eq_true, if_false] at q1 q2 ⊢
      have : ¬ val d < 0 := by
        intro hl
        have := Rat.mul_nonneg hR (show 0 ≤ -val d by grind)
        grind
      simp [this]
    · simp only [sg, if_true] at q1 q2 ⊢
      have : val d < 0 := by
        by_cases hl : val d < 0
        · exact hl
        · exfalso
          have := Rat.mul_nonneg hR (show 0 ≤ val d by grind)
          grind
      simp [this]
  have hR2 : (1 / 2 : Rat) ≤ mag * 2 ^ place * 2 ^ (1024 : Int) := by
    rw [dval_number] at q1 q2
    have k1 := Rat.mul_nonneg hR (show 0 ≤ 2 ^ (1024 : Int) - val d by unfold Ab at hb; grind)
    have k2 := Rat.mul_nonneg hR (show 0 ≤ 2 ^ (1024 : Int) + val d by unfold Ab at hb; grind)
    generalize (2 : Rat) ^ (1024 : Int) = G at *
    generalize (mag : Rat) * 2 ^ place = M at *
    cases neg <;> simp only [sg, if_true, Bool.false_eq_true, if_false] at q1 q2 <;> grind
  refine ⟨neg, hneg, ?_⟩
  rw [e]
  rcases nearest_cases neg mag place with hn | hi
  · left
    obtain ⟨V, hV, h0, _, h2⟩ := nearest_val neg mag place hn
    obtain ⟨s, n, j, hr⟩ := hn
    have hmag : mag ≠ 0 := by
      intro h0
      subst h0
      have : ((0 : Nat) : Rat) * 2 ^ place = 0 := Rat.zero_mul _
      rw [this] at hR2
      grind
    have hs : s = neg := by
      rcases nearest_is neg (place := place) hmag with ⟨o, _, _⟩ | ⟨_, hi⟩
      · obtain ⟨b1, b2⟩ := kept_bounds neg mag place hmag
        obtain ⟨m', e', he', _⟩ := rung_val neg _ _ b1 b2 o
        rw [nearest_eq neg mag place hmag, Nat.min_eq_left (Nat.le_of_lt o), he'] at hr
        cases hr
        rfl
      · rw [hi] at hr
        cases hr
    subst hs
    refine ⟨n, j, hr, ?_⟩
    intro hn0
    subst hn0
    have hv0 : val (F64.nearest s mag place) = 0 := by
      unfold val
      rw [hr, dval_number]
      have : ((0 : Nat) : Rat) * 2 ^ j = 0 := Rat.zero_mul _
      rw [this]
      cases s <;> simp [sg]
    have hV0 : V = 0 := by
      rw [hv0] at hV
      cases s <;> simp only [sg, if_true, Bool.false_eq_true, if_false] at hV <;> grind
    subst hV0
    -- 2^-1025 is at most the number, which is at most 2^-53 of it and 2^-1075
    have p1 := p2_pos (1024 : Int)
    have t1 : (2 : Rat) ^ (-1075 : Int) * 2 ^ (1024 : Int) = 2 ^ (-51 : Int) := by rw [← p2_add]; congr 1
    have t2 : (2 : Rat) ^ (-51 : Int) = 1 / 2251799813685248 := by decide +kernel
    have t3 : (2 : Rat) ^ (-53 : Int) = 1 / 9007199254740992 := by decide +kernel
    have m1 := Rat.mul_le_mul_of_nonneg_right h2 (Rat.le_of_lt p1)
    rw [t2] at t1
    rw [t3] at m1
    generalize (2 : Rat) ^ (1024 : Int) = G at *
    generalize (2 : Rat) ^ (-1075 : Int) = T at *
    generalize (mag : Rat) * 2 ^ place = M at *
    clear hq q1 q2 hneg hr hv0 hV e hb h2 hz hd
    have e3 : (0 + M * (1 / 9007199254740992) + T) * G = M * G * (1 / 9007199254740992) + T * G := by grind
    rw [e3, t1] at m1
    generalize M * G = Y at *
    clear e3 hR p1
    grind
  · right
    exact hi
end Go.Proofs.Ytgimkcbegalepaa.Fl
