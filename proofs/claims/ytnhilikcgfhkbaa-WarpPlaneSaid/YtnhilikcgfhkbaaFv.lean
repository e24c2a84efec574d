/- Bounds: a number between two, and operations on floats with a bound on what rounding does. -/
import Derived.Test.YtnhilikcgfhkbaaFu
namespace Go.Proofs.Ytnhilikcgfhkbaa.Fl

/-- a lies between -A and A. -/
def Ab (a A : Rat) : Prop := -A ≤ a ∧ a ≤ A

theorem Ab.nonneg {a A : Rat} (h : Ab a A) : 0 ≤ A := by unfold Ab at h; grind
theorem Ab.mono {a A B : Rat} (h : Ab a A) (k : A ≤ B) : Ab a B := by unfold Ab at *; grind
theorem Ab.neg {a A : Rat} (h : Ab a A) : Ab (-a) A := by unfold Ab at *; grind
theorem Ab.add {a b A B : Rat} (h : Ab a A) (k : Ab b B) : Ab (a + b) (A + B) := by unfold Ab at *; grind
theorem Ab.sub {a b A B : Rat} (h : Ab a A) (k : Ab b B) : Ab (a - b) (A + B) := by unfold Ab at *; grind
theorem Ab.mul {a b A B : Rat} (h : Ab a A) (k : Ab b B) : Ab (a * b) (A * B) := by
  obtain ⟨h1, h2⟩ := h
  obtain ⟨k1, k2⟩ := k
  have p1 := Rat.mul_nonneg (show 0 ≤ A - a by grind) (show 0 ≤ B + b by grind)
  have p2 := Rat.mul_nonneg (show 0 ≤ A + a by grind) (show 0 ≤ B - b by grind)
  have p3 := Rat.mul_nonneg (show 0 ≤ A - a by grind) (show 0 ≤ B - b by grind)
  have p4 := Rat.mul_nonneg (show 0 ≤ A + a by grind) (show 0 ≤ B + b by grind)
  constructor <;> grind
theorem Ab.of_sq {a A : Rat} (hA : 0 ≤ A) (h : a * a ≤ A * A) : Ab a A := by
  constructor
  · by_cases h1 : -A ≤ a
    · exact h1
    · exfalso
      have p1 := Rat.mul_pos (show 0 < -A - a by grind) (show 0 < -A - a by grind)
      have p2 := Rat.mul_nonneg (show 0 ≤ -A - a by grind) hA
      grind
  · by_cases h1 : a ≤ A
    · exact h1
    · exfalso
      have p1 := Rat.mul_pos (show 0 < a - A by grind) (show 0 < a - A by grind)
      have p2 := Rat.mul_nonneg (show 0 ≤ a - A by grind) hA
      grind
theorem sq_nonneg (a : Rat) : 0 ≤ a * a := by
  rcases Rat.le_total (a := 0) (b := a) with h | h
  · exact Rat.mul_nonneg h h
  · have := Rat.mul_nonneg (show 0 ≤ -a by grind) (show 0 ≤ -a by grind)
    grind

/-- What an operation rounds by at most, where its result is at most 64. -/
def dl : Rat := 1 / 70368744177664
theorem eu_eq : eu = 1 / 9007199254740992 := by decide +kernel
theorem et_le : et ≤ 1 / 1152921504606846976 := by
  have h := p2_le (show (-1075 : Int) ≤ -60 by omega)
  have e : (2 : Rat) ^ (-60 : Int) = 1 / 1152921504606846976 := by decide +kernel
  rw [e] at h
  exact h
theorem ev_eq : ev = 1 / 18014398509481984 := by decide +kernel

theorem Nr.ab {v r : Rat} (h : Nr v r) (hr : Ab r 64) : Ab (v - r) dl := by
  have h1 := h.lo 64 hr.1 hr.2
  have h2 := h.hi 64 hr.1 hr.2
  have e1 := eu_eq
  have e2 := et_le
  unfold dl
  rw [e1] at h1 h2
  constructor <;> grind

theorem add_ab {x y : Nat} (hx : Num x) (hy : Num y) (h : Ab (val x + val y) 64) : Num (fadd x y) ∧ Ab (val (fadd x y) - (val x + val y)) dl :=
  have hn := fadd_num hx hy h.1 h.2
  ⟨hn, (fadd_val hx hy hn).ab h⟩
theorem sub_ab {x y : Nat} (hx : Num x) (hy : Num y) (h : Ab (val x - val y) 64) : Num (fsub x y) ∧ Ab (val (fsub x y) - (val x - val y)) dl :=
  have hn := fsub_num hx hy h.1 h.2
  ⟨hn, (fsub_val hx hy hn).ab h⟩
theorem mul_ab {x y : Nat} (hx : Num x) (hy : Num y) (h : Ab (val x * val y) 64) : Num (fmul x y) ∧ Ab (val (fmul x y) - (val x * val y)) dl :=
  have hn := fmul_num hx hy h.1 h.2
  ⟨hn, (fmul_val hx hy hn).ab h⟩

/-- A quotient by a number that is not near 0. -/
theorem div_ab {x y : Nat} (hx : Num x) (hy : Num y) (hb : Ab (val x) 1) (hc : 1 / 2 ≤ val y ∨ val y ≤ -(1 / 2)) (hy4 : Ab (val y) 4) : Num (fdiv x y) ∧ Ab (val (fdiv x y) * val y - val x) (5 * dl) := by
  have hz : val y ≠ 0 := by rcases hc with h | h <;> intro h0 <;> rw [h0] at h <;> grind
  obtain ⟨neg, mag, place, e, hq⟩ := div_near hx hy hz
  obtain ⟨q1, q2⟩ := hq 1 hb.1 hb.2
  rw [ev_eq] at q1 q2
  obtain ⟨b1, b2⟩ := hb
  have hr : Ab (dval (.number neg mag place)) 64 := by
    generalize dval (.number neg mag place) = p at *
    rcases hc with h | h
    · constructor
      · rcases Rat.le_total (a := (-64)) (b := p) with k | k
        · exact k
        · have := Rat.mul_nonneg (show 0 ≤ -64 - p by grind) (show 0 ≤ val y - 1 / 2 by grind)
          grind
      · rcases Rat.le_total (a := p) (b := 64) with k | k
        · exact k
        · have := Rat.mul_nonneg (show 0 ≤ p - 64 by grind) (show 0 ≤ val y - 1 / 2 by grind)
          grind
    · constructor
      · rcases Rat.le_total (a := (-64)) (b := p) with k | k
        · exact k
        · have := Rat.mul_nonneg (show 0 ≤ -64 - p by grind) (show 0 ≤ -val y - 1 / 2 by grind)
          grind
      · rcases Rat.le_total (a := p) (b := 64) with k | k
        · exact k
        · have := Rat.mul_nonneg (show 0 ≤ p - 64 by grind) (show 0 ≤ -val y - 1 / 2 by grind)
          grind
  have hn : Num (fdiv x y) := by rw [e]; exact write_num _ _ _ hr.1 hr.2
  refine ⟨hn, ?_⟩
  rw [e] at hn ⊢
  have h1 := (write_val _ _ _ hn).ab hr
  have h2 := h1.mul hy4
  generalize dval (.number neg mag place) = p at *
  generalize val (F64.nearest neg mag place) = v at *
  have e1 : (v - p) * val y = v * val y - p * val y := by grind
  rw [e1] at h2
  obtain ⟨h3, h4⟩ := h2
  unfold dl at *
  constructor <;> grind

theorem le_val {x y : Nat} (hx : Num x) (hy : Num y) : (ford x y == some .lt || ford x y == some .eq) = decide (val x ≤ val y) := by
  obtain ⟨a, b, h, h1, h2⟩ := ord_val hx hy
  rw [h]
  by_cases hl : a < b
  · rw [Int.compare_eq_lt.2 hl, decide_eq_true (Rat.le_of_lt (h1.1 hl))]; rfl
  · by_cases he : a = b
    · rw [decide_eq_true (by rw [h2.1 he]; exact Rat.le_refl), he]
      have : compare b b = .eq := Int.compare_eq_eq.2 rfl
      rw [this]; rfl
    · have hg : b < a := by omega
      rw [Int.compare_eq_gt.2 hg]
      have : ¬ val x ≤ val y := by
        intro hh
        have n1 : ¬ val x < val y := fun k => hl (h1.2 k)
        have n2 : ¬ val x = val y := fun k => he (h2.2 k)
        grind
      rw [decide_eq_false this]; rfl
end Go.Proofs.Ytnhilikcgfhkbaa.Fl
