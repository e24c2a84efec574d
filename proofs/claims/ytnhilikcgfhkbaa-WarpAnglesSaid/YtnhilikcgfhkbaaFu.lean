/- Quotients and the order of floats, as rational numbers. -/
import Derived.Test.YtnhilikcgfhkbaaFt
namespace Go.Proofs.Ytnhilikcgfhkbaa.Fl

def ev : Rat := 2 ^ (-54 : Int)

theorem quot_err (q D n r : Nat) (h : D = n * q + r) (hr : r < n) :
    ((2 * q + (r != 0).toNat : Nat) : Rat) * n ≤ 2 * D + n ∧ (2 : Rat) * D ≤ ((2 * q + (r != 0).toNat : Nat) : Rat) * n + n := by
  have hb : (r != 0).toNat = 0 ∧ r = 0 ∨ (r != 0).toNat = 1 ∧ 0 < r := by
    rcases Nat.eq_zero_or_pos r with h0 | h0
    · left; subst h0; exact ⟨rfl, rfl⟩
    · right
      have : (r != 0) = true := by simp; omega
      rw [this]; exact ⟨rfl, h0⟩
  have key : (2 * q + (r != 0).toNat) * n ≤ 2 * D + n ∧ 2 * D ≤ (2 * q + (r != 0).toNat) * n + n := by
    rcases hb with ⟨hb, h0⟩ | ⟨hb, h0⟩
    · rw [hb]
      subst h
      subst h0
      rw [Nat.mul_comm n q, Nat.add_mul, Nat.mul_assoc]
      generalize q * n = g
      omega
    · rw [hb]
      subst h
      rw [Nat.mul_comm n q, Nat.add_mul, Nat.mul_assoc]
      generalize q * n = g
      omega
  constructor
  · exact_mod_cast key.1
  · exact_mod_cast key.2

/-- The quotient that is written, times the divisor. -/
theorem div_near {x y : Nat} (hx : Num x) (hy : Num y) (hz : val y ≠ 0) : ∃ neg mag place, fdiv x y = F64.nearest neg mag place ∧
    ∀ B, -B ≤ val x → val x ≤ B → dval (.number neg mag place) * val y ≤ val x + B * ev ∧ val x ≤ dval (.number neg mag place) * val y + B * ev := by
  obtain ⟨s, m, i, hx⟩ := hx
  obtain ⟨t, n, j, hy⟩ := hy
  have hvx : val x = sg s ((m : Rat) * 2 ^ i) := by unfold val; rw [hx, dval_number]
  have hvy : val y = sg t ((n : Rat) * 2 ^ j) := by unfold val; rw [hy, dval_number]
  have hn : n ≠ 0 := by
    intro h0
    subst h0
    apply hz
    rw [hvy]
    have : ((0 : Nat) : Rat) * 2 ^ j = 0 := Rat.zero_mul _
    rw [this]
    cases t <;> simp [sg]
  generalize hmore : 54 + n.log2 - m.log2 = more
  generalize hq : (m <<< more) / n = q
  generalize hr : (m <<< more) % n = r
  refine ⟨s ^^ t, 2 * q + (r != 0).toNat, i - j - more - 1, ?_, ?_⟩
  · unfold fdiv Ieee.Format.div
    have hf : F64.fractionBits + 2 = 54 := by decide +kernel
    rw [hx, hy, hf]
    simp only [Ieee.Datum.quotient, hn, if_false, Option.map_some, Option.getD_some, hmore, hq, hr]
    rfl
  · have hD : m <<< more = n * q + r := by rw [← hq, ← hr]; exact (Nat.div_add_mod _ _).symm
    have hrn : r < n := by rw [← hr]; exact Nat.mod_lt _ (Nat.pos_of_ne_zero hn)
    obtain ⟨k1, k2⟩ := quot_err q (m <<< more) n r hD hrn
    rw [Nat.shiftLeft_eq] at k1 k2
    generalize hQ : 2 * q + (r != 0).toNat = Q at k1 k2 ⊢
    have hpm := p2_pos (i - more - 1)
    have hmr : ((m * 2 ^ more : Nat) : Rat) = (m : Rat) * 2 ^ (more : Int) := by rw [Rat.natCast_mul, p2_nat]
    rw [hmr] at k1 k2
    -- n is small beside the dividend
    have hsmall : (n : Rat) ≤ 2 * ((m : Rat) * 2 ^ (more : Int)) * ev ∨ m = 0 := by
      rcases Nat.eq_zero_or_pos m with h0 | h0
      · right; exact h0
      · left
        have l1 : 2 ^ m.log2 ≤ m := Nat.log2_self_le (by omega)
        have l2 : n < 2 ^ (n.log2 + 1) := Nat.lt_log2_self
        have l3 : 2 ^ (54 + n.log2) ≤ m * 2 ^ more := by
          refine Nat.le_trans ?_ (Nat.mul_le_mul_right _ l1)
          rw [← Nat.pow_add]
          exact Nat.pow_le_pow_right (by decide) (by omega)
        have l4 : 2 ^ (54 + n.log2) = 9007199254740992 * 2 ^ (n.log2 + 1) := by
          rw [show 54 + n.log2 = 53 + (n.log2 + 1) by omega, Nat.pow_add]
        have l5 : 9007199254740992 * n ≤ m * 2 ^ more := by omega
        have l6 : (9007199254740992 : Rat) * n ≤ m * 2 ^ (more : Int) := by rw [← hmr]; exact_mod_cast l5
        have e : ev = 1 / 18014398509481984 := by decide +kernel
        rw [e]
        generalize (m : Rat) * 2 ^ (more : Int) = M at *
        grind
    have hdv : dval (.number (s ^^ t) Q (i - j - more - 1)) * val y = sg s ((Q : Rat) * n * 2 ^ (i - more - 1)) := by
      rw [dval_number, hvy, show (i - more - 1 : Int) = (i - j - more - 1) + j by omega, p2_add]
      generalize (2 : Rat) ^ (i - j - more - 1) = a
      generalize (2 : Rat) ^ j = b
      cases s <;> cases t <;> simp [sg] <;> grind
    have hmi : (m : Rat) * 2 ^ i = 2 * ((m : Rat) * 2 ^ (more : Int)) * 2 ^ (i - more - 1) := by
      have : (2 : Rat) ^ i = 2 ^ (1 : Int) * 2 ^ (more : Int) * 2 ^ (i - more - 1) := by rw [← p2_add, ← p2_add]; congr 1; omega
      have h1 : (2 : Rat) ^ (1 : Int) = 2 := by decide +kernel
      rw [this, h1]
      generalize (2 : Rat) ^ (more : Int) = a
      generalize (2 : Rat) ^ (i - more - 1) = b
      grind
    intro B hB1 hB2
    rw [hdv, hvx, hmi] at *
    generalize (2 : Rat) ^ (i - more - 1) = c at *
    generalize hM : (m : Rat) * 2 ^ (more : Int) = M at *
    have hev : (0 : Rat) < ev := p2_pos _
    have hc := Rat.le_of_lt hpm
    have m1 := Rat.mul_le_mul_of_nonneg_right k1 hc
    have m2 := Rat.mul_le_mul_of_nonneg_right k2 hc
    have hMB : 2 * M * c ≤ B := by
      cases s
      · simpa [sg] using hB2
      · simp [sg] at hB1; grind
    have m3 := Rat.mul_le_mul_of_nonneg_right hMB (Rat.le_of_lt hev)
    rcases hsmall with hs | hs
    · have m4 := Rat.mul_le_mul_of_nonneg_right hs hc
      have e1 : 2 * M * c * ev = 2 * M * ev * c := by grind
      have h1 : (Q : Rat) * n * c ≤ 2 * M * c + B * ev := by grind
      have h2 : 2 * M * c ≤ (Q : Rat) * n * c + B * ev := by grind
      cases s
      · simp only [sg]; exact ⟨h1, h2⟩
      · simp only [sg]; constructor <;> grind
    · subst hs
      have hM0 : M = 0 := by rw [← hM]; exact Rat.zero_mul _
      have hq0 : q = 0 := by rw [← hq]; simp
      have hr0 : r = 0 := by rw [← hr]; simp
      have hQ0 : Q = 0 := by rw [← hQ, hq0, hr0]; rfl
      subst hQ0
      have z : ((0 : Nat) : Rat) * n * c = 0 := by rw [show ((0 : Nat) : Rat) = 0 from rfl]; grind
      have z1 : 2 * M * c = 0 := by rw [hM0]; grind
      rw [z1] at hMB
      have hBe := Rat.mul_nonneg hMB (Rat.le_of_lt hev)
      rw [z, z1]
      generalize B * ev = g at hBe
      cases s
      · simp only [sg, Bool.false_eq_true, if_false]; constructor <;> grind
      · simp only [sg, if_true]; constructor <;> grind

/-! The order -/
theorem ord_val {x y : Nat} (hx : Num x) (hy : Num y) : ∃ a b : Int, ford x y = some (compare a b) ∧ (a < b ↔ val x < val y) ∧ (a = b ↔ val x = val y) := by
  obtain ⟨s, m, i, hx⟩ := hx
  obtain ⟨t, n, j, hy⟩ := hy
  refine ⟨Ieee.signed s m (i - min i j).toNat, Ieee.signed t n (j - min i j).toNat, ?_, ?_, ?_⟩
  · unfold ford Ieee.Format.order
    rw [hx, hy]
    rfl
  all_goals
    have hvx : val x = (Ieee.signed s m (i - min i j).toNat : Int) * 2 ^ (min i j) := by unfold val; rw [hx, dval_number, signed_val s m i _ (by omega)]
    have hvy : val y = (Ieee.signed t n (j - min i j).toNat : Int) * 2 ^ (min i j) := by unfold val; rw [hy, dval_number, signed_val t n j _ (by omega)]
    rw [hvx, hvy]
    have hp := p2_pos (min i j)
    generalize (2 : Rat) ^ (min i j) = p at *
    generalize Ieee.signed s m _ = a
    generalize Ieee.signed t n _ = b
  · rw [← Rat.intCast_lt_intCast]
    exact ⟨fun h => Rat.mul_lt_mul_of_pos_right h hp, fun h => Rat.lt_of_mul_lt_mul_right h (Rat.le_of_lt hp)⟩
  · constructor
    · intro h; rw [h]
    · intro h
      have h2 : ((a : Int) : Rat) = b := by
        have hne : p ≠ 0 := by grind
        have e1 : (a : Rat) * p * p⁻¹ = b * p * p⁻¹ := by rw [h]
        rwa [Rat.mul_assoc, Rat.mul_assoc, Rat.mul_inv_cancel p hne, Rat.mul_one, Rat.mul_one] at e1
      exact_mod_cast h2

theorem lt_val {x y : Nat} (hx : Num x) (hy : Num y) : (ford x y == some .lt) = decide (val x < val y) := by
  obtain ⟨a, b, h, h1, h2⟩ := ord_val hx hy
  rw [h]
  by_cases hl : a < b
  · rw [Int.compare_eq_lt.2 hl, decide_eq_true (h1.1 hl)]; rfl
  · rw [decide_eq_false (fun hh => hl (h1.2 hh))]
    have : compare a b ≠ .lt := fun hh => hl (Int.compare_eq_lt.1 hh)
    simpa using this

theorem gt_val {x y : Nat} (hx : Num x) (hy : Num y) : (ford x y == some .gt) = decide (val y < val x) := by
  obtain ⟨a, b, h, h1, h2⟩ := ord_val hx hy
  rw [h]
  by_cases hl : b < a
  · rw [Int.compare_eq_gt.2 hl]
    have : val y < val x := by
      have n1 : ¬ val x < val y := fun hh => by have := h1.2 hh; omega
      have n2 : ¬ val x = val y := fun hh => by have := h2.2 hh; omega
      grind
    rw [decide_eq_true this]; rfl
  · have : ¬ val y < val x := by
      intro hh
      have n1 : ¬ a < b := fun k => by have := h1.1 k; grind
      have n2 : ¬ a = b := fun k => by have := h2.1 k; grind
      omega
    rw [decide_eq_false this]
    have : compare a b ≠ .gt := fun hh => hl (Int.compare_eq_gt.1 hh)
    simpa using this
end Go.Proofs.Ytnhilikcgfhkbaa.Fl
