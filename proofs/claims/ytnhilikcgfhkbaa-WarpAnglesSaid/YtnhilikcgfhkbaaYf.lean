/- Eight times a draw: the sector, and how far into it. -/
import Derived.Test.YtnhilikcgfhkbaaYe
import Derived.Test.YtnhilikcgfhkbaaXb
namespace Go.Proofs.Ytnhilikcgfhkbaa.Fl

def w8 : Nat := 4620693217682128896
theorem num_w8 : Num w8 := ⟨false, 4503599627370496, -49, by decide +kernel⟩
theorem val_w8 : val w8 = 8 := by decide +kernel
/-- Eight times a number from 0 on and below 1 needs no rounding. -/
theorem eight_ex {c : Nat} (hc : Num c) (c0 : 0 ≤ val c) (c1 : val c < 1) : Num (fmul w8 c) ∧ val (fmul w8 c) = 8 * val c := by
  have hx : Ex (val w8 * val c) := by
    obtain ⟨s, m, e, hr⟩ := hc
    have hv : val c = sg s ((m : Rat) * 2 ^ e) := by unfold val; rw [hr, dval_number]
    obtain ⟨b1, b2⟩ := number_bounds hr
    have b3 := read_low hr
    rw [val_w8, hv]
    by_cases hm : m = 0
    · subst hm
      refine ⟨s, 0, 0, by decide, by decide, by decide, ?_⟩
      rw [dval_number]
      have z : ∀ x : Rat, ((0 : Nat) : Rat) * x = 0 := fun x => Rat.zero_mul _
      rw [z, z]
      cases s <;> simp [sg]
    · have he : e ≤ 0 := by
        rcases Int.lt_or_le 0 e with k | k
        · exfalso
          have l1 := p2_le (show (1 : Int) ≤ e by omega)
          have z : (2 : Rat) ^ (1 : Int) = 2 := by decide +kernel
          rw [z] at l1
          have l2 : (1 : Rat) ≤ m := by exact_mod_cast Nat.pos_of_ne_zero hm
          have l3 := Rat.mul_nonneg (show (0 : Rat) ≤ m - 1 by grind) (show (0 : Rat) ≤ 2 ^ e by grind)
          cases s
          · simp only [sg, Bool.false_eq_true, if_false] at hv
            grind
          · simp only [sg, if_true] at hv
            have := Rat.mul_pos (show (0 : Rat) < m by grind) (p2_pos e)
            grind
        · exact k
      refine ⟨s, m, e + 3, by omega, by omega, by omega, ?_⟩
      rw [dval_number, p2_add]
      have z : (2 : Rat) ^ (3 : Int) = 8 := by decide +kernel
      rw [z]
      cases s <;> simp only [sg, if_true, Bool.false_eq_true, if_false] <;> grind
  obtain ⟨n, v⟩ := mul_ex num_w8 hc hx
  rw [val_w8] at v
  exact ⟨n, v⟩
/-- The sector of a clean draw. -/
def secK (c : Nat) : Nat := (val (fmul w8 c)).floor.toNat
theorem sec_k {c : Nat} (hc : Num c) (c0 : 0 ≤ val c) (c1 : val c < 1) : truncF (fmul w8 c) = (secK c : Int) ∧ secK c ≤ 7 ∧ (secK c : Rat) ≤ val (fmul w8 c) ∧ val (fmul w8 c) < (secK c : Rat) + 1 := by
  obtain ⟨n, v⟩ := eight_ex hc c0 c1
  have z0 : 0 ≤ val (fmul w8 c) := by rw [v]; grind
  have z8 : val (fmul w8 c) < 8 := by rw [v]; grind
  have f0 : 0 ≤ (val (fmul w8 c)).floor := Rat.le_floor_iff.2 (by exact_mod_cast z0)
  have f1 := Rat.floor_le (val (fmul w8 c))
  have f2 : val (fmul w8 c) < (((val (fmul w8 c)).floor + 1 : Int) : Rat) := by
    by_cases h : val (fmul w8 c) < (((val (fmul w8 c)).floor + 1 : Int) : Rat)
    · exact h
    · exfalso
      have := Rat.le_floor_iff.2 (show (((val (fmul w8 c)).floor + 1 : Int) : Rat) ≤ val (fmul w8 c) by grind)
      omega
  have e : ((secK c : Nat) : Int) = (val (fmul w8 c)).floor := by unfold secK; omega
  have e2 : ((secK c : Nat) : Rat) = (((val (fmul w8 c)).floor : Int) : Rat) := by rw [← e, Rat.intCast_natCast]
  have f3 : (((val (fmul w8 c)).floor + 1 : Int) : Rat) = (secK c : Rat) + 1 := by rw [Rat.intCast_add, e2]; rfl
  rw [f3] at f2
  rw [← e2] at f1
  refine ⟨?_, ?_, f1, f2⟩
  · unfold truncF
    rw [trunc_floor n z0]
    exact e.symm
  · have : (secK c : Rat) < ((8 : Nat) : Rat) := by
      have : ((8 : Nat) : Rat) = 8 := rfl
      grind
    have : secK c < 8 := by exact_mod_cast this
    omega
/-- How far into it. -/
def secF (c : Nat) : Nat := fsub (fmul w8 c) (floatOfInt .f64 (secK c))
theorem sec_f {c : Nat} (hc : Num c) (c0 : 0 ≤ val c) (c1 : val c < 1) : Num (secF c) ∧ 0 ≤ val (secF c) ∧ val (secF c) ≤ 1 := by
  obtain ⟨n, v⟩ := eight_ex hc c0 c1
  obtain ⟨_, k7, k0, k1⟩ := sec_k hc c0 c1
  obtain ⟨nk, vk⟩ := ofint_val (n := (secK c : Int)) (by omega) (by omega)
  rw [Rat.intCast_natCast] at vk
  obtain ⟨hn, _⟩ := sub_ab n nk (by rw [vk]; unfold Ab; constructor <;> grind)
  obtain ⟨s, m, e, hf, hv⟩ := sub_near n nk
  rw [vk] at hv
  unfold secF
  rw [hf] at hn ⊢
  exact ⟨hn, near_lo n_zero (nearest_zero false 0).2 (by decide +kernel) (by rw [hv]; grind) hn, near_hi n_one (by decide +kernel) (by decide +kernel) (by rw [hv]; grind) hn⟩
/-- The reference's test of the next sector. -/
theorem sec_next {c : Nat} (hc : Num c) (c0 : 0 ≤ val c) (c1 : val c < 1) {j : Nat} (hj : j ≤ 8) : leB (floatOfInt .f64 (j : Int)) (fmul w8 c) = decide (j ≤ secK c) := by
  obtain ⟨n, v⟩ := eight_ex hc c0 c1
  obtain ⟨_, k7, k0, k1⟩ := sec_k hc c0 c1
  obtain ⟨nk, vk⟩ := ofint_val (n := (j : Int)) (by omega) (by omega)
  rw [Rat.intCast_natCast] at vk
  rw [leB_val nk n, vk]
  by_cases h : j ≤ secK c
  · rw [decide_eq_true h]
    have : (j : Rat) ≤ (secK c : Rat) := by exact_mod_cast h
    exact decide_eq_true (by grind)
  · rw [decide_eq_false h]
    have : ((secK c + 1 : Nat) : Rat) ≤ (j : Rat) := by exact_mod_cast (show secK c + 1 ≤ j by omega)
    rw [Rat.natCast_add] at this
    have z : ((1 : Nat) : Rat) = 1 := rfl
    exact decide_eq_false (by grind)
end Go.Proofs.Ytnhilikcgfhkbaa.Fl
