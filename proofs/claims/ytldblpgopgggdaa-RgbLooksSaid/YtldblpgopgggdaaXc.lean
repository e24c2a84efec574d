/- What a light weighs, of a number not below 0: at least 1, at most 2^20; of a greater one not less. -/
import Derived.Test.YtldblpgopgggdaaXb
namespace Go.Proofs.Ytldblpgopgggdaa.Fl

def wOf (m : Nat) : Int := if (ford m one16 == some .lt) = true then 1 else if (ford m maxW == some .gt) = true then 1048576 else truncF m
/-- The reference's. -/
def rOf (m : Nat) : Int := if (ford m maxW == some .gt || ford m maxW == some .eq) = true then 1048576 else if (ford m one16 == some .lt) = true then 1 else truncF m

theorem inf_gt {m y : Nat} (h : F64.read m = .infinity false) (hy : Num y) : ford m y = some .gt := by
  obtain ⟨s, k, e, hr⟩ := hy
  unfold ford Ieee.Format.order
  rw [h, hr]
  rfl
theorem wOf_inf {m : Nat} (h : F64.read m = .infinity false) : wOf m = 1048576 := by
  unfold wOf
  rw [inf_gt h num_one, inf_gt h num_max]
  rfl
theorem wOf_num {m : Nat} (h : Num m) (h0 : 0 ≤ val m) : wOf m = if val m < 1 then 1 else if 1048576 < val m then 1048576 else (val m).floor := by
  unfold wOf truncF
  rw [lt_val h num_one, gt_val h num_max, val_one, val_max, trunc_floor h h0]
  simp only [decide_eq_true_eq, Option.getD_some]
theorem floor_mono {x y : Rat} (h : x ≤ y) : x.floor ≤ y.floor := by
  have h2 := Rat.floor_le x
  exact Rat.le_floor_iff.2 (by grind)
theorem floor_nat (n : Nat) : ((n : Nat) : Rat).floor = n := floor_of (by grind) (by grind)
theorem floor_lo {x : Rat} (h : ¬ x < 1) : 1 ≤ x.floor := by
  have := floor_mono (x := ((1 : Nat) : Rat)) (y := x) (by have : ((1 : Nat) : Rat) = 1 := rfl; grind)
  rw [floor_nat] at this
  exact this
theorem floor_hi {x : Rat} (h : ¬ 1048576 < x) : x.floor ≤ 1048576 := by
  have := floor_mono (x := x) (y := ((1048576 : Nat) : Rat)) (by have : ((1048576 : Nat) : Rat) = 1048576 := rfl; grind)
  rw [floor_nat] at this
  exact this
theorem wOf_lo {m : Nat} (h : Nn m) : 1 ≤ wOf m := by
  rcases h with ⟨hn, h0⟩ | h
  · rw [wOf_num hn h0]
    split
    · omega
    · rename_i h1
      split
      · omega
      · exact floor_lo h1
  · rw [wOf_inf h]; omega
theorem wOf_hi {m : Nat} (h : Nn m) : wOf m ≤ 1048576 := by
  rcases h with ⟨hn, h0⟩ | h
  · rw [wOf_num hn h0]
    split
    · omega
    · split
      · omega
      · rename_i h1; exact floor_hi h1
  · rw [wOf_inf h]; omega
theorem wOf_mono {m n : Nat} (hm : Nn m) (hn : Nn n) (h : leB m n = true) : wOf m ≤ wOf n := by
  rcases hn.cases h hm with i | ⟨n1, n2, h0, hle⟩
  · rw [wOf_inf i]; exact wOf_hi hm
  · have h0' : 0 ≤ val n := by grind
    have l2 := wOf_lo hn
    rw [wOf_num n2 h0'] at l2 ⊢
    rw [wOf_num n1 h0]
    by_cases a : val m < 1
    · rw [if_pos a]; exact l2
    · have c1 : ¬ val n < 1 := by grind
      rw [if_neg a, if_neg c1]
      by_cases b : 1048576 < val m
      · have c2 : 1048576 < val n := by grind
        rw [if_pos b, if_pos c2]; exact Int.le_refl _
      · rw [if_neg b]
        by_cases c : 1048576 < val n
        · rw [if_pos c]; exact floor_hi b
        · rw [if_neg c]; exact floor_mono hle
theorem rOf_eq {m : Nat} (h : Nn m) : rOf m = wOf m := by
  rcases h with ⟨hn, h0⟩ | h
  · rw [wOf_num hn h0]
    unfold rOf truncF
    rw [geB_eq, leB_val num_max hn, lt_val hn num_one, val_one, val_max, trunc_floor hn h0]
    simp only [decide_eq_true_eq, Option.getD_some]
    by_cases a : val m < 1
    · have c1 : ¬ 1048576 ≤ val m := by grind
      rw [if_pos a, if_pos a, if_neg c1]
    · rw [if_neg a, if_neg a]
      by_cases b : 1048576 < val m
      · have c2 : 1048576 ≤ val m := by grind
        rw [if_pos b, if_pos c2]
      · rw [if_neg b]
        by_cases c : 1048576 ≤ val m
        · have e : val m = ((1048576 : Nat) : Rat) := by
            have : ((1048576 : Nat) : Rat) = 1048576 := rfl
            grind
          rw [if_pos c, e, floor_nat]
          rfl
        · rw [if_neg c]
  · rw [wOf_inf h]
    unfold rOf
    rw [inf_gt h num_max]
    rfl
/-- The conversion to a whole number, where it is come to. -/
theorem conv_of {m : Nat} (h : Nn m) (h1 : (ford m one16 == some .lt) = false) (h2 : (ford m maxW == some .gt) = false) : floatToIntVal .f64 m .i64 = some (truncF m) := by
  rcases h with ⟨hn, h0⟩ | h
  · rw [lt_val hn num_one, val_one] at h1
    rw [gt_val hn num_max, val_max] at h2
    have a := of_decide_eq_false h1
    have b := of_decide_eq_false h2
    have l := floor_lo a
    have u := floor_hi b
    have e := trunc_floor hn h0
    have e' : truncF m = (val m).floor := by unfold truncF; rw [e]; rfl
    rw [e']
    unfold floatToIntVal
    rw [show (FloatKind.f64.decode m).toInt .zero = some (val m).floor from e]
    have lo : IntKind.i64.min = -9223372036854775808 := by decide +kernel
    have hi : IntKind.i64.max = 9223372036854775807 := by decide +kernel
    dsimp only
    rw [lo, hi, if_pos ⟨by omega, by omega⟩]
  · rw [inf_gt h num_max] at h2; cases h2
theorem wOf_lt {m : Nat} (h1 : (ford m one16 == some .lt) = true) : wOf m = 1 := by unfold wOf; rw [if_pos h1]
theorem wOf_gt {m : Nat} (h1 : (ford m one16 == some .lt) = false) (h2 : (ford m maxW == some .gt) = true) : wOf m = 1048576 := by
  unfold wOf; rw [if_neg (by rw [h1]; exact Bool.false_ne_true), if_pos h2]
theorem wOf_in {m : Nat} (h1 : (ford m one16 == some .lt) = false) (h2 : (ford m maxW == some .gt) = false) : wOf m = truncF m := by
  unfold wOf; rw [if_neg (by rw [h1]; exact Bool.false_ne_true), if_neg (by rw [h2]; exact Bool.false_ne_true)]
theorem gt_of_ge {m : Nat} (h2 : (ford m maxW == some .gt || ford m maxW == some .eq) = false) : (ford m maxW == some .gt) = false := by
  rw [Bool.or_eq_false_iff] at h2; exact h2.1
theorem rOf_ge {m : Nat} (h : (ford m maxW == some .gt || ford m maxW == some .eq) = true) : rOf m = 1048576 := by unfold rOf; rw [if_pos h]
theorem rOf_lt {m : Nat} (h : (ford m maxW == some .gt || ford m maxW == some .eq) = false) (h1 : (ford m one16 == some .lt) = true) : rOf m = 1 := by
  unfold rOf; rw [if_neg (by rw [h]; exact Bool.false_ne_true), if_pos h1]
theorem rOf_in {m : Nat} (h : (ford m maxW == some .gt || ford m maxW == some .eq) = false) (h1 : (ford m one16 == some .lt) = false) : rOf m = truncF m := by
  unfold rOf; rw [if_neg (by rw [h]; exact Bool.false_ne_true), if_neg (by rw [h1]; exact Bool.false_ne_true)]
end Go.Proofs.Ytldblpgopgggdaa.Fl
