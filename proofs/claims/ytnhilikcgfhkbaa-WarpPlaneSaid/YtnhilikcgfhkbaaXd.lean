/- Floats that need no rounding; whole numbers as floats. -/
import Derived.Test.YtnhilikcgfhkbaaXa
import Derived.Laws.Cover2
import Derived.Laws.FloatArith
namespace Go.Proofs.Ytnhilikcgfhkbaa.Fl

/-- A number that needs no rounding. -/
def Ex (r : Rat) : Prop := ∃ (s : Bool) (m : Nat) (e : Int), m < 9007199254740992 ∧ -1074 ≤ e ∧ e ≤ 971 ∧ r = dval (.number s m e)

theorem nearest_small {s : Bool} {m : Nat} {e : Int} (l1 : m < 9007199254740992) (b3 : -1074 ≤ e) (b2 : e ≤ 971) : Num (F64.nearest s m e) ∧ val (F64.nearest s m e) = dval (.number s m e) := by
  rw [dval_number]
  by_cases hm : m = 0
  · subst hm
    obtain ⟨a, v⟩ := nearest_zero s e
    refine ⟨a, ?_⟩
    rw [v]
    have : ((0 : Nat) : Rat) * 2 ^ e = 0 := Rat.zero_mul _
    rw [this]
    cases s <;> simp [sg]
  · have l2 : m.log2 < 53 := (Nat.log2_lt hm).2 l1
    have hl : lastP m e ≤ e := by unfold lastP; omega
    have hd : (lastP m e - e).toNat = 0 := by omega
    have hk : kept s m e = m * 2 ^ (e - lastP m e).toNat := by
      unfold kept
      rw [hd, cut_none, Nat.shiftLeft_eq]
    have l3 : m < 2 ^ (m.log2 + 1) := Nat.lt_log2_self
    have hk2 : kept s m e < 9007199254740992 := by
      rw [hk]
      have e1 : m * 2 ^ (e - lastP m e).toNat < 2 ^ (m.log2 + 1) * 2 ^ (e - lastP m e).toNat := Nat.mul_lt_mul_of_pos_right l3 (Nat.two_pow_pos _)
      have e2 : 2 ^ (m.log2 + 1) * 2 ^ (e - lastP m e).toNat ≤ 2 ^ 53 := by
        rw [← Nat.pow_add]
        exact Nat.pow_le_pow_right (by decide) (by unfold lastP; omega)
      omega
    have hr : (lastP m e + 1074).toNat ≤ 2045 := by omega
    rcases nearest_is s (place := e) hm with ⟨_, a, v⟩ | ⟨o, _⟩
    · refine ⟨a, ?_⟩
      rw [v, hk]
      congr 1
      rw [Rat.natCast_mul, ← p2_nat, Rat.mul_assoc, ← p2_add]
      congr 2
      omega
    · exfalso
      unfold rungOf at o
      omega

theorem rat_le_of_eq {a b : Rat} (h : a = b) : a ≤ b := h ▸ Rat.le_refl
theorem num_between {x y : Nat} (hy : Num y) (h1 : leB x y = true) (h2 : leB y x = true) : Num x ∧ val x = val y := by
  have hx : Num x := by
    obtain ⟨s, m, e, hr⟩ := hy
    cases hx : F64.read x with
    | nan a b =>
      exfalso
      have : isN x = true := by unfold isN; rw [hx]; rfl
      have := (leB_not_nan h1).1
      simp_all
    | infinity a =>
      exfalso
      unfold leB ford Ieee.Format.order at h1 h2
      rw [hx, hr] at h1 h2
      cases a
      · cases h1
      · cases h2
    | number a b c => exact ⟨a, b, c, hx⟩
  refine ⟨hx, ?_⟩
  rw [leB_val hx hy] at h1
  rw [leB_val hy hx] at h2
  exact Rat.le_antisymm (of_decide_eq_true h1) (of_decide_eq_true h2)

/-- A word written of a number that needs no rounding. -/
theorem write_ex {s : Bool} {m : Nat} {e : Int} (h : Ex (dval (.number s m e))) : Num (F64.nearest s m e) ∧ val (F64.nearest s m e) = dval (.number s m e) := by
  obtain ⟨t, n, j, h0, h1, h2, h3⟩ := h
  obtain ⟨a, v⟩ := nearest_small (s := t) h0 h1 h2
  obtain ⟨a2, v2⟩ := num_between a (nearest_mono (rat_le_of_eq h3)) (nearest_mono (rat_le_of_eq h3.symm))
  exact ⟨a2, by rw [v2, v, ← h3]⟩
theorem mul_ex {x y : Nat} (hx : Num x) (hy : Num y) (h : Ex (val x * val y)) : Num (fmul x y) ∧ val (fmul x y) = val x * val y := by
  obtain ⟨s, m, e, hf, hv⟩ := mul_near hx hy
  rw [hf, ← hv]
  rw [← hv] at h
  exact write_ex h
theorem add_ex {x y : Nat} (hx : Num x) (hy : Num y) (h : Ex (val x + val y)) : Num (fadd x y) ∧ val (fadd x y) = val x + val y := by
  obtain ⟨s, m, e, hf, hv⟩ := add_near hx hy
  rw [hf, ← hv]
  rw [← hv] at h
  exact write_ex h
theorem sub_ex {x y : Nat} (hx : Num x) (hy : Num y) (h : Ex (val x - val y)) : Num (fsub x y) ∧ val (fsub x y) = val x - val y := by
  obtain ⟨s, m, e, hf, hv⟩ := sub_near hx hy
  rw [hf, ← hv]
  rw [← hv] at h
  exact write_ex h

/-- A quotient by a power of two. -/
theorem div_ex {x y : Nat} {j : Int} (hx : Num x) (hy : F64.read y = .number false 4503599627370496 j) (h : Ex (val x * 2 ^ (-52 - j))) : Num (fdiv x y) ∧ val (fdiv x y) = val x * 2 ^ (-52 - j) := by
  obtain ⟨s, m, i, hx⟩ := hx
  have hl := log2_52 hx
  have hf := div_form hx hy (by decide)
  have hlog : (4503599627370496 : Nat).log2 = 52 := by decide +kernel
  rw [hlog] at hf
  have e0 : 54 + 52 - m.log2 = 52 + (54 - m.log2) := by omega
  have e1 : m * 2 ^ (54 + 52 - m.log2) = m * 2 ^ (54 - m.log2) * 4503599627370496 := by
    rw [e0, Nat.pow_add, Nat.mul_assoc, Nat.mul_comm (2 ^ (54 - m.log2))]
  rw [e1, Nat.mul_div_cancel _ (by decide), Nat.mul_mod_left] at hf
  have hv : dval (.number s (2 * (m * 2 ^ (54 - m.log2)) + ((0 : Nat) != 0).toNat) (i - j - ((54 + 52 - m.log2 : Nat) : Int) - 1)) = val x * 2 ^ (-52 - j) := by
    unfold val
    rw [hx, dval_number, dval_number]
    have z : ((0 : Nat) != 0).toNat = 0 := rfl
    rw [z, Nat.add_zero, Rat.natCast_mul, Rat.natCast_mul, ← p2_nat]
    have z2 : ((2 : Nat) : Rat) = 2 ^ (1 : Int) := by decide +kernel
    have z3 : (2 : Rat) ^ i * 2 ^ (-52 - j) = 2 ^ (1 : Int) * 2 ^ ((54 - m.log2 : Nat) : Int) * 2 ^ (i - j - ((54 + 52 - m.log2 : Nat) : Int) - 1) := by
      rw [← p2_add, ← p2_add, ← p2_add]
      congr 1
      omega
    rw [z2]
    generalize (2 : Rat) ^ i = a at *
    generalize (2 : Rat) ^ (-52 - j) = b at *
    generalize (2 : Rat) ^ (1 : Int) = c at *
    generalize (2 : Rat) ^ ((54 - m.log2 : Nat) : Int) = d at *
    generalize (2 : Rat) ^ (i - j - ((54 + 52 - m.log2 : Nat) : Int) - 1) = f at *
    cases s <;> simp only [sg, if_true, Bool.false_eq_true, if_false] <;> grind
  rw [hf, ← hv]
  rw [← hv] at h
  exact write_ex h

/-- A whole number as a float. -/
theorem ofint_val {n : Int} (h0 : -9007199254740992 < n) (h1 : n < 9007199254740992) : Num (floatOfInt .f64 n) ∧ val (floatOfInt .f64 n) = n := by
  have e : floatOfInt .f64 n = F64.nearest (decide (n < 0)) n.natAbs 0 := rfl
  obtain ⟨a, v⟩ := nearest_small (s := decide (n < 0)) (m := n.natAbs) (e := 0) (by omega) (by decide) (by decide)
  rw [e]
  refine ⟨a, ?_⟩
  rw [v, dval_number]
  have z : (2 : Rat) ^ (0 : Int) = 1 := by decide +kernel
  rw [z, Rat.mul_one]
  by_cases h : n < 0
  · rw [decide_eq_true h]
    simp only [sg, if_true]
    rw [← Rat.intCast_natCast, ← Rat.intCast_neg]
    congr 1
    omega
  · rw [decide_eq_false h]
    simp only [sg, Bool.false_eq_true, if_false]
    rw [← Rat.intCast_natCast]
    congr 1
    omega
theorem ofint_wd (n : Int) : Wd (floatOfInt .f64 n) := wd_of (floatOfInt_wf .f64 n)
theorem ord_eq {x y : Nat} (hx : Num x) (hy : Num y) (h : val x = val y) : ford x y = some .eq := by
  have h1 := leB_val hx hy
  have h2 := leB_val hy hx
  rw [decide_eq_true (rat_le_of_eq h)] at h1
  rw [decide_eq_true (rat_le_of_eq h.symm)] at h2
  have hs := ford_swap x y
  unfold leB at h1 h2
  rw [hs] at h2
  cases ho : ford x y with
  | none => rw [ho] at h1; exact absurd h1 (by decide)
  | some o => cases o <;> rw [ho] at h1 h2 <;> first | rfl | exact absurd h1 (by decide) | exact absurd h2 (by decide)

/-! Operations on numbers give a word, with no draw -/
theorem mul_some {x y : Nat} (hx : Num x) (hy : Num y) : F64.mul x y = some (fmul x y) := by
  obtain ⟨s, m, i, hx⟩ := hx
  obtain ⟨t, n, j, hy⟩ := hy
  unfold fmul Ieee.Format.mul
  rw [hx, hy]
  rfl
theorem div_some {x y : Nat} {t : Bool} {n : Nat} {j : Int} (hx : Num x) (hy : F64.read y = .number t n j) (hn : n ≠ 0) : F64.div x y = some (fdiv x y) := by
  obtain ⟨s, m, i, hx⟩ := hx
  unfold fdiv Ieee.Format.div
  rw [hx, hy]
  simp only [Ieee.Datum.quotient, hn, if_false, Option.map_some, Option.getD_some]
section
variable {P : Program} (w : World)
theorem run_mul_num (t : TypeId) {x y : Nat} (hx : Num x) (hy : Num y) : (binOp .mul t (.float .f64 x) (.float .f64 y)).run P w = .ok (.float .f64 (fmul x y)) w :=
  run_float_arith w .mul t .f64 x y _ (mul_some hx hy)
theorem run_div_num (t : TypeId) {x y : Nat} {s : Bool} {n : Nat} {j : Int} (hx : Num x) (hy : F64.read y = .number s n j) (hn : n ≠ 0) : (binOp .quo t (.float .f64 x) (.float .f64 y)).run P w = .ok (.float .f64 (fdiv x y)) w :=
  run_float_arith w .quo t .f64 x y _ (div_some hx hy hn)
end
end Go.Proofs.Ytnhilikcgfhkbaa.Fl
