/- Sums, differences and roots of numbers give a word, with no draw: exact steps of a walk. -/
import Derived.Laws.FloatArith
import Derived.Test.YtnhilikcgfhkbaaXd
namespace Go.Proofs.Ytnhilikcgfhkbaa.Fl

theorem add_some {x y : Nat} (hx : Num x) (hy : Num y) : F64.add x y = some (fadd x y) := by
  obtain ⟨s, m, i, hx⟩ := hx
  obtain ⟨t, n, j, hy⟩ := hy
  obtain ⟨a, b, c, h, _⟩ := sum_val s t m n i j
  unfold fadd Ieee.Format.add
  rw [hx, hy, h]
  rfl
theorem sub_some {x y : Nat} (hx : Num x) (hy : Num y) : F64.sub x y = some (fsub x y) := by
  obtain ⟨s, m, i, hx⟩ := hx
  obtain ⟨t, n, j, hy⟩ := hy
  unfold fsub Ieee.Format.sub
  obtain ⟨a, b, c, h, _⟩ := sum_val s (!t) m n i j
  rw [hx, hy, Ieee.Datum.opposite, h]
  rfl
theorem sqrt_num {x : Nat} (hx : Num x) (h0 : 0 ≤ val x) : F64.sqrt x = some (fsqrt x) := by
  obtain ⟨s, m, i, hr⟩ := hx
  have hvx : val x = sg s ((m : Rat) * 2 ^ i) := by unfold val; rw [hr, dval_number]
  unfold fsqrt Ieee.Format.sqrt
  rw [hr]
  by_cases hm : m = 0
  · subst hm
    simp [Ieee.Datum.root]
  · have hs : s = false := by
      cases s
      · rfl
      · exfalso
        have h2 : (0 : Rat) < m := by exact_mod_cast Nat.pos_of_ne_zero hm
        have h3 := Rat.mul_pos h2 (p2_pos i)
        rw [hvx] at h0
        simp only [sg, if_true] at h0
        grind
    subst hs
    simp [Ieee.Datum.root, hm]
section
variable {P : Program} (w : World)
theorem run_add_num (t : TypeId) {x y : Nat} (hx : Num x) (hy : Num y) : (binOp .add t (.float .f64 x) (.float .f64 y)).run P w = .ok (.float .f64 (fadd x y)) w :=
  run_float_arith w .add t .f64 x y _ (add_some hx hy)
theorem run_sub_num (t : TypeId) {x y : Nat} (hx : Num x) (hy : Num y) : (binOp .sub t (.float .f64 x) (.float .f64 y)).run P w = .ok (.float .f64 (fsub x y)) w :=
  run_float_arith w .sub t .f64 x y _ (sub_some hx hy)
theorem run_sqrt_num {x : Nat} (hx : Num x) (h0 : 0 ≤ val x) : (Extern.MathSqrt.sqrt #[.float .f64 x]).run P w = .ok (.float .f64 (fsqrt x)) w := by
  rw [sqrt_some (sqrt_num hx h0)]
  rfl
/-- A quotient by what is not 0. -/
theorem run_quo_num (t : TypeId) {x y : Nat} (hx : Num x) (hy : Num y) (hz : val y ≠ 0) : (binOp .quo t (.float .f64 x) (.float .f64 y)).run P w = .ok (.float .f64 (fdiv x y)) w := by
  obtain ⟨s, m, i, hr⟩ := hy
  refine run_div_num w t hx hr ?_
  rintro rfl
  apply hz
  unfold val
  rw [hr, dval_number]
  have z : ((0 : Nat) : Rat) * 2 ^ i = 0 := Rat.zero_mul _
  rw [z]
  cases s <;> simp [sg]
end
end Go.Proofs.Ytnhilikcgfhkbaa.Fl
