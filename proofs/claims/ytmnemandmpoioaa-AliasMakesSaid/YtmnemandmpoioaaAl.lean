/- Package alias: Chance, Draw. -/
import Derived.Deep.QuietTactic
import Derived.BigQuiet
import Derived.Laws.FloatArith
import Derived.Test.YtmnemandmpoioaaAc
import Derived.Test.YtmnemandmpoioaaTg
import Derived.Test.YtmnemandmpoioaaXb
import Derived.Test.YtmnemandmpoioaaXd
import Derived.Test.YtmnemandmpoioaaFw
namespace Go.Proofs.Ytmnemandmpoioaa
open Go.RowKit Fl

/-- A whole number as a float. -/
abbrev fi (x : Int) : Nat := floatOfInt .f64 x
theorem fi_num {x : Int} (h0 : 0 ≤ x) (h1 : x ≤ 2199023255552) : Num (fi x) ∧ val (fi x) = x := ofint_val (by omega) (by omega)
theorem num_one1 : Num 4607182418800017408 := ⟨false, 4503599627370496, -52, by decide +kernel⟩
theorem val_one1 : val 4607182418800017408 = 1 := by decide +kernel
/-- A product of a number from 0 on and below 1 with a whole number. -/
theorem part_mul {c : Nat} {N : Int} (hc : Num c) (c0 : 0 ≤ val c) (c1 : val c ≤ 1) (h0 : 0 ≤ N) (h1 : N ≤ 2199023255552) : Num (fmul c (fi N)) ∧ 0 ≤ val (fmul c (fi N)) ∧ val (fmul c (fi N)) ≤ N := by
  obtain ⟨a, v⟩ := fi_num h0 h1
  have hN : (0 : Rat) ≤ (N : Rat) := by exact_mod_cast h0
  have p0 : 0 ≤ val c * val (fi N) := by rw [v]; exact Rat.mul_nonneg c0 hN
  have p1 : val c * val (fi N) ≤ N := by
    rw [v]
    have := Rat.mul_le_mul_of_nonneg_right c1 hN
    grind
  obtain ⟨s, m, e, hf, hv⟩ := mul_near hc a
  rw [← hv] at p0 p1
  have eN : fi N = F64.nearest (decide (N < 0)) N.natAbs 0 := rfl
  have dN : dval (.number (decide (N < 0)) N.natAbs 0) = N := by
    rw [dval_number, decide_eq_false (by omega)]
    simp only [sg, Bool.false_eq_true, if_false]
    have z : (2 : Rat) ^ (0 : Int) = 1 := by decide +kernel
    rw [z, Rat.mul_one, ← Rat.intCast_natCast]
    congr 1
    omega
  have l1 := nearest_mono (n1 := s) (m1 := m) (p1 := e) (n2 := decide (N < 0)) (m2 := N.natAbs) (p2 := 0) (by rw [dN]; exact p1)
  obtain ⟨z0, z1⟩ := nearest_zero false 0
  have l0 := nearest_mono (n1 := false) (m1 := 0) (p1 := 0) (n2 := s) (m2 := m) (p2 := e) (by
    rw [dval_number]
    have : sg false (((0 : Nat) : Rat) * 2 ^ (0 : Int)) = 0 := by decide +kernel
    rw [this]; exact p0)
  rw [← hf] at l0 l1
  rw [← eN] at l1
  have hn : Num (fmul c (fi N)) := by
    rw [hf]
    rcases nearest_cases s m e with h | h
    · exact h
    · exfalso
      cases s
      · have := ord_inf h a
        rw [← hf] at this
        unfold leB at l1
        rw [this] at l1
        cases l1
      · by_cases hm : m = 0
        · subst hm
          obtain ⟨b, _⟩ := nearest_zero true e
          obtain ⟨s', m', e', hr⟩ := b
          rw [h] at hr
          cases hr
        · rw [dval_number] at p0
          simp only [sg, if_true] at p0
          have hm2 : (0 : Rat) < m := by exact_mod_cast Nat.pos_of_ne_zero hm
          have := Rat.mul_pos hm2 (p2_pos e)
          grind
  rw [leB_val z0 hn, z1] at l0
  rw [leB_val hn a, v] at l1
  exact ⟨hn, of_decide_eq_true l0, of_decide_eq_true l1⟩

/-- Which number a draw asks for. -/
def drawK (c : Nat) (N : Int) : Int := min (truncF (fmul c (fi N))) (N - 1)
theorem trunc_val {p : Nat} {N : Int} (hp : Num p) (p0 : 0 ≤ val p) (p1 : val p ≤ N) : 0 ≤ truncF p ∧ truncF p ≤ N := by
  have e : truncF p = (val p).floor := by unfold truncF; rw [trunc_floor hp p0]; rfl
  rw [e]
  refine ⟨Rat.le_floor_iff.2 (by exact_mod_cast p0), ?_⟩
  have h2 := Rat.floor_le (val p)
  have h3 : ((val p).floor : Rat) ≤ (N : Rat) := by grind
  exact_mod_cast h3
theorem conv_small {p : Nat} {N : Int} (hp : Num p) (p0 : 0 ≤ val p) (p1 : val p ≤ N) (h1 : N ≤ 2199023255552) : floatToIntVal .f64 p .i64 = some (truncF p) := by
  obtain ⟨l, u⟩ := trunc_val hp p0 p1
  have e := trunc_floor hp p0
  have e' : truncF p = (val p).floor := by unfold truncF; rw [e]; rfl
  rw [e'] at l u ⊢
  unfold floatToIntVal
  rw [show (FloatKind.f64.decode p).toInt .zero = some (val p).floor from e]
  have lo : IntKind.i64.min = -9223372036854775808 := by decide +kernel
  have hi : IntKind.i64.max = 9223372036854775807 := by decide +kernel
  dsimp only
  rw [lo, hi, if_pos ⟨by omega, by omega⟩]
theorem conv64 {m : Nat} {z : Int} (h : floatToIntVal .f64 m .i64 = some z) (w : World) : (convert 37 2 (.float .f64 m)).run Try.prog w = .ok (.int .i64 z) w :=
  run_convert_float_int (w := w) _ _ _ _ _ _ (by rw [Try.underlying37]; rfl) Try.underlying2 h
theorem convI {m : Nat} {z : Int} (h : floatToIntVal .f64 m .i64 = some z) (w : World) : (convert 37 3 (.float .f64 m)).run Try.prog w = .ok (.int .i64 z) w :=
  run_convert_float_int (w := w) _ _ _ _ _ _ (by rw [Try.underlying37]; rfl) Try.underlying3 h
/-- What is clean is a number from 0 on, below 1. -/
theorem clean_num (x : Nat) : Num (cleanF x) ∧ 0 ≤ val (cleanF x) ∧ val (cleanF x) ≤ 1 := by
  unfold cleanF
  cases h : okB x
  · simp only [Bool.false_eq_true, if_false]
    exact ⟨num_zero, by rw [val_zero]; exact Rat.le_refl, by rw [val_zero]; decide⟩
  · simp only [if_true]
    unfold okB at h
    rw [Bool.and_eq_true, geB_eq] at h
    obtain ⟨h1, h2⟩ := h
    have hl : leB x 4607182418800017408 = true := by unfold leB; rw [h2]; rfl
    have hn : Num x := by
      obtain ⟨s, m, e, hr⟩ := num_one1
      obtain ⟨s', m', e', hr'⟩ := num_zero
      cases hx : F64.read x with
      | nan a b =>
        exfalso
        have : isN x = true := by unfold isN; rw [hx]; rfl
        have := (leB_not_nan hl).1
        simp_all
      | infinity a =>
        exfalso
        unfold leB ford Ieee.Format.order at hl h1
        rw [hx, hr] at hl
        rw [hr', hx] at h1
        cases a
        · cases hl
        · cases h1
      | number a b c => exact ⟨a, b, c, hx⟩
    rw [leB_val num_zero hn, val_zero] at h1
    rw [leB_val hn num_one1, val_one1] at hl
    exact ⟨hn, of_decide_eq_true h1, of_decide_eq_true hl⟩
theorem draw_zero {N : Int} (h0 : 1 ≤ N) (h1 : N ≤ 2199023255552) : drawK 0 N = 0 := by
  obtain ⟨hn, p0, p1⟩ := part_mul (c := 0) (N := N) num_zero (by rw [val_zero]; exact Rat.le_refl) (by rw [val_zero]; decide) (by omega) h1
  obtain ⟨a, v⟩ := fi_num (x := N) (by omega) h1
  have hz : val (fmul 0 (fi N)) ≤ ((0 : Int) : Rat) := by
    have := mul_mono num_zero a num_zero num_zero (by rw [val_zero, Rat.zero_mul, Rat.zero_mul]; exact Rat.le_refl)
    obtain ⟨z0, z1, z2⟩ := part_mul (c := 0) (N := 0) num_zero (by rw [val_zero]; exact Rat.le_refl) (by rw [val_zero]; decide) (by omega) (by omega)
    have e : fmul 0 0 = 0 := by decide +kernel
    rw [e, leB_val hn num_zero, val_zero] at this
    exact of_decide_eq_true this
  obtain ⟨t0, t1⟩ := trunc_val hn p0 hz
  unfold drawK
  omega
theorem draw_range {c : Nat} {N : Int} (hc : Num c) (c0 : 0 ≤ val c) (c1 : val c ≤ 1) (h0 : 1 ≤ N) (h1 : N ≤ 2199023255552) : 0 ≤ drawK c N ∧ drawK c N < N := by
  obtain ⟨hn, p0, p1⟩ := part_mul hc c0 c1 (by omega) h1
  obtain ⟨t0, t1⟩ := trunc_val hn p0 p1
  unfold drawK
  omega
end Go.Proofs.Ytmnemandmpoioaa
