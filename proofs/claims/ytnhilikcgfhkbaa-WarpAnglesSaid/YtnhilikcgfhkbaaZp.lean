/- What the statements ask of the numbers. -/
import Derived.Test.YtnhilikcgfhkbaaZj
import Derived.Test.YtnhilikcgfhkbaaZm
namespace Go.Proofs.Ytnhilikcgfhkbaa
open Go.RowKit Fl

theorem mul_one' {x : Nat} (hx : Num x) : Num (fmul x Fl.w1) ∧ val (fmul x Fl.w1) = val x := by
  have hx0 := hx
  obtain ⟨s, m, e, hr⟩ := hx
  obtain ⟨b1, b2⟩ := number_bounds hr
  have hv : val x * val Fl.w1 = dval (.number s m e) := by
    rw [val_w1, Rat.mul_one]; unfold val; rw [hr]
  obtain ⟨n, v⟩ := mul_ex hx0 num_w1 ⟨s, m, e, by omega, read_low hr, b2, hv⟩
  exact ⟨n, by rw [v, val_w1, Rat.mul_one]⟩
theorem unit_one {x y : Nat} (h : Unit2 x y) : Unit2 (fmul x Fl.w1) (fmul y Fl.w1) := by
  obtain ⟨a, b⟩ := mul_one' h.nx
  obtain ⟨c, d⟩ := mul_one' h.ny
  exact ⟨a, c, by rw [b]; exact h.ax, by rw [d]; exact h.ay, by rw [b, d]; exact h.len⟩
theorem add_same {x y u v : Nat} (hx : Num x) (hy : Num y) (hu : Num u) (hv : Num v) (h : val x + val y = val u + val v) (hn : Num (fadd u v)) : Num (fadd x y) ∧ val (fadd x y) = val (fadd u v) :=
  num_between hn (add_mono hx hy hu hv (rat_le_of_eq h)) (add_mono hu hv hx hy (rat_le_of_eq h.symm))
/-- Products of equal numbers by themselves, added. -/
theorem dot_same {x y z a b c : Nat} (hx : Num x) (hy : Num y) (hz : Num z) (ha : Num a) (hb : Num b) (hc : Num c) (e1 : val x = val a) (e2 : val y = val b) (e3 : val z = val c) (h : Num (dotR a b c a b c)) : Num (dotR x y z x y z) ∧ val (dotR x y z x y z) = val (dotR a b c a b c) := by
  obtain ⟨h1, h2⟩ := num_of_add h
  obtain ⟨h3, h4⟩ := num_of_add h1
  obtain ⟨n1, v1⟩ := mul_same hx hx ha ha (by rw [e1]) h3
  obtain ⟨n2, v2⟩ := mul_same hy hy hb hb (by rw [e2]) h4
  obtain ⟨n3, v3⟩ := mul_same hz hz hc hc (by rw [e3]) h2
  obtain ⟨n4, v4⟩ := add_same n1 n2 h3 h4 (by rw [v1, v2]) h1
  exact add_same n4 n3 h1 h2 (by rw [v4, v3]) h
theorem ball_near {x y c : Nat} (h : Unit2 x y) (hc : Num c) (c0 : 0 ≤ val c) (c1 : val c < 1) :
    (Num (fmul x (ballR c)) ∧ Num (fmul x (fsqrt (ballQ c))) ∧ val (fmul x (ballR c)) = val (fmul x (fsqrt (ballQ c)))) ∧ (Num (fmul y (ballR c)) ∧ Num (fmul y (fsqrt (ballQ c))) ∧ val (fmul y (ballR c)) = val (fmul y (fsqrt (ballQ c)))) ∧ Num (ballZ c) ∧
    Num (dotR (fmul x (ballR c)) (fmul y (ballR c)) (ballZ c) (fmul x (ballR c)) (fmul y (ballR c)) (ballZ c)) ∧ Ab (val (dotR (fmul x (ballR c)) (fmul y (ballR c)) (ballZ c) (fmul x (ballR c)) (fmul y (ballR c)) (ballZ c)) - 1) (54 * dl) := by
  obtain ⟨_, nz, az, _, _, _⟩ := ball_z hc c0 c1
  obtain ⟨nq, q0, ns, ev⟩ := ball_q hc c0 c1
  have nr := ball_r hc c0 c1
  obtain ⟨_, nd, ab⟩ := ball_len (x := x) (y := y) (z := ballZ c) (q := ballT c) (r := fsqrt (ballQ c)) h nz az rfl rfl
  obtain ⟨k1, k2⟩ := num_of_add nd
  obtain ⟨k3, k4⟩ := num_of_add k1
  have m1 := num_of_square k3
  have m2 := num_of_square k4
  obtain ⟨x1, x2⟩ := mul_same h.nx nr h.nx ns (by rw [ev]) m1
  obtain ⟨y1, y2⟩ := mul_same h.ny nr h.ny ns (by rw [ev]) m2
  obtain ⟨d1, d2⟩ := dot_same x1 y1 nz m1 m2 nz x2 y2 rfl nd
  refine ⟨⟨x1, m1, x2⟩, ⟨y1, m2, y2⟩, nz, d1, ?_⟩
  rw [d2]
  exact ab
/-- Tent of equal numbers. -/
theorem tent_same {w v : Nat} (hw : Num w) (hv : Num v) (w0 : 0 ≤ val w) (w2 : val w < 2) (h : val w = val v) : Num (tentF w) ∧ Num (tentF v) ∧ val (tentF w) = val (tentF v) ∧ -1 ≤ val (tentF w) ∧ val (tentF w) ≤ 1 := by
  obtain ⟨a1, a2, a3, a4, a5, a6⟩ := tent_parts hw w0 w2
  obtain ⟨b1, b2, b3, b4, b5, b6⟩ := tent_parts hv (by grind) (by grind)
  have t1 : tentB w = decide (val w < 1) := by
    have := lt_val hw num_w1
    rw [val_w1] at this
    exact this
  have t2 : tentB v = decide (val v < 1) := by
    have := lt_val hv num_w1
    rw [val_w1] at this
    exact this
  unfold tentF
  rw [t1, t2, ← h]
  by_cases k : val w < 1
  · rw [decide_eq_true k]
    simp only [if_true]
    obtain ⟨_, _, s⟩ := sqrt_same hw hv w0 (by grind) h
    obtain ⟨_, e⟩ := sub_same a1 num_w1 b1 num_w1 (by rw [s]) b2
    obtain ⟨_, l, u⟩ := tent_lo hw w0 (by grind)
    exact ⟨a2, b2, e, l, u⟩
  · rw [decide_eq_false k]
    simp only [Bool.false_eq_true, if_false]
    obtain ⟨_, f⟩ := sub_same num_two1 hw num_two1 hv (by rw [h]) b3
    have l1 : val (fsub two1 w) ≤ 1 := by
      have e1 : fsub two1 Fl.w1 = Fl.w1 := by decide +kernel
      have := sub_mono num_two1 hw num_two1 num_w1 (by rw [val_w1]; grind)
      rw [e1, leB_val a3 num_w1, val_w1] at this
      exact of_decide_eq_true this
    obtain ⟨_, _, s⟩ := sqrt_same a3 b3 a4 (by grind) f
    obtain ⟨_, e⟩ := sub_same num_w1 a5 num_w1 b5 (by rw [s]) b6
    obtain ⟨_, l, u⟩ := tent_hi a3 a4 l1
    exact ⟨a6, b6, e, l, u⟩
/-- The greater and the lesser of a direction's numbers without signs. -/
theorem pick_vals {a b : Nat} {C S : Rat} (ha : Num a) (hb : Num b) (h : (val (fabs a) = C ∧ val (fabs b) = S) ∨ (val (fabs a) = S ∧ val (fabs b) = C)) (hs : S ≤ C) : val (maxF (fabs a) (fabs b)) = C ∧ val (minF (fabs a) (fabs b)) = S := by
  obtain ⟨e1, e2⟩ := abs_pick (not_nan_num ha) (not_nan_num hb)
  have l : steepB a b = decide (val (fabs a) < val (fabs b)) := lt_val (abs_num ha).1 (abs_num hb).1
  rw [e1, e2, l]
  by_cases k : val (fabs a) < val (fabs b)
  · rw [decide_eq_true k]
    simp only [if_true]
    rcases h with ⟨h1, h2⟩ | ⟨h1, h2⟩
    · exfalso; grind
    · exact ⟨h2, h1⟩
  · rw [decide_eq_false k]
    simp only [Bool.false_eq_true, if_false]
    rcases h with ⟨h1, h2⟩ | ⟨h1, h2⟩
    · exact ⟨h1, h2⟩
    · exact ⟨by grind, by grind⟩
theorem dir_abs {C S k : Nat} (hC : Num C) (hS : Num S) (c0 : 0 ≤ val C) (s0 : 0 ≤ val S) {a b : Nat} (ha : Num a) (hb : Num b) (ea : val a = val (dirX C S k)) (eb : val b = val (dirY C S k)) : (val (fabs a) = val C ∧ val (fabs b) = val S) ∨ (val (fabs a) = val S ∧ val (fabs b) = val C) := by
  obtain ⟨_, vC⟩ := neg_val hC
  obtain ⟨_, vS⟩ := neg_val hS
  obtain ⟨_, _, _, a0, a1⟩ := abs_num ha
  obtain ⟨_, _, _, b0, b1⟩ := abs_num hb
  rw [ea] at a1
  rw [eb] at b1
  have h : k = 0 ∨ k = 1 ∨ k = 2 ∨ k = 3 ∨ k = 4 ∨ k = 5 ∨ k = 6 ∨ 7 ≤ k := by omega
  clear ea eb
  rcases h with rfl | rfl | rfl | rfl | rfl | rfl | rfl | h
  · left; rw [show dirX C S 0 = C from rfl] at a1; rw [show dirY C S 0 = S from rfl] at b1; constructor <;> grind
  · right; rw [show dirX C S 1 = S from rfl] at a1; rw [show dirY C S 1 = C from rfl] at b1; constructor <;> grind
  · right; rw [show dirX C S 2 = fsub 0 S from rfl, vS] at a1; rw [show dirY C S 2 = C from rfl] at b1; constructor <;> grind
  · left; rw [show dirX C S 3 = fsub 0 C from rfl, vC] at a1; rw [show dirY C S 3 = S from rfl] at b1; constructor <;> grind
  · left; rw [show dirX C S 4 = fsub 0 C from rfl, vC] at a1; rw [show dirY C S 4 = fsub 0 S from rfl, vS] at b1; constructor <;> grind
  · right; rw [show dirX C S 5 = fsub 0 S from rfl, vS] at a1; rw [show dirY C S 5 = fsub 0 C from rfl, vC] at b1; constructor <;> grind
  · right; rw [show dirX C S 6 = S from rfl] at a1; rw [show dirY C S 6 = fsub 0 C from rfl, vC] at b1; constructor <;> grind
  · left
    obtain ⟨j, rfl⟩ : ∃ j, k = j + 7 := ⟨k - 7, by omega⟩
    rw [show dirX C S (j + 7) = C from rfl] at a1
    rw [show dirY C S (j + 7) = fsub 0 S from rfl, vS] at b1
    constructor <;> grind
/-- The density of a draw's direction is the draw's, nearly. -/
theorem back_near {c : Nat} (h : Sect c) : Num (densF (shareF (fabs (fmul (secX c) Fl.w1)) (fabs (fmul (secY c) Fl.w1)))) ∧ Num (densF (secF c)) ∧ Ab (val (densF (shareF (fabs (fmul (secX c) Fl.w1)) (fabs (fmul (secY c) Fl.w1)))) - val (densF (secF c))) (12 * dl) := by
  have U := h.unit
  have V := unit_one U
  obtain ⟨na, va⟩ := mul_one' U.nx
  obtain ⟨nb, vb⟩ := mul_one' U.ny
  have hS := h.sec
  have d0 : 0 < val (secD (secF c)) := by have := hS.d0; grind
  have c0 : 0 < val (secC (secF c)) := by have := hS.c0; grind
  have s0 : 0 ≤ val (secS (secF c)) := by
    have l := div_mono num_zero h.nf hS.nd d0 (by rw [val_zero]; exact Rat.le_refl) (by rw [val_zero]; exact h.f0)
    rw [fdiv_zero hS.nd d0] at l
    have l2 : leB 0 (secS (secF c)) = true := l
    rw [leB_val num_zero hS.ns, val_zero] at l2
    exact of_decide_eq_true l2
  have sc : val (secS (secF c)) ≤ val (secC (secF c)) := by
    have l := div_mono h.nf num_w1 hS.nd d0 h.f0 (by rw [val_w1]; exact h.f1)
    have l2 : leB (secS (secF c)) (secC (secF c)) = true := l
    rw [leB_val hS.ns hS.nc] at l2
    exact of_decide_eq_true l2
  have q := dir_abs hS.nc hS.ns (by grind) s0 na nb va vb
  obtain ⟨m1, m2⟩ := pick_vals na nb q sc
  obtain ⟨f1, f2, f3, f4, f5⟩ := share_good na nb (by
    intro e
    obtain ⟨n1, _⟩ := abs_num na
    obtain ⟨n2, _⟩ := abs_num nb
    have nm : Num (maxF (fabs (fmul (secX c) Fl.w1)) (fabs (fmul (secY c) Fl.w1))) := by
      rw [(abs_pick (not_nan_num na) (not_nan_num nb)).1]
      split
      · exact n2
      · exact n1
    have g := gt_val nm num_zero
    rw [e, m1, val_zero, decide_eq_true c0] at g
    exact absurd g (by decide))
  have hsh : shareF (fabs (fmul (secX c) Fl.w1)) (fabs (fmul (secY c) Fl.w1)) = fdiv (minF (fabs (fmul (secX c) Fl.w1)) (fabs (fmul (secY c) Fl.w1))) (maxF (fabs (fmul (secX c) Fl.w1)) (fabs (fmul (secY c) Fl.w1))) := by
    unfold shareF
    rw [num_fin (abs_num na).1, num_fin (abs_num nb).1]
    have : (ford (maxF (fabs (fmul (secX c) Fl.w1)) (fabs (fmul (secY c) Fl.w1))) 0 == some .eq) = false := by
      have g := gt_val f1 num_zero
      rw [m1, val_zero, decide_eq_true c0] at g
      rw [beq_iff_eq] at g
      rw [g]; rfl
    rw [this]
    rfl
  obtain ⟨n1, _, p0, p1, _⟩ := share_same (fmul (secX c) Fl.w1) (fmul (secY c) Fl.w1)
  have ev := div_same f2 f1 hS.ns hS.nc f4 f5 f3 m2 m1
  rw [← hsh] at ev
  obtain ⟨d1, d2, d3⟩ := dens_back h.nf h.f0 h.f1
  obtain ⟨nq, _, _⟩ := div_unit hS.ns hS.nc s0 sc c0
  obtain ⟨_, _, e1, _, _, _, e2⟩ := dens_same n1 nq p0 p1 ev
  exact ⟨e1, d2, by rw [e2]; exact d3⟩
end Go.Proofs.Ytnhilikcgfhkbaa
