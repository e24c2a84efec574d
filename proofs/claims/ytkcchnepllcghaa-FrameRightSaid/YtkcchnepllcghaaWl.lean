/- The frame of a direction of length 1, as rational numbers: its parts are near to exact ones, which are at right angles. -/
import Derived.Test.YtkcchnepllcghaaFw
namespace Go.Proofs.Ytkcchnepllcghaa.Fl

theorem quo_bound {a w m A : Rat} (hm : 0 < m) (hw : m ≤ w ∨ w ≤ -m) (h : Ab (a * w) (A * m)) : Ab a A := by
  have hA : 0 ≤ A := by
    by_cases k : 0 ≤ A
    · exact k
    · exfalso
      have := h.nonneg
      have p := Rat.mul_pos (show 0 < -A by grind) hm
      grind
  obtain ⟨h1, h2⟩ := h
  constructor
  · by_cases k : -A ≤ a
    · exact k
    · exfalso
      rcases hw with hw | hw
      · have p1 := Rat.mul_pos (show 0 < -A - a by grind) (show 0 < w by grind)
        have p2 := Rat.mul_nonneg hA (show 0 ≤ w - m by grind)
        grind
      · have p1 := Rat.mul_pos (show 0 < -A - a by grind) (show 0 < -w by grind)
        have p2 := Rat.mul_nonneg hA (show 0 ≤ -w - m by grind)
        grind
  · by_cases k : a ≤ A
    · exact k
    · exfalso
      rcases hw with hw | hw
      · have p1 := Rat.mul_pos (show 0 < a - A by grind) (show 0 < w by grind)
        have p2 := Rat.mul_nonneg hA (show 0 ≤ w - m by grind)
        grind
      · have p1 := Rat.mul_pos (show 0 < a - A by grind) (show 0 < -w by grind)
        have p2 := Rat.mul_nonneg hA (show 0 ≤ -w - m by grind)
        grind

theorem dl_small : dl ≤ 1 / 1048576 := by unfold dl; grind
theorem dl_pos : 0 ≤ dl := by unfold dl; grind

/-- A product of three rounded numbers, each at most 3. -/
theorem dot_ab {u1 u2 u3 v1 v2 v3 : Nat} (n1 : Num u1) (n2 : Num u2) (n3 : Num u3) (m1 : Num v1) (m2 : Num v2) (m3 : Num v3)
    (b1 : Ab (val u1) 3) (b2 : Ab (val u2) 3) (b3 : Ab (val u3) 3) (c1 : Ab (val v1) 3) (c2 : Ab (val v2) 3) (c3 : Ab (val v3) 3) :
    Num (fadd (fadd (fmul u1 v1) (fmul u2 v2)) (fmul u3 v3)) ∧ Ab (val (fadd (fadd (fmul u1 v1) (fmul u2 v2)) (fmul u3 v3)) - (val u1 * val v1 + val u2 * val v2 + val u3 * val v3)) (5 * dl) := by
  have hs := dl_small
  have hp := dl_pos
  have p1 := (b1.mul c1).mono (show (3 : Rat) * 3 ≤ 9 by grind)
  have p2 := (b2.mul c2).mono (show (3 : Rat) * 3 ≤ 9 by grind)
  have p3 := (b3.mul c3).mono (show (3 : Rat) * 3 ≤ 9 by grind)
  obtain ⟨k1, e1⟩ := mul_ab n1 m1 (p1.mono (by grind))
  obtain ⟨k2, e2⟩ := mul_ab n2 m2 (p2.mono (by grind))
  obtain ⟨k3, e3⟩ := mul_ab n3 m3 (p3.mono (by grind))
  have q1 : Ab (val (fmul u1 v1)) 10 := by unfold Ab at *; grind
  have q2 : Ab (val (fmul u2 v2)) 10 := by unfold Ab at *; grind
  have q3 : Ab (val (fmul u3 v3)) 10 := by unfold Ab at *; grind
  obtain ⟨k4, e4⟩ := add_ab k1 k2 (by unfold Ab at *; grind)
  have q4 : Ab (val (fadd (fmul u1 v1) (fmul u2 v2))) 30 := by unfold Ab at *; grind
  obtain ⟨k5, e5⟩ := add_ab k4 k3 (by unfold Ab at *; grind)
  refine ⟨k5, ?_⟩
  unfold Ab at *
  grind

/-- Two products of three, of numbers near to others. -/
theorem dot_hat {u1 u2 u3 v1 v2 v3 a1 a2 a3 b1 b2 b3 : Rat} (h1 : Ab (u1 - a1) (8 * dl)) (h2 : Ab (u2 - a2) (8 * dl)) (h3 : Ab (u3 - a3) (8 * dl)) (k1 : Ab (v1 - b1) (8 * dl)) (k2 : Ab (v2 - b2) (8 * dl)) (k3 : Ab (v3 - b3) (8 * dl))
    (c1 : Ab u1 3) (c2 : Ab u2 3) (c3 : Ab u3 3) (d1 : Ab b1 3) (d2 : Ab b2 3) (d3 : Ab b3 3) : Ab (u1 * v1 + u2 * v2 + u3 * v3 - (a1 * b1 + a2 * b2 + a3 * b3)) (144 * dl) := by
  have e1 := (h1.mul d1).add (c1.mul k1)
  have e2 := (h2.mul d2).add (c2.mul k2)
  have e3 := (h3.mul d3).add (c3.mul k3)
  have e := (e1.add e2).add e3
  have id : (u1 - a1) * b1 + u1 * (v1 - b1) + ((u2 - a2) * b2 + u2 * (v2 - b2)) + ((u3 - a3) * b3 + u3 * (v3 - b3)) = u1 * v1 + u2 * v2 + u3 * v3 - (a1 * b1 + a2 * b2 + a3 * b3) := by grind
  rw [id] at e
  exact e.mono (by grind)

/-! The exact frame: with a times (s and z) being -1 but for f, and the square being 1 but for n -/
theorem hat_tt {x y z s a f n : Rat} (hs : s * s = 1) (hf : f = a * (s + z) + 1) (hn : n = x * x + y * y + z * z - 1) : (1 + s * x * x * a) * (1 + s * x * x * a) + s * (x * y * a) * (s * (x * y * a)) + -(s * x) * -(s * x) - 1 = x * x * (f * (1 + a * (s - z)) + a * a * n) := by grind
theorem hat_bb {x y z s a f n : Rat} (hs : s * s = 1) (hf : f = a * (s + z) + 1) (hn : n = x * x + y * y + z * z - 1) : x * y * a * (x * y * a) + (s + y * y * a) * (s + y * y * a) + -y * -y - 1 = y * y * (f * (1 + a * (s - z)) + a * a * n) := by grind
theorem hat_tb {x y z s a f n : Rat} (hs : s * s = 1) (hf : f = a * (s + z) + 1) (hn : n = x * x + y * y + z * z - 1) : (1 + s * x * x * a) * (x * y * a) + s * (x * y * a) * (s + y * y * a) + -(s * x) * -y = x * y * s * (f * (1 + a * (s - z)) + a * a * n) := by grind
theorem hat_tn {x y z s a f n : Rat} (hs : s * s = 1) (hf : f = a * (s + z) + 1) (hn : n = x * x + y * y + z * z - 1) : (1 + s * x * x * a) * x + s * (x * y * a) * y + -(s * x) * z = x * s * ((s - z) * f + a * n) := by grind
theorem hat_bn {x y z s a f n : Rat} (hs : s * s = 1) (hf : f = a * (s + z) + 1) (hn : n = x * x + y * y + z * z - 1) : x * y * a * x + (s + y * y * a) * y + -y * z = y * ((s - z) * f + a * n) := by grind
end Go.Proofs.Ytkcchnepllcghaa.Fl
