/- Package tape: how many draws a picture needs; the reference's. -/
import Derived.Test.YtmnemandmpoioaaTb
namespace Go.Proofs.Ytmnemandmpoioaa
open Go.RowKit Fl

/-- A picture that may be. -/
abbrev confP (x y s d : Int) : Prop := (1 ≤ x ∧ x ≤ 8192) ∧ (1 ≤ y ∧ y ≤ 8192) ∧ (1 ≤ s ∧ s ≤ 65536) ∧ 0 ≤ d ∧ d ≤ 64
/-- How many draws it needs, and which error. -/
def needF (x y s d : Int) : Int × Int := if confP x y s d then (if 65536 < x * y then (0, 4) else if 4194304 < x * y * s * slotsF d then (0, 4) else (x * y * s * slotsF d, 0)) else (0, 12)
def outN (p : Int × Int) : Value := .tuple #[.int .i64 p.1, .int .i64 p.2]
theorem conf_cases {x y s d : Int} (h : ¬confP x y s d) : x < 1 ∨ (1 ≤ x ∧ 8192 < x) ∨ (1 ≤ x ∧ x ≤ 8192 ∧ y < 1) ∨ (1 ≤ x ∧ x ≤ 8192 ∧ 1 ≤ y ∧ 8192 < y) ∨ (1 ≤ x ∧ x ≤ 8192 ∧ 1 ≤ y ∧ y ≤ 8192 ∧ s < 1) ∨ (1 ≤ x ∧ x ≤ 8192 ∧ 1 ≤ y ∧ y ≤ 8192 ∧ 1 ≤ s ∧ 65536 < s) ∨ (1 ≤ x ∧ x ≤ 8192 ∧ 1 ≤ y ∧ y ≤ 8192 ∧ 1 ≤ s ∧ s ≤ 65536 ∧ d < 0) ∨ (1 ≤ x ∧ x ≤ 8192 ∧ 1 ≤ y ∧ y ≤ 8192 ∧ 1 ≤ s ∧ s ≤ 65536 ∧ 0 ≤ d ∧ 64 < d) := by
  unfold confP at h
  omega
theorem mul_le {a b A B : Int} (ha : 0 ≤ a) (hb : 0 ≤ b) (hA : a ≤ A) (hB : b ≤ B) : 0 ≤ a * b ∧ a * b ≤ A * B :=
  ⟨Int.mul_nonneg ha hb, Int.mul_le_mul hA hB hb (Int.le_trans ha hA)⟩

end Go.Proofs.Ytmnemandmpoioaa