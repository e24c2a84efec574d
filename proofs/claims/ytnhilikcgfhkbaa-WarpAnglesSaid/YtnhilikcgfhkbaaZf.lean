/- The greater and the lesser of two floats. -/
import Derived.Test.YtnhilikcgfhkbaaZa
namespace Go.Proofs.Ytnhilikcgfhkbaa.Fl
open Go.RowKit

def maxF (x y : Nat) : Nat := match ford x y with
  | none => qnan
  | some .lt => y
  | some .gt => x
  | some .eq => if (FloatKind.f64.decode x).neg then y else x
def minF (x y : Nat) : Nat := match ford x y with
  | none => qnan
  | some .lt => x
  | some .gt => y
  | some .eq => if (FloatKind.f64.decode x).neg then x else y
theorem isN_cut2 (b : Bool) (x y t : Nat) : isN (Question.cut (.nanMinMax .f64 b x y) t) = true := isN_cut x y t
theorem ord_none {x y : Nat} (h : ford x y = none) : isN x = true ∨ isN y = true := by
  cases hx : isN x
  · cases hy : isN y
    · obtain ⟨o, e⟩ := ford_some hx hy
      rw [e] at h
      cases h
    · exact .inr rfl
  · exact .inl rfl
section
variable {P : Program}
theorem max_pair (ts : Array TypeId) (t : TypeId) (x y : Nat) : Builtin.max_ ts t #[.float .f64 x, .float .f64 y] = Builtin.max2 (.float .f64 x) (.float .f64 y) := by
  simp [Builtin.max_]
theorem min_pair (ts : Array TypeId) (t : TypeId) (x y : Nat) : Builtin.min_ ts t #[.float .f64 x, .float .f64 y] = Builtin.min2 (.float .f64 x) (.float .f64 y) := by
  simp [Builtin.min_]
theorem run_max_ord (ts : Array TypeId) (t : TypeId) {x y : Nat} {o : Ordering} (h : ford x y = some o) (w : World) : (Builtin.max_ ts t #[.float .f64 x, .float .f64 y]).run P w = .ok (.float .f64 (maxF x y)) w := by
  rw [max_pair]
  unfold maxF Builtin.max2
  have h' : FloatKind.f64.format.order x y = some o := h
  rw [h]
  simp only [h']
  cases o <;> rfl
theorem run_min_ord (ts : Array TypeId) (t : TypeId) {x y : Nat} {o : Ordering} (h : ford x y = some o) (w : World) : (Builtin.min_ ts t #[.float .f64 x, .float .f64 y]).run P w = .ok (.float .f64 (minF x y)) w := by
  rw [min_pair]
  unfold minF Builtin.min2
  have h' : FloatKind.f64.format.order x y = some o := h
  rw [h]
  simp only [h']
  cases o <;> rfl
theorem run_max_nan (ts : Array TypeId) (t : TypeId) {x y : Nat} (h : ford x y = none) (w : World) : ∃ r n, (Builtin.max_ ts t #[.float .f64 x, .float .f64 y]).run P w = .ok (.float .f64 r) (w.drewN n) ∧ isN r = true := by
  have h' : FloatKind.f64.format.order x y = none := h
  refine ⟨Question.cut (.nanMinMax .f64 true x y) (w.tape w.drawn (.nanMinMax .f64 true x y)), 1, ?_, isN_cut2 _ _ _ _⟩
  rw [max_pair]
  unfold Builtin.max2
  simp only [h']
  simp [Question.forced]
  rfl
end
end Go.Proofs.Ytnhilikcgfhkbaa.Fl
