/- Comparisons of floats, as the walk shows them. -/
import Derived.Test.YtgimkcbegalepaaLq
import Derived.Test.YtgimkcbegalepaaFx
namespace Go.Proofs.Ytgimkcbegalepaa
open Go.RowKit Fl

theorem high_sm {a b b' : Nat} (h : Sm b b') : highF a b = highF a b' := by
  cases k : isN b
  · rw [h.eq k]
  · rw [high_nan k, high_nan (h.isN ▸ k)]
theorem low_sm {a b b' : Nat} (h : Sm b b') : lowF a b = lowF a b' := by
  cases k : isN b
  · rw [h.eq k]
  · rw [low_nan k, low_nan (h.isN ▸ k)]
theorem ordf (x y : Nat) : FloatKind.f64.format.order x y = ford x y := rfl
theorem leB_iff (x y : Nat) : leB x y = true ↔ ford x y = some .lt ∨ ford x y = some .eq := by
  unfold leB
  cases ford x y with
  | none => simp
  | some o => cases o <;> simp
theorem leB_off {x y : Nat} (h : ¬(FloatKind.f64.format.order x y = some .lt ∨ FloatKind.f64.format.order x y = some .eq)) : leB x y = false := by
  cases k : leB x y
  · rfl
  · exact absurd ((leB_iff x y).1 k) h
theorem leB_on {x y : Nat} (h : FloatKind.f64.format.order x y = some .lt ∨ FloatKind.f64.format.order x y = some .eq) : leB x y = true := (leB_iff x y).2 h
theorem leB_offB {x y : Nat} (h : (!FloatKind.f64.format.order x y == some .lt) = true ∧ (!FloatKind.f64.format.order x y == some .eq) = true) : leB x y = false := by
  refine leB_off fun k => ?_
  rcases k with k | k <;> rw [k] at h
  · exact absurd h.1 (by decide)
  · exact absurd h.2 (by decide)
theorem leB_onB {x y : Nat} (h : (!FloatKind.f64.format.order x y == some .lt) = false ∨ (!FloatKind.f64.format.order x y == some .eq) = false) : leB x y = true := by
  refine leB_on ?_
  rcases h with k | k
  · exact .inl (by simpa using k)
  · exact .inr (by simpa using k)
theorem leB_onC {x y : Nat} (h : (FloatKind.f64.format.order x y == some .lt) = true ∨ (FloatKind.f64.format.order x y == some .eq) = true) : leB x y = true := by
  unfold leB; rw [Bool.or_eq_true]; exact h
theorem leB_offC {x y : Nat} (h : (FloatKind.f64.format.order x y == some .lt) = false ∧ (FloatKind.f64.format.order x y == some .eq) = false) : leB x y = false := by
  unfold leB; rw [Bool.or_eq_false_iff]; exact h
theorem ne_off {x y : Nat} (h : (FloatKind.f64.format.order x y == some .eq) = true) : (ford x y != some .eq) = false := by
  rw [ordf] at h; unfold bne; rw [h]; rfl
theorem ne_on {x y : Nat} (h : (FloatKind.f64.format.order x y == some .eq) = false) : (ford x y != some .eq) = true := by
  rw [ordf] at h; unfold bne; rw [h]; rfl
theorem le2_off {x y x' y' : Nat} (h : (!FloatKind.f64.format.order x y == some .lt) = true ∧ (!FloatKind.f64.format.order x y == some .eq) = true ∨ (!FloatKind.f64.format.order x' y' == some .lt) = true ∧ (!FloatKind.f64.format.order x' y' == some .eq) = true) : (leB x y && leB x' y') = false := by
  rcases h with h | h
  · rw [leB_offB h]; rfl
  · rw [leB_offB h]; exact Bool.and_false _
theorem le2_off1 {x y x' y' : Nat} (h : ¬(FloatKind.f64.format.order x y = some .lt ∨ FloatKind.f64.format.order x y = some .eq)) : (leB x y && leB x' y') = false := by
  rw [leB_off h]; rfl
theorem le2_on {x y x' y' : Nat} (h : ((!FloatKind.f64.format.order x y == some .lt) = false ∨ (!FloatKind.f64.format.order x y == some .eq) = false) ∧ ((!FloatKind.f64.format.order x' y' == some .lt) = false ∨ (!FloatKind.f64.format.order x' y' == some .eq) = false)) : (leB x y && leB x' y') = true := by
  rw [leB_onB h.1, leB_onB h.2]; rfl
end Go.Proofs.Ytgimkcbegalepaa
