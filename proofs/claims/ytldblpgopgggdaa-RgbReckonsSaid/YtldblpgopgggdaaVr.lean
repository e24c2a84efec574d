/- The reference: Add, Sub, Scale, Dot, less, Same, Is, Number, Finite. -/
import Derived.Test.YtldblpgopgggdaaVa
import Derived.Test.YtldblpgopgggdaaVe
namespace Go.Proofs.Ytldblpgopgggdaa
open Go.RowKit Fl

abbrev dotR (ax ay az bx bY bz : Nat) : Nat := fadd (fadd (fmul ax bx) (fmul ay bY)) (fmul az bz)

set_option maxRecDepth 100000 in
set_option maxHeartbeats 1000000 in
theorem rsame_any (x y : Nat) (w : World) : Calls Try.prog 15 #[.float .f64 x, .float .f64 y] w fun e w' => e = .returned (.bool (sameB x y)) ∧ w' = w := by
  unfold sameB
  have hp : (FloatKind.f64.format.order x y == some .eq) = (ford x y == some .eq) := rfl
  have hq : (FloatKind.f64.format.order x x != some .eq) = (ford x x != some .eq) := rfl
  have hs : (FloatKind.f64.format.order y y != some .eq) = (ford y y != some .eq) := rfl
  generalize (ford x y == some .eq) = p at hp ⊢
  generalize (ford x x != some .eq) = q at hq ⊢
  generalize (ford y y != some .eq) = s at hs ⊢
  cases p <;> cases q <;> cases s <;>
  · go_enter Try.func15, Try.ntmps15
    go_wp2_with fail
    go_ret
    exact ⟨rfl, rfl⟩

theorem ord_sub (x r : Nat) (h : Eqv r (fsub x x)) : (F64.order r 0 == some .eq) = numB x := by
  rw [← num_sub, ← ford_congr h.sm (Sm.refl 0)]; rfl

set_option maxRecDepth 100000 in
set_option maxHeartbeats 1000000 in
theorem rnumber_any (x : Nat) (w : World) : Calls Try.prog 34 #[.float .f64 x] w fun e w' => e = .returned (.bool (numB x)) ∧ ∃ n, w' = w.drewN n := by
  go_enter Try.func34, Try.ntmps34
  go_wp2_with fail
  refine upon_sub (Sm.refl _) (Sm.refl _) ?_
  intro r1 n1 h1
  go_wp2_with fail
  go_ret
  exact ⟨by rw [← ord_sub x r1 h1]; rfl, n1, rfl⟩

end Go.Proofs.Ytldblpgopgggdaa
