/- Len2, Len, Finite, Part. -/
import Derived.Test.YtkcchnepllcghaaVb
import Derived.Test.YtkcchnepllcghaaVe
namespace Go.Proofs.Ytkcchnepllcghaa
open Go.RowKit Fl

/-- The part of an axis. -/
def partF (ax ay az : Nat) (i : Int) : Nat := if i = 0 then ax else if i = 1 then ay else az

set_option maxRecDepth 100000 in
set_option maxHeartbeats 1000000 in
theorem part_any (ax ay az : Nat) (i : Int) (hx : Wd ax) (hy : Wd ay) (hz : Wd az) (w : World) : Ret Try.prog 30 #[.agg #[.float .f64 ax, .float .f64 ay, .float .f64 az], .int .i64 i] w (isF (partF ax ay az i)) := by
  unfold Ret partF
  by_cases h0 : i = 0
  · subst h0
    go_enter Try.func30, Try.ntmps30
    go_wp2_with fail
    go_ret
    exact ⟨_, rfl, ⟨_, rfl, Eqv.refl hx⟩, (Below.refl _ _).alloc (Nat.le_refl _) _⟩
  · by_cases h1 : i = 1
    · subst h1
      go_enter Try.func30, Try.ntmps30
      go_wp2_with fail
      go_ret
      exact ⟨_, rfl, ⟨_, rfl, Eqv.refl hy⟩, (Below.refl _ _).alloc (Nat.le_refl _) _⟩
    · rw [if_neg h0, if_neg h1]
      have b0 : (i == 0) = false := by simpa using h0
      have b1 : (i == 1) = false := by simpa using h1
      clear h0 h1
      go_enter Try.func30, Try.ntmps30
      go_wp2_with fail
      go_ret
      exact ⟨_, rfl, ⟨_, rfl, Eqv.refl hz⟩, (Below.refl _ _).alloc (Nat.le_refl _) _⟩

end Go.Proofs.Ytkcchnepllcghaa
