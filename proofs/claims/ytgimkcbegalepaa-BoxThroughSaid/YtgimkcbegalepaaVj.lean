/- Len2, Len, Finite, Part. -/
import Derived.Test.YtgimkcbegalepaaVb
import Derived.Test.YtgimkcbegalepaaVe
namespace Go.Proofs.Ytgimkcbegalepaa
open Go.RowKit Fl

set_option maxRecDepth 100000 in
set_option maxHeartbeats 1000000 in
theorem finite_any (ax ay az : Nat) (w : World) : Ret Try.prog 35 #[.agg #[.float .f64 ax, .float .f64 ay, .float .f64 az]] w (fun v => v = .bool (numB ax && numB ay && numB az)) := by
  unfold Ret
  have HX : Hid _ := number_any ax
  have HY : Hid _ := number_any ay
  have HZ : Hid _ := number_any az
  generalize numB ax = p at HX ⊢
  generalize numB ay = q at HY ⊢
  generalize numB az = s at HZ ⊢
  cases p <;> cases q <;> cases s <;>
  · go_enter Try.func35, Try.ntmps35
    go_wp2_with fail
    refine Calls.mono (HX.out _) ?_
    rintro e w' ⟨rfl, hw⟩
    obtain rfl := hw.symm
    go_wp2_with fail
    try
      refine Calls.mono (HY.out _) ?_
      rintro e w' ⟨rfl, hw⟩
      obtain rfl := hw.symm
      go_wp2_with fail
    try
      refine Calls.mono (HZ.out _) ?_
      rintro e w' ⟨rfl, hw⟩
      obtain rfl := hw.symm
      go_wp2_with fail
    go_ret
    exact ⟨_, rfl, rfl, (Below.refl _ _).alloc (Nat.le_refl _) _⟩

/-- The part of an axis. -/
def partF (ax ay az : Nat) (i : Int) : Nat := if i = 0 then ax else if i = 1 then ay else az

set_option maxRecDepth 100000 in
set_option maxHeartbeats 1000000 in
theorem part_any (ax ay az : Nat) (i : Int) (hx : Wd ax) (hy : Wd ay) (hz : Wd az) (w : World) : Ret Try.prog 36 #[.agg #[.float .f64 ax, .float .f64 ay, .float .f64 az], .int .i64 i] w (isF (partF ax ay az i)) := by
  unfold Ret partF
  by_cases h0 : i = 0
  · subst h0
    go_enter Try.func36, Try.ntmps36
    go_wp2_with fail
    go_ret
    exact ⟨_, rfl, ⟨_, rfl, Eqv.refl hx⟩, (Below.refl _ _).alloc (Nat.le_refl _) _⟩
  · by_cases h1 : i = 1
    · subst h1
      go_enter Try.func36, Try.ntmps36
      go_wp2_with fail
      go_ret
      exact ⟨_, rfl, ⟨_, rfl, Eqv.refl hy⟩, (Below.refl _ _).alloc (Nat.le_refl _) _⟩
    · rw [if_neg h0, if_neg h1]
      have b0 : (i == 0) = false := by simpa using h0
      have b1 : (i == 1) = false := by simpa using h1
      clear h0 h1
      go_enter Try.func36, Try.ntmps36
      go_wp2_with fail
      go_ret
      exact ⟨_, rfl, ⟨_, rfl, Eqv.refl hz⟩, (Below.refl _ _).alloc (Nat.le_refl _) _⟩

end Go.Proofs.Ytgimkcbegalepaa
