/- Package box: lesser, greater, known; the reference's Low, High, Part; math.Inf; the empty boxes. -/
import Derived.Test.YtgimkcbegalepaaRows
import Derived.Test.YtgimkcbegalepaaVe
import Derived.Test.YtgimkcbegalepaaVj
import Derived.Test.YtgimkcbegalepaaFx
namespace Go.Proofs.Ytgimkcbegalepaa
open Go.RowKit Fl

set_option maxRecDepth 100000 in
set_option maxHeartbeats 400000 in
theorem lesser_any (x y : Nat) (w : World) : Calls Try.prog 31 #[.float .f64 x, .float .f64 y] w fun e w' => e = .returned (.float .f64 (lowF x y)) ∧ w' = w := by
  unfold lowF
  have hp : (FloatKind.f64.format.order y x == some .lt) = (ford y x == some .lt) := rfl
  generalize (ford y x == some .lt) = p at hp ⊢
  cases p <;>
  · go_enter Try.func31, Try.ntmps31
    go_wp2_with fail
    go_ret
    exact ⟨rfl, rfl⟩

set_option maxRecDepth 100000 in
set_option maxHeartbeats 400000 in
theorem greater_any (x y : Nat) (w : World) : Calls Try.prog 32 #[.float .f64 x, .float .f64 y] w fun e w' => e = .returned (.float .f64 (highF x y)) ∧ w' = w := by
  unfold highF
  have hp : (FloatKind.f64.format.order y x == some .gt) = (ford y x == some .gt) := rfl
  generalize (ford y x == some .gt) = p at hp ⊢
  cases p <;>
  · go_enter Try.func32, Try.ntmps32
    go_wp2_with fail
    go_ret
    exact ⟨rfl, rfl⟩

set_option maxRecDepth 100000 in
set_option maxHeartbeats 400000 in
theorem rlow_any (x y : Nat) (w : World) : Calls Try.prog 33 #[.float .f64 x, .float .f64 y] w fun e w' => e = .returned (.float .f64 (lowF x y)) ∧ w' = w := by
  unfold lowF
  have hp : (FloatKind.f64.format.order y x == some .lt) = (ford y x == some .lt) := rfl
  generalize (ford y x == some .lt) = p at hp ⊢
  cases p <;>
  · go_enter Try.func33, Try.ntmps33
    go_wp2_with fail
    go_ret
    exact ⟨rfl, rfl⟩

set_option maxRecDepth 100000 in
set_option maxHeartbeats 400000 in
theorem rhigh_any (x y : Nat) (w : World) : Calls Try.prog 34 #[.float .f64 x, .float .f64 y] w fun e w' => e = .returned (.float .f64 (highF x y)) ∧ w' = w := by
  unfold highF
  have hp : (FloatKind.f64.format.order y x == some .gt) = (ford y x == some .gt) := rfl
  generalize (ford y x == some .gt) = p at hp ⊢
  cases p <;>
  · go_enter Try.func34, Try.ntmps34
    go_wp2_with fail
    go_ret
    exact ⟨rfl, rfl⟩

def knownF (x y : Nat) : Nat := if isN x then y else x

set_option maxRecDepth 100000 in
set_option maxHeartbeats 400000 in
theorem known_any (x y : Nat) (w : World) : Calls Try.prog 47 #[.float .f64 x, .float .f64 y] w fun e w' => e = .returned (.float .f64 (knownF x y)) ∧ w' = w := by
  unfold knownF
  have HN : Hid _ := isnan_any x
  generalize isN x = p at HN ⊢
  cases p <;>
  · go_enter Try.func47, Try.ntmps47
    go_wp2_with fail
    refine Calls.mono (HN.out _) ?_
    rintro e w' ⟨rfl, hw⟩
    obtain rfl := hw.symm
    go_wp2_with fail
    go_ret
    exact ⟨rfl, rfl⟩

def pinf : Nat := 9218868437227405312
def ninf : Nat := 18442240474082181120

set_option maxRecDepth 100000 in
set_option maxHeartbeats 400000 in
theorem inf_pos (w : World) : Calls Try.prog 29 #[.int .i64 1] w fun e w' => e = .returned (.float .f64 pinf) ∧ w' = w := by
  go_enter Try.func29, Try.ntmps29
  have e2 := ext50
  go_wp2_with fail
  go_ret
  exact ⟨rfl, rfl⟩

set_option maxRecDepth 100000 in
set_option maxHeartbeats 400000 in
theorem inf_neg (w : World) : Calls Try.prog 29 #[.int .i64 (-1)] w fun e w' => e = .returned (.float .f64 ninf) ∧ w' = w := by
  go_enter Try.func29, Try.ntmps29
  have e2 := ext50
  go_wp2_with fail
  go_ret
  exact ⟨rfl, rfl⟩

set_option maxRecDepth 100000 in
set_option maxHeartbeats 1000000 in
theorem rpart_any (ax ay az : Nat) (i : Int) (w : World) : Ret Try.prog 22 #[.agg #[.float .f64 ax, .float .f64 ay, .float .f64 az], .int .i64 i] w (fun v => v = .float .f64 (partF ax ay az i)) := by
  unfold Ret partF
  by_cases h0 : i = 0
  · subst h0
    go_enter Try.func22, Try.ntmps22
    go_wp2_with fail
    go_ret
    exact ⟨_, rfl, rfl, (Below.refl _ _).alloc (Nat.le_refl _) _⟩
  · by_cases h1 : i = 1
    · subst h1
      go_enter Try.func22, Try.ntmps22
      go_wp2_with fail
      go_ret
      exact ⟨_, rfl, rfl, (Below.refl _ _).alloc (Nat.le_refl _) _⟩
    · rw [if_neg h0, if_neg h1]
      have b0 : (i == 0) = false := by simpa using h0
      have b1 : (i == 1) = false := by simpa using h1
      clear h0 h1
      go_enter Try.func22, Try.ntmps22
      go_wp2_with fail
      go_ret
      exact ⟨_, rfl, rfl, (Below.refl _ _).alloc (Nat.le_refl _) _⟩

set_option maxRecDepth 100000 in
set_option maxHeartbeats 1000000 in
theorem vpart_any (ax ay az : Nat) (i : Int) (w : World) : Ret Try.prog 36 #[.agg #[.float .f64 ax, .float .f64 ay, .float .f64 az], .int .i64 i] w (fun v => v = .float .f64 (partF ax ay az i)) := by
  unfold Ret partF
  by_cases h0 : i = 0
  · subst h0
    go_enter Try.func36, Try.ntmps36
    go_wp2_with fail
    go_ret
    exact ⟨_, rfl, rfl, (Below.refl _ _).alloc (Nat.le_refl _) _⟩
  · by_cases h1 : i = 1
    · subst h1
      go_enter Try.func36, Try.ntmps36
      go_wp2_with fail
      go_ret
      exact ⟨_, rfl, rfl, (Below.refl _ _).alloc (Nat.le_refl _) _⟩
    · rw [if_neg h0, if_neg h1]
      have b0 : (i == 0) = false := by simpa using h0
      have b1 : (i == 1) = false := by simpa using h1
      clear h0 h1
      go_enter Try.func36, Try.ntmps36
      go_wp2_with fail
      go_ret
      exact ⟨_, rfl, rfl, (Below.refl _ _).alloc (Nat.le_refl _) _⟩

end Go.Proofs.Ytgimkcbegalepaa
