/- math.Abs, IsNaN, IsInf; vec.Number; the reference's Number and abs; which of two is steep. -/
import Derived.Test.YtnhilikcgfhkbaaRows
import Derived.Test.YtnhilikcgfhkbaaVa
import Derived.Test.YtnhilikcgfhkbaaFm
import Derived.Test.YtnhilikcgfhkbaaZf
namespace Go.Proofs.Ytnhilikcgfhkbaa
open Go.RowKit Fl

theorem ext51 (x : Nat) (w : World) : (callFunc 42 #[.float .f64 x]).run Try.prog w = .ok (.value (.int .u64 x)) w := by kernel_rfl
theorem ext50 (n : Int) (w : World) : (callFunc 41 #[.int .u64 n]).run Try.prog w = .ok (.value (.float .f64 n.toNat)) w := by kernel_rfl

set_option maxRecDepth 100000 in
set_option maxHeartbeats 400000 in
theorem abs_any (x : Nat) (w : World) : Calls Try.prog 39 #[.float .f64 x] w fun e w' => e = .returned (.float .f64 (fabs x)) ∧ w' = w := by
  go_enter Try.func39, Try.ntmps39
  have e1 := ext51
  have e2 := ext50
  go_wp2_with fail
  go_ret
  exact ⟨by rw [← andNot_sign]; rfl, rfl⟩

theorem ord_nan_self (x : Nat) : (F64.order x x != some .eq) = isN x := by
  have := ford_self x
  unfold ford at this
  rw [bne, this, Bool.not_not]

set_option maxRecDepth 100000 in
set_option maxHeartbeats 400000 in
theorem isnan_any (x : Nat) (w : World) : Calls Try.prog 37 #[.float .f64 x] w fun e w' => e = .returned (.bool (isN x)) ∧ w' = w := by
  go_enter Try.func37, Try.ntmps37
  go_wp2_with fail
  go_ret
  exact ⟨by rw [← ord_nan_self]; rfl, rfl⟩

set_option maxRecDepth 100000 in
set_option maxHeartbeats 400000 in
theorem isinf_any (x : Nat) (w : World) : Calls Try.prog 43 #[.float .f64 x, .int .i64 0] w fun e w' => e = .returned (.bool (infB x)) ∧ w' = w := by
  go_enter Try.func43, Try.ntmps43
  go_wp2_with fail
  refine (abs_any _ _).mono ?_
  rintro e w' ⟨rfl, hw⟩
  obtain rfl := hw.symm
  go_wp2_with fail
  go_ret
  exact ⟨rfl, rfl⟩

set_option maxRecDepth 100000 in
set_option maxHeartbeats 400000 in
theorem number_any (x : Nat) (w : World) : Calls Try.prog 40 #[.float .f64 x] w fun e w' => e = .returned (.bool (numB x)) ∧ w' = w := by
  unfold numB
  have HN : Hid _ := isnan_any x
  have HI : Hid _ := isinf_any x
  generalize isN x = p at HN ⊢
  generalize infB x = q at HI ⊢
  cases p <;> cases q <;>
  · go_enter Try.func40, Try.ntmps40
    go_wp2_with fail
    refine Calls.mono (HN.out _) ?_
    rintro e w' ⟨rfl, hw⟩
    obtain rfl := hw.symm
    go_wp2_with fail
    try
      refine Calls.mono (HI.out _) ?_
      rintro e w' ⟨rfl, hw⟩
      obtain rfl := hw.symm
      go_wp2_with fail
    go_ret
    exact ⟨rfl, rfl⟩

theorem ord_sub (x r : Nat) (h : Eqv r (fsub x x)) : (F64.order r 0 == some .eq) = numB x := by
  rw [← num_sub, ← ford_congr h.sm (Sm.refl 0)]; rfl

set_option maxRecDepth 100000 in
set_option maxHeartbeats 1000000 in
theorem rnumber_any (x : Nat) (w : World) : Calls Try.prog 32 #[.float .f64 x] w fun e w' => e = .returned (.bool (numB x)) ∧ Below w.heap.size w w' := by
  go_enter Try.func32, Try.ntmps32
  go_wp2_with fail
  refine upon_sub (Sm.refl _) (Sm.refl _) ?_
  intro r1 n1 h1
  go_wp2_with fail
  go_ret
  exact ⟨by rw [← ord_sub x r1 h1]; rfl, below_dr (Below.refl _ _) _⟩

/-- Whether a number is not below 0. -/
def geZ (x : Nat) : Bool := ford x 0 == some .gt || ford x 0 == some .eq
/-- A number without its sign, as the reference has it. -/
def absR (x : Nat) : Nat := if geZ x || isN x then x else fsub 0 x
theorem sub_zero_some {x : Nat} (h : isN x = false) : F64.sub 0 x = some (fsub 0 x) := by
  unfold fsub
  cases hs : F64.sub 0 x with
  | some r => rfl
  | none =>
    exfalso
    unfold Ieee.Format.sub at hs
    unfold isN at h
    rw [read_zero] at hs
    cases hx : F64.read x with
    | nan s f => rw [hx] at h; exact absurd h (by simp [Ieee.Datum.isNaN])
    | infinity s => rw [hx] at hs; simp [Ieee.Datum.opposite, Ieee.Datum.sum] at hs
    | number s m e => rw [hx] at hs; simp [Ieee.Datum.opposite, Ieee.Datum.sum] at hs

set_option maxRecDepth 100000 in
set_option maxHeartbeats 1000000 in
theorem rabs_any (x : Nat) (w : World) : Calls Try.prog 31 #[.float .f64 x] w fun e w' => e = .returned (.float .f64 (absR x)) ∧ w' = w := by
  have hs : isN x = false → ∀ w, (binOp .sub 22 (.float .f64 0) (.float .f64 x)).run Try.prog w = .ok (.float .f64 (fsub 0 x)) w := fun h w => run_float_arith w .sub 22 .f64 0 x _ (sub_zero_some h)
  unfold absR
  have hg : (FloatKind.f64.format.order x 0 == some .gt || FloatKind.f64.format.order x 0 == some .eq) = geZ x := rfl
  have hn : (FloatKind.f64.format.order x x != some .eq) = isN x := ord_nan_self x
  generalize geZ x = g at *
  generalize isN x = n at *
  cases n
  · replace hs := hs rfl
    cases g <;>
    · go_enter Try.func31, Try.ntmps31
      go_wp2_with fail
      go_ret
      exact ⟨rfl, rfl⟩
  · clear hs
    cases g <;>
    · go_enter Try.func31, Try.ntmps31
      go_wp2_with fail
      go_ret
      exact ⟨rfl, rfl⟩

/-- Whether a direction is nearer to the Y axis. -/
def steepB (x y : Nat) : Bool := ford (fabs x) (fabs y) == some .lt
set_option maxRecDepth 100000 in
set_option maxHeartbeats 1000000 in
theorem steep_any (x y : Nat) (w : World) : Calls Try.prog 38 #[.float .f64 x, .float .f64 y] w fun e w' => e = .returned (.int .i64 (if steepB x y then 1 else 0)) ∧ w' = w := by
  have HX := hid (abs_any x)
  have HY := hid (abs_any y)
  have hb : (FloatKind.f64.format.order (fabs x) (fabs y) == some .lt) = steepB x y := rfl
  generalize steepB x y = b at *
  generalize fabs x = a at *
  generalize fabs y = c at *
  cases b <;>
  · go_enter Try.func38, Try.ntmps38
    go_wp2_with fail
    refine Calls.mono (HX.out _) ?_
    rintro e w' ⟨rfl, hw⟩
    obtain rfl := hw.symm
    clear hw
    go_wp2_with fail
    refine Calls.mono (HY.out _) ?_
    rintro e w' ⟨rfl, hw⟩
    obtain rfl := hw.symm
    clear hw
    go_wp2_with fail
    go_ret
    exact ⟨rfl, rfl⟩

/-- The sector of a direction. -/
def sideN (x y : Nat) : Int :=
  if isN x || isN y then 7
  else if geZ x && geZ y then (if steepB x y then 1 else 0)
  else if geZ y then 3 - (if steepB x y then 1 else 0)
  else if ford x 0 == some .lt then 4 + (if steepB x y then 1 else 0)
  else 7 - (if steepB x y then 1 else 0)

set_option maxRecDepth 100000 in
set_option maxHeartbeats 4000000 in
theorem side_any (x y : Nat) (w : World) : Calls Try.prog 29 #[.float .f64 x, .float .f64 y] w fun e w' => e = .returned (.int .i64 (sideN x y)) ∧ w' = w := by
  have HX := hid (isnan_any x)
  have HY := hid (isnan_any y)
  have HS := hid (steep_any x y)
  unfold sideN
  have hx : (FloatKind.f64.format.order x 0 == some .gt || FloatKind.f64.format.order x 0 == some .eq) = geZ x := rfl
  have hy : (FloatKind.f64.format.order y 0 == some .gt || FloatKind.f64.format.order y 0 == some .eq) = geZ y := rfl
  have hl : (FloatKind.f64.format.order x 0 == some .lt) = (ford x 0 == some .lt) := rfl
  obtain ⟨s, hs⟩ : ∃ s : Int, s = (if steepB x y then 1 else 0) := ⟨_, rfl⟩
  rw [← hs] at HS ⊢
  have hs1 : 0 ≤ s ∧ s ≤ 1 := by rw [hs]; split <;> omega
  have h3 : IntKind.i64.wrap (3 - s) = 3 - s := by rw [IntKind.wrap_i64]; omega
  have h4 : IntKind.i64.wrap (4 + s) = 4 + s := by rw [IntKind.wrap_i64]; omega
  have h7 : IntKind.i64.wrap (7 - s) = 7 - s := by rw [IntKind.wrap_i64]; omega
  clear hs hs1
  generalize geZ x = gx at *
  generalize geZ y = gy at *
  generalize (ford x 0 == some .lt) = lx at *
  generalize isN x = nx at *
  generalize isN y = ny at *
  cases nx
  · cases ny
    · cases gy
      · cases gx <;> cases lx <;>
        · go_enter Try.func29, Try.ntmps29
          go_wp2_with fail
          refine Calls.mono (HX.out _) ?_
          rintro e w' ⟨rfl, hw⟩
          obtain rfl := hw.symm
          clear hw
          go_wp2_with fail
          refine Calls.mono (HY.out _) ?_
          rintro e w' ⟨rfl, hw⟩
          obtain rfl := hw.symm
          clear hw
          go_wp2_with fail
          refine Calls.mono (HS.out _) ?_
          rintro e w' ⟨rfl, hw⟩
          obtain rfl := hw.symm
          clear hw
          go_wp2_with fail
          go_ret
          exact ⟨rfl, rfl⟩
      · cases gx <;>
        · go_enter Try.func29, Try.ntmps29
          go_wp2_with fail
          refine Calls.mono (HX.out _) ?_
          rintro e w' ⟨rfl, hw⟩
          obtain rfl := hw.symm
          clear hw
          go_wp2_with fail
          refine Calls.mono (HY.out _) ?_
          rintro e w' ⟨rfl, hw⟩
          obtain rfl := hw.symm
          clear hw
          go_wp2_with fail
          refine Calls.mono (HS.out _) ?_
          rintro e w' ⟨rfl, hw⟩
          obtain rfl := hw.symm
          clear hw
          go_wp2_with fail
          go_ret
          exact ⟨rfl, rfl⟩
    · go_enter Try.func29, Try.ntmps29
      go_wp2_with fail
      refine Calls.mono (HX.out _) ?_
      rintro e w' ⟨rfl, hw⟩
      obtain rfl := hw.symm
      clear hw
      go_wp2_with fail
      refine Calls.mono (HY.out _) ?_
      rintro e w' ⟨rfl, hw⟩
      obtain rfl := hw.symm
      clear hw
      go_wp2_with fail
      go_ret
      exact ⟨rfl, rfl⟩
  · go_enter Try.func29, Try.ntmps29
    go_wp2_with fail
    refine Calls.mono (HX.out _) ?_
    rintro e w' ⟨rfl, hw⟩
    obtain rfl := hw.symm
    clear hw
    go_wp2_with fail
    go_ret
    exact ⟨rfl, rfl⟩
end Go.Proofs.Ytnhilikcgfhkbaa
