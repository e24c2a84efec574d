/- What a draw counts as; the reference's; a number from 0 on and below 1. The greater and the lesser of two floats. Package math, as far as it is called: IsNaN, Abs, IsInf, Sqrt; and vec.Number. The reference: Add, Sub, Scale, Dot, less, Same, Is, Number, Finite. math.Abs, IsNaN, IsInf; vec.Number; the reference's Number and abs; which of two is steep. Numbers that read alike; what rounding gives of equal ones. How far a direction is within its sector: the code's way and the reference's. Package warp: product, stretch, density; math.Sqrt; all of numbers. Package warp: place, Angle, Density. -/
import Derived.WalkKit
import Derived.WalkSpells
import Derived.Deep.LoopGhost
import Derived.Test.YtagehemimlakpaaRows
import Derived.Test.YtagehemimlakpaaG4
import Derived.Test.YtagehemimlakpaaG1
import Derived.Test.YtagehemimlakpaaG3
namespace Go.Proofs.Ytagehemimlakpaa
open Go.RowKit Fl

theorem aside {p : Prop} (h : p) : Aside p := h
/-- Whether a draw counts. -/
def okB (x : Nat) : Bool := (ford x 0 == some .gt || ford x 0 == some .eq) && ford x 4607182418800017408 == some .lt
/-- What a draw counts as. -/
def cleanF (x : Nat) : Nat := if okB x then x else 0

set_option maxRecDepth 100000 in
set_option maxHeartbeats 1000000 in
theorem clean_any (x : Nat) (w : World) : Calls Try.prog 36 #[.float .f64 x] w fun e w' => e = .returned (.float .f64 (cleanF x)) ∧ w' = w := by
  unfold cleanF okB
  have hp : (FloatKind.f64.format.order x 0 == some .gt) = (ford x 0 == some .gt) := rfl
  have hq : (FloatKind.f64.format.order x 0 == some .eq) = (ford x 0 == some .eq) := rfl
  have hr : (FloatKind.f64.format.order x 4607182418800017408 == some .lt) = (ford x 4607182418800017408 == some .lt) := rfl
  generalize (ford x 0 == some .gt) = p at hp ⊢
  generalize (ford x 0 == some .eq) = q at hq ⊢
  generalize (ford x 4607182418800017408 == some .lt) = r at hr ⊢
  cases p <;> cases q <;> cases r <;>
  · go_enter Try.func36, Try.ntmps36
    go_wp2_with fail
    go_ret
    exact ⟨rfl, rfl⟩

theorem ford_three {x y : Nat} (h : isN x = false) (k : isN y = false) : ford x y = some .lt ∨ ford x y = some .eq ∨ ford x y = some .gt := by
  have hs : (ford x y).isSome = true := by
    unfold isN Ieee.Datum.isNaN at h k
    unfold ford Ieee.Format.order
    cases hr : F64.read x with
    | nan s f => simp [hr] at h
    | number s m e => cases hq : F64.read y with
      | nan s f => simp [hq] at k
      | number s m e => simp [Ieee.Datum.order]
      | infinity s => simp [Ieee.Datum.order]
    | infinity s => cases hq : F64.read y with
      | nan s f => simp [hq] at k
      | number s m e => simp [Ieee.Datum.order]
      | infinity s => simp [Ieee.Datum.order]
  cases h1 : ford x y with
  | none => rw [h1] at hs; cases hs
  | some o => cases o <;> simp

theorem isN_zero : isN 0 = false := by decide +kernel
theorem isN_one : isN 4607182418800017408 = false := by decide +kernel
/-- The reference's test is the other's. -/
theorem clean_key (x : Nat) : ((ford x 0 == some .lt || (ford x 4607182418800017408 == some .gt || ford x 4607182418800017408 == some .eq)) || !(ford x x == some .eq)) = !okB x := by
  unfold okB
  rw [ford_self]
  cases h : isN x
  · rcases ford_three h isN_zero with k | k | k <;> rcases ford_three h isN_one with l | l | l <;> rw [k, l] <;> decide
  · rw [ord_nan_left h, ord_nan_left h]; decide

set_option maxRecDepth 100000 in
set_option maxHeartbeats 2000000 in
theorem rclean_any (x : Nat) (w : World) : Calls Try.prog 15 #[.float .f64 x] w fun e w' => e = .returned (.float .f64 (cleanF x)) ∧ w' = w := by
  have hk := clean_key x
  have hc : cleanF x = if okB x then x else 0 := rfl
  generalize okB x = ok at hk hc
  rw [hc]
  clear hc
  have hp : (FloatKind.f64.format.order x 0 == some .lt) = (ford x 0 == some .lt) := rfl
  have hq : (FloatKind.f64.format.order x 4607182418800017408 == some .gt) = (ford x 4607182418800017408 == some .gt) := rfl
  have hr : (FloatKind.f64.format.order x 4607182418800017408 == some .eq) = (ford x 4607182418800017408 == some .eq) := rfl
  have hs : (FloatKind.f64.format.order x x != some .eq) = !(ford x x == some .eq) := rfl
  generalize (ford x 0 == some .lt) = p at *
  generalize (ford x 4607182418800017408 == some .gt) = q at *
  generalize (ford x 4607182418800017408 == some .eq) = r at *
  generalize (ford x x == some .eq) = s at *
  cases p <;> cases q <;> cases r <;> cases s <;> cases ok <;> first | (exact absurd hk (by decide)) | skip
  all_goals
    clear hk
    go_enter Try.func15, Try.ntmps15
    go_wp2_with fail
    go_ret
    exact ⟨rfl, rfl⟩

/-- What is clean is a number from 0 on, below 1. -/
theorem clean_num (x : Nat) : Num (cleanF x) ∧ 0 ≤ val (cleanF x) ∧ val (cleanF x) < 1 := by
  unfold cleanF
  cases h : okB x
  · simp only [Bool.false_eq_true, if_false]
    exact ⟨num_zero, by rw [val_zero]; exact Rat.le_refl, by rw [val_zero]; decide⟩
  · simp only [if_true]
    unfold okB at h
    rw [Bool.and_eq_true, geB_eq] at h
    obtain ⟨h1, h2⟩ := h
    have hl : leB x 4607182418800017408 = true := by unfold leB; rw [h2]; rfl
    have hn : Num x := by
      obtain ⟨s, m, e, hr⟩ := num_w1
      obtain ⟨s', m', e', hr'⟩ := num_zero
      cases hx : F64.read x with
      | nan a b =>
        exfalso
        have : isN x = true := by unfold isN; rw [hx]; rfl
        have := (leB_not_nan hl).1
        simp_all
      | infinity a =>
        exfalso
        unfold w1 at hr
        unfold leB ford Ieee.Format.order at hl h1
        rw [hx, hr] at hl
        rw [hr', hx] at h1
        cases a
        · cases hl
        · cases h1
      | number a b c => exact ⟨a, b, c, hx⟩
    rw [leB_val num_zero hn, val_zero] at h1
    have h3 := lt_val hn num_w1
    unfold w1 at h3
    rw [h2] at h3
    have h4 := val_w1
    unfold w1 at h4
    rw [h4] at h3
    exact ⟨hn, of_decide_eq_true h1, of_decide_eq_true h3.symm⟩
theorem clean_zero : cleanF 0 = 0 := by decide +kernel
end Go.Proofs.Ytagehemimlakpaa

namespace Go.Proofs.Ytagehemimlakpaa.Fl
open Go.RowKit

def maxF (x y : Nat) : Nat := match ford x y with
  | none => qnan
  | some .lt => y
  | some .gt => x
  | some .eq => if (FloatKind.f64.decode x).neg then y else x
def minF (x y : Nat) : Nat := match ford x y with
  | none => qnan
  | some .lt => x
  | some .gt => y
  | some .eq => if (FloatKind.f64.decode x).neg then x else y
theorem isN_cut2 (b : Bool) (x y t : Nat) : isN (Question.cut (.nanMinMax .f64 b x y) t) = true := isN_cut x y t
theorem ord_none {x y : Nat} (h : ford x y = none) : isN x = true ∨ isN y = true := by
  cases hx : isN x
  · cases hy : isN y
    · obtain ⟨o, e⟩ := ford_some hx hy
      rw [e] at h
      cases h
    · exact .inr rfl
  · exact .inl rfl
section
variable {P : Program}
theorem max_pair (ts : Array TypeId) (t : TypeId) (x y : Nat) : Builtin.max_ ts t #[.float .f64 x, .float .f64 y] = Builtin.max2 (.float .f64 x) (.float .f64 y) := by
  simp [Builtin.max_]
theorem min_pair (ts : Array TypeId) (t : TypeId) (x y : Nat) : Builtin.min_ ts t #[.float .f64 x, .float .f64 y] = Builtin.min2 (.float .f64 x) (.float .f64 y) := by
  simp [Builtin.min_]
theorem run_max_ord (ts : Array TypeId) (t : TypeId) {x y : Nat} {o : Ordering} (h : ford x y = some o) (w : World) : (Builtin.max_ ts t #[.float .f64 x, .float .f64 y]).run P w = .ok (.float .f64 (maxF x y)) w := by
  rw [max_pair]
  unfold maxF Builtin.max2
  have h' : FloatKind.f64.format.order x y = some o := h
  rw [h]
  simp only [h']
  cases o <;> rfl
theorem run_min_ord (ts : Array TypeId) (t : TypeId) {x y : Nat} {o : Ordering} (h : ford x y = some o) (w : World) : (Builtin.min_ ts t #[.float .f64 x, .float .f64 y]).run P w = .ok (.float .f64 (minF x y)) w := by
  rw [min_pair]
  unfold minF Builtin.min2
  have h' : FloatKind.f64.format.order x y = some o := h
  rw [h]
  simp only [h']
  cases o <;> rfl
theorem run_max_nan (ts : Array TypeId) (t : TypeId) {x y : Nat} (h : ford x y = none) (w : World) : ∃ r n, (Builtin.max_ ts t #[.float .f64 x, .float .f64 y]).run P w = .ok (.float .f64 r) (w.drewN n) ∧ isN r = true := by
  have h' : FloatKind.f64.format.order x y = none := h
  refine ⟨Question.cut (.nanMinMax .f64 true x y) (w.tape w.drawn (.nanMinMax .f64 true x y)), 1, ?_, isN_cut2 _ _ _ _⟩
  rw [max_pair]
  unfold Builtin.max2
  simp only [h']
  simp [Question.forced]
  rfl
end
end Go.Proofs.Ytagehemimlakpaa.Fl

namespace Go.Proofs.Ytagehemimlakpaa
open Go.RowKit Fl

theorem ext51 (x : Nat) (w : World) : (callFunc 45 #[.float .f64 x]).run Try.prog w = .ok (.value (.int .u64 x)) w := by kernel_rfl

theorem ext50 (n : Int) (w : World) : (callFunc 44 #[.int .u64 n]).run Try.prog w = .ok (.value (.float .f64 n.toNat)) w := by kernel_rfl

theorem ext45 (x : Nat) (w : World) : (callFunc 28 #[.float .f64 x]).run Try.prog w = (Extern.MathSqrt.sqrt #[.float .f64 x] >>= fun v => pure (Next.value v)).run Try.prog w := by kernel_rfl

set_option maxRecDepth 100000 in
set_option maxHeartbeats 400000 in
theorem sqrt_any (x : Nat) (w : World) : Ret Try.prog 14 #[.float .f64 x] w (isF (fsqrt x)) := by
  unfold Ret
  go_enter Try.func14, Try.ntmps14
  go_wp2_with fail
  obtain ⟨r, n, e, hr⟩ := run_sqrt (P := Try.prog) x w
  rw [ext45, Sem.run_bind, e]
  clear e
  go_wp2_with fail
  go_ret
  exact ⟨_, rfl, ⟨r, rfl, hr⟩, below_dr (Below.refl _ _) n⟩

set_option maxRecDepth 100000 in
set_option maxHeartbeats 400000 in
theorem abs_any (x : Nat) (w : World) : Calls Try.prog 42 #[.float .f64 x] w fun e w' => e = .returned (.float .f64 (fabs x)) ∧ w' = w := by
  go_enter Try.func42, Try.ntmps42
  have e1 := ext51
  have e2 := ext50
  go_wp2_with fail
  go_ret
  exact ⟨by rw [← andNot_sign]; rfl, rfl⟩

theorem ord_nan_self (x : Nat) : (F64.order x x != some .eq) = isN x := by
  have := ford_self x
  unfold ford at this
  rw [bne, this, Bool.not_not]

set_option maxRecDepth 100000 in
set_option maxHeartbeats 400000 in
theorem isnan_any (x : Nat) (w : World) : Calls Try.prog 32 #[.float .f64 x] w fun e w' => e = .returned (.bool (isN x)) ∧ w' = w := by
  go_enter Try.func32, Try.ntmps32
  go_wp2_with fail
  go_ret
  exact ⟨by rw [← ord_nan_self]; rfl, rfl⟩

set_option maxRecDepth 100000 in
set_option maxHeartbeats 400000 in
theorem isinf_any (x : Nat) (w : World) : Calls Try.prog 33 #[.float .f64 x, .int .i64 0] w fun e w' => e = .returned (.bool (infB x)) ∧ w' = w := by
  go_enter Try.func33, Try.ntmps33
  go_wp2_with fail
  refine (abs_any _ _).mono ?_
  rintro e w' ⟨rfl, hw⟩
  obtain rfl := hw.symm
  go_wp2_with fail
  go_ret
  exact ⟨rfl, rfl⟩

set_option maxRecDepth 100000 in
set_option maxHeartbeats 400000 in
theorem number_any (x : Nat) (w : World) : Calls Try.prog 22 #[.float .f64 x] w fun e w' => e = .returned (.bool (numB x)) ∧ w' = w := by
  unfold numB
  have HN : Hid _ := isnan_any x
  have HI : Hid _ := isinf_any x
  generalize isN x = p at HN ⊢
  generalize infB x = q at HI ⊢
  cases p <;> cases q <;>
  · go_enter Try.func22, Try.ntmps22
    go_wp2_with fail
    refine Calls.mono (HN.out _) ?_
    rintro e w' ⟨rfl, hw⟩
    obtain rfl := hw.symm
    go_wp2_with fail
    try
      refine Calls.mono (HI.out _) ?_
      rintro e w' ⟨rfl, hw⟩
      obtain rfl := hw.symm
      go_wp2_with fail
    go_ret
    exact ⟨rfl, rfl⟩
end Go.Proofs.Ytagehemimlakpaa

namespace Go.Proofs.Ytagehemimlakpaa
open Go.RowKit Fl

abbrev dotR (ax ay az bx bY bz : Nat) : Nat := fadd (fadd (fmul ax bx) (fmul ay bY)) (fmul az bz)

set_option maxRecDepth 100000 in
set_option maxHeartbeats 1000000 in
theorem rsame_any (x y : Nat) (w : World) : Calls Try.prog 23 #[.float .f64 x, .float .f64 y] w fun e w' => e = .returned (.bool (sameB x y)) ∧ w' = w := by
  unfold sameB
  have hp : (FloatKind.f64.format.order x y == some .eq) = (ford x y == some .eq) := rfl
  have hq : (FloatKind.f64.format.order x x != some .eq) = (ford x x != some .eq) := rfl
  have hs : (FloatKind.f64.format.order y y != some .eq) = (ford y y != some .eq) := rfl
  generalize (ford x y == some .eq) = p at hp ⊢
  generalize (ford x x != some .eq) = q at hq ⊢
  generalize (ford y y != some .eq) = s at hs ⊢
  cases p <;> cases q <;> cases s <;>
  · go_enter Try.func23, Try.ntmps23
    go_wp2_with fail
    go_ret
    exact ⟨rfl, rfl⟩

theorem ord_sub (x r : Nat) (h : Eqv r (fsub x x)) : (F64.order r 0 == some .eq) = numB x := by
  rw [← num_sub, ← ford_congr h.sm (Sm.refl 0)]; rfl

set_option maxRecDepth 100000 in
set_option maxHeartbeats 1000000 in
theorem rnumber_any (x : Nat) (w : World) : Calls Try.prog 25 #[.float .f64 x] w fun e w' => e = .returned (.bool (numB x)) ∧ ∃ n, w' = w.drewN n := by
  go_enter Try.func25, Try.ntmps25
  go_wp2_with fail
  refine upon_sub (Sm.refl _) (Sm.refl _) ?_
  intro r1 n1 h1
  go_wp2_with fail
  go_ret
  exact ⟨by rw [← ord_sub x r1 h1]; rfl, n1, rfl⟩

end Go.Proofs.Ytagehemimlakpaa

namespace Go.Proofs.Ytagehemimlakpaa
open Go.RowKit Fl

set_option maxRecDepth 100000 in
set_option maxHeartbeats 1000000 in
theorem rnumber_z (x : Nat) (w : World) : Calls Try.prog 25 #[.float .f64 x] w fun e w' => e = .returned (.bool (numB x)) ∧ Below w.heap.size w w' := by
  go_enter Try.func25, Try.ntmps25
  go_wp2_with fail
  refine upon_sub (Sm.refl _) (Sm.refl _) ?_
  intro r1 n1 h1
  go_wp2_with fail
  go_ret
  exact ⟨by rw [← ord_sub x r1 h1]; rfl, below_dr (Below.refl _ _) _⟩

/-- Whether a number is not below 0. -/
def geZ (x : Nat) : Bool := ford x 0 == some .gt || ford x 0 == some .eq
/-- A number without its sign, as the reference has it. -/
def absR (x : Nat) : Nat := if geZ x || isN x then x else fsub 0 x
theorem sub_zero_some {x : Nat} (h : isN x = false) : F64.sub 0 x = some (fsub 0 x) := by
  unfold fsub
  cases hs : F64.sub 0 x with
  | some r => rfl
  | none =>
    exfalso
    unfold Ieee.Format.sub at hs
    unfold isN at h
    rw [read_zero] at hs
    cases hx : F64.read x with
    | nan s f => rw [hx] at h; exact absurd h (by simp [Ieee.Datum.isNaN])
    | infinity s => rw [hx] at hs; simp [Ieee.Datum.opposite, Ieee.Datum.sum] at hs
    | number s m e => rw [hx] at hs; simp [Ieee.Datum.opposite, Ieee.Datum.sum] at hs

set_option maxRecDepth 100000 in
set_option maxHeartbeats 1000000 in
theorem rabs_any (x : Nat) (w : World) : Calls Try.prog 34 #[.float .f64 x] w fun e w' => e = .returned (.float .f64 (absR x)) ∧ w' = w := by
  have hs : isN x = false → ∀ w, (binOp .sub 22 (.float .f64 0) (.float .f64 x)).run Try.prog w = .ok (.float .f64 (fsub 0 x)) w := fun h w => run_float_arith w .sub 22 .f64 0 x _ (sub_zero_some h)
  unfold absR
  have hg : (FloatKind.f64.format.order x 0 == some .gt || FloatKind.f64.format.order x 0 == some .eq) = geZ x := rfl
  have hn : (FloatKind.f64.format.order x x != some .eq) = isN x := ord_nan_self x
  generalize geZ x = g at *
  generalize isN x = n at *
  cases n
  · replace hs := hs rfl
    cases g <;>
    · go_enter Try.func34, Try.ntmps34
      go_wp2_with fail
      go_ret
      exact ⟨rfl, rfl⟩
  · clear hs
    cases g <;>
    · go_enter Try.func34, Try.ntmps34
      go_wp2_with fail
      go_ret
      exact ⟨rfl, rfl⟩

/-- Whether a direction is nearer to the Y axis. -/
def steepB (x y : Nat) : Bool := ford (fabs x) (fabs y) == some .lt
/-- The sector of a direction. -/
def sideN (x y : Nat) : Int :=
  if isN x || isN y then 7
  else if geZ x && geZ y then (if steepB x y then 1 else 0)
  else if geZ y then 3 - (if steepB x y then 1 else 0)
  else if ford x 0 == some .lt then 4 + (if steepB x y then 1 else 0)
  else 7 - (if steepB x y then 1 else 0)

end Go.Proofs.Ytagehemimlakpaa

namespace Go.Proofs.Ytagehemimlakpaa.Fl

theorem read_high {x : Nat} {s : Bool} {m : Nat} {e : Int} (h : F64.read x = .number s m e) : e = -1074 ∨ 4503599627370496 ≤ m := by
  unfold Ieee.Format.read at h
  simp only [sw, bn, ir, lp] at h
  generalize x % 9223372036854775808 = r at *
  split at h
  · injection h with _ _ h2; exact .inl h2.symm
  · split at h
    · injection h with _ h1 h2; exact .inr (by omega)
    · split at h <;> cases h
theorem place_uniq {m n : Nat} {i j : Int} (hm : m ≤ 9007199254740991) (hj : j = -1074 ∨ 4503599627370496 ≤ n) (hi : -1074 ≤ i) (hn : 0 < n) (h : (m : Rat) * 2 ^ i = n * 2 ^ j) : j ≤ i := by
  rcases Int.lt_or_le i j with k | k
  · exfalso
    have hn2 : 4503599627370496 ≤ n := by omega
    have e : (2 : Rat) ^ j = 2 ^ (j - i) * 2 ^ i := by rw [← p2_add]; congr 1; omega
    have p := p2_pos i
    have l := p2_le (show (1 : Int) ≤ j - i by omega)
    have z : (2 : Rat) ^ (1 : Int) = 2 := by decide +kernel
    rw [z] at l
    rw [e] at h
    have hm2 : (m : Rat) ≤ 9007199254740991 := by exact_mod_cast hm
    have hn3 : (4503599627370496 : Rat) ≤ n := by exact_mod_cast hn2
    generalize (2 : Rat) ^ (j - i) = q at *
    generalize (2 : Rat) ^ i = r at *
    have p1 := Rat.mul_nonneg (show (0 : Rat) ≤ n - 4503599627370496 by grind) (show (0 : Rat) ≤ q - 2 by grind)
    have p2 : (9007199254740992 : Rat) ≤ n * q := by grind
    have p3 := Rat.mul_pos (show (0 : Rat) < n * q - m by grind) p
    grind
  · exact k
theorem read_same {x y : Nat} (hx : Num x) (hy : Num y) (h : val x = val y) (h0 : val x ≠ 0) : F64.read x = F64.read y := by
  obtain ⟨s, m, i, rx⟩ := hx
  obtain ⟨t, n, j, ry⟩ := hy
  have vx : val x = sg s ((m : Rat) * 2 ^ i) := by unfold val; rw [rx, dval_number]
  have vy : val y = sg t ((n : Rat) * 2 ^ j) := by unfold val; rw [ry, dval_number]
  obtain ⟨bx, _⟩ := number_bounds rx
  obtain ⟨bY, _⟩ := number_bounds ry
  have lx := read_low rx
  have ly := read_low ry
  have ux := read_high rx
  have uy := read_high ry
  rw [vx] at h h0
  rw [vy] at h
  have m0 : m ≠ 0 := by
    rintro rfl
    apply h0
    have z : ((0 : Nat) : Rat) * 2 ^ i = 0 := Rat.zero_mul _
    rw [z]; cases s <;> simp [sg]
  have n0 : n ≠ 0 := by
    rintro rfl
    apply h0
    rw [h]
    have z : ((0 : Nat) : Rat) * 2 ^ j = 0 := Rat.zero_mul _
    rw [z]; cases t <;> simp [sg]
  have pm : (0 : Rat) < m * 2 ^ i := Rat.mul_pos (by exact_mod_cast Nat.pos_of_ne_zero m0) (p2_pos i)
  have pn : (0 : Rat) < n * 2 ^ j := Rat.mul_pos (by exact_mod_cast Nat.pos_of_ne_zero n0) (p2_pos j)
  have hs : s = t ∧ (m : Rat) * 2 ^ i = n * 2 ^ j := by
    cases s <;> cases t <;> simp only [sg, if_true, Bool.false_eq_true, if_false] at h
    · exact ⟨rfl, h⟩
    · exfalso; grind
    · exfalso; grind
    · exact ⟨rfl, by grind⟩
  obtain ⟨rfl, h2⟩ := hs
  have e1 := place_uniq bx uy lx (Nat.pos_of_ne_zero n0) h2
  have e2 := place_uniq bY ux ly (Nat.pos_of_ne_zero m0) h2.symm
  obtain rfl : i = j := by omega
  have e3 : (m : Rat) = n := by
    have p := p2_pos i
    have q : ((m : Rat) - n) * 2 ^ i = 0 := by grind
    rcases Rat.mul_eq_zero.1 q with a | a
    · grind
    · grind
  have e4 : m = n := by exact_mod_cast e3
  subst e4
  rw [rx, ry]
theorem fsqrt_read {x y : Nat} (h : F64.read x = F64.read y) : fsqrt x = fsqrt y := by unfold fsqrt Ieee.Format.sqrt; rw [h]
theorem fdiv_read {x y u v : Nat} (h : F64.read x = F64.read u) (k : F64.read y = F64.read v) : fdiv x y = fdiv u v := by unfold fdiv Ieee.Format.div; rw [h, k]
theorem fmul_read {x y u v : Nat} (h : F64.read x = F64.read u) (k : F64.read y = F64.read v) : fmul x y = fmul u v := by unfold fmul Ieee.Format.mul; rw [h, k]
theorem zero_read {x : Nat} (hx : Num x) (h : val x = 0) : ∃ s e, F64.read x = .number s 0 e := by
  obtain ⟨s, m, i, rx⟩ := hx
  by_cases m0 : m = 0
  · subst m0; exact ⟨s, i, rx⟩
  · exfalso
    have := num_sign rx m0
    cases s <;> simp only [if_true, Bool.false_eq_true, if_false] at this <;> grind
theorem sqrt_zero {x : Nat} (hx : Num x) (h : val x = 0) : Num (fsqrt x) ∧ val (fsqrt x) = 0 := by
  obtain ⟨s, e, hr⟩ := zero_read hx h
  have : fsqrt x = F64.nearest s 0 e := by
    unfold fsqrt Ieee.Format.sqrt
    rw [hr]
    simp [Ieee.Datum.root]
    rfl
  rw [this]
  exact nearest_zero s e
theorem sqrt_same {x y : Nat} (hx : Num x) (hy : Num y) (h0 : 0 ≤ val x) (h4 : val x ≤ 4) (h : val x = val y) : Num (fsqrt x) ∧ Num (fsqrt y) ∧ val (fsqrt x) = val (fsqrt y) := by
  by_cases hz : val x = 0
  · obtain ⟨a, b⟩ := sqrt_zero hx hz
    obtain ⟨c, d⟩ := sqrt_zero hy (by grind)
    exact ⟨a, c, by rw [b, d]⟩
  · have e := fsqrt_read (read_same hx hy h hz)
    obtain ⟨a, _⟩ := sqrt_ab hx h0 h4
    exact ⟨a, e ▸ a, by rw [e]⟩
theorem mul_same {x y u v : Nat} (hx : Num x) (hy : Num y) (hu : Num u) (hv : Num v) (h : val x * val y = val u * val v) (hn : Num (fmul u v)) : Num (fmul x y) ∧ val (fmul x y) = val (fmul u v) :=
  num_between hn (mul_mono hx hy hu hv (rat_le_of_eq h)) (mul_mono hu hv hx hy (rat_le_of_eq h.symm))
theorem sub_same {x y u v : Nat} (hx : Num x) (hy : Num y) (hu : Num u) (hv : Num v) (h : val x - val y = val u - val v) (hn : Num (fsub u v)) : Num (fsub x y) ∧ val (fsub x y) = val (fsub u v) :=
  num_between hn (sub_mono hx hy hu hv (rat_le_of_eq h)) (sub_mono hu hv hx hy (rat_le_of_eq h.symm))
theorem fmul_comm {x y : Nat} (hx : Num x) (hy : Num y) : fmul x y = fmul y x := by
  obtain ⟨s, m, i, rx⟩ := hx
  obtain ⟨t, n, j, ry⟩ := hy
  unfold fmul Ieee.Format.mul
  rw [rx, ry]
  simp only [Ieee.Datum.product]
  rw [Bool.xor_comm, Nat.mul_comm, Int.add_comm]
/-- A comparison that is true of equal numbers. -/
theorem eq_true' {x y : Nat} (hx : Num x) (hy : Num y) (h : val x = val y) : (FloatKind.f64.format.order x y == some .eq) = true := by
  have := ord_eq hx hy h
  unfold ford at this
  rw [this]; rfl
theorem eq_self {x : Nat} (h : Num x) : (FloatKind.f64.format.order x x == some .eq) = true := eq_true' h h rfl
end Go.Proofs.Ytagehemimlakpaa.Fl

namespace Go.Proofs.Ytagehemimlakpaa.Fl

theorem num_fin {x : Nat} (h : Num x) : numB x = true := by
  obtain ⟨s, m, e, hr⟩ := h
  unfold numB
  rw [not_nan_num ⟨s, m, e, hr⟩, not_inf hr]
  rfl
theorem not_fin_inf {x : Nat} {s : Bool} (h : F64.read x = .infinity s) : numB x = false := by
  unfold numB
  rw [is_inf h]
  simp
theorem not_fin_nan {x : Nat} (h : isN x = true) : numB x = false := by
  unfold numB
  rw [h]
  rfl
/-- What is no NaN is a number or infinite. -/
theorem num_or_inf {x : Nat} (h : isN x = false) : Num x ∨ ∃ s, F64.read x = .infinity s := by
  cases hr : F64.read x with
  | nan s f => exfalso; unfold isN at h; rw [hr] at h; exact absurd h (by simp [Ieee.Datum.isNaN])
  | infinity s => exact .inr ⟨s, rfl⟩
  | number s m e => exact .inl ⟨_, _, _, hr⟩
theorem ge_num {x : Nat} (h : Num x) : geZ x = decide (0 ≤ val x) := by
  show (ford x 0 == some .gt || ford x 0 == some .eq) = _
  rw [geB_eq, leB_val num_zero h, val_zero]

theorem abs_num {x : Nat} (hx : Num x) : Num (fabs x) ∧ Num (absR x) ∧ val (fabs x) = val (absR x) ∧ 0 ≤ val (fabs x) ∧ (val (fabs x) = val x ∨ val (fabs x) = -val x) := by
  have hn := not_nan_num hx
  have hg := ge_num hx
  obtain ⟨nn, vn⟩ := neg_val hx
  have hx0 := hx
  obtain ⟨s, m, e, hr⟩ := hx
  have ra := read_abs x
  rw [hr] at ra
  have va : val (fabs x) = (m : Rat) * 2 ^ e := by unfold val; rw [ra]; rfl
  have vx : val x = sg s ((m : Rat) * 2 ^ e) := by unfold val; rw [hr, dval_number]
  have p := mag_nonneg m e
  have h0 : 0 ≤ val (fabs x) := by rw [va]; exact p
  unfold absR
  rw [hn, Bool.or_false, hg]
  by_cases k : 0 ≤ val x
  · rw [decide_eq_true k]
    have e1 : val (fabs x) = val x := by
      rw [va, vx]
      cases s
      · rfl
      · rw [vx] at k
        simp only [sg, if_true] at k ⊢
        grind
    exact ⟨⟨_, _, _, ra⟩, hx0, e1, h0, .inl e1⟩
  · rw [decide_eq_false k]
    have e1 : val (fabs x) = -val x := by
      rw [va, vx]
      rw [vx] at k
      cases s <;> simp only [sg, if_true, Bool.false_eq_true, if_false] at k ⊢
      · exact absurd p k
      · grind
    exact ⟨⟨_, _, _, ra⟩, nn, by simp only [Bool.false_eq_true, if_false]; rw [vn, e1], h0, .inr e1⟩
theorem abs_inf {x : Nat} {s : Bool} (h : F64.read x = .infinity s) : F64.read (fabs x) = .infinity false ∧ F64.read (absR x) = .infinity false := by
  have ra := read_abs x
  rw [h] at ra
  refine ⟨ra, ?_⟩
  have hn := not_nan_inf h
  unfold absR
  rw [hn, Bool.or_false]
  cases s
  · have : geZ x = true := by
      unfold geZ ford Ieee.Format.order
      rw [h, read_zero]
      rfl
    rw [this]
    exact h
  · have : geZ x = false := by
      unfold geZ ford Ieee.Format.order
      rw [h, read_zero]
      rfl
    rw [this]
    simp only [Bool.false_eq_true, if_false]
    unfold fsub Ieee.Format.sub
    rw [h, read_zero]
    exact write_inf false
theorem abs_nan {x : Nat} (h : isN x = true) : isN (fabs x) = true ∧ isN (absR x) = true := by
  obtain ⟨s, f, hr⟩ := read_nan h
  have ra := read_abs x
  rw [hr] at ra
  refine ⟨by unfold isN; rw [ra]; rfl, ?_⟩
  unfold absR
  rw [h, Bool.or_true]
  exact h
/-- Equal numbers stand alike to equal numbers. -/
theorem ord_same {a b c d : Nat} (ha : Num a) (hb : Num b) (hc : Num c) (hd : Num d) (h : val a = val c) (k : val b = val d) : ford a b = ford c d := by
  obtain ⟨p, e⟩ := ford_some (not_nan_num ha) (not_nan_num hb)
  obtain ⟨q, f⟩ := ford_some (not_nan_num hc) (not_nan_num hd)
  have l1 := lt_val ha hb
  have l2 := lt_val hc hd
  have g1 := gt_val ha hb
  have g2 := gt_val hc hd
  rw [h, k] at l1 g1
  rw [← l2, e, f] at l1
  rw [← g2, e, f] at g1
  rw [e, f]
  cases p <;> cases q <;> first | rfl | (exact absurd l1 (by decide)) | (exact absurd g1 (by decide))
theorem ord_abs {x y : Nat} (hx : isN x = false) (hy : isN y = false) : ford (absR x) (absR y) = ford (fabs x) (fabs y) := by
  rcases num_or_inf hx with nx | ⟨s, ix⟩
  · obtain ⟨a1, a2, a3, _, _⟩ := abs_num nx
    rcases num_or_inf hy with ny | ⟨t, iy⟩
    · obtain ⟨b1, b2, b3, _, _⟩ := abs_num ny
      exact ord_same a2 b2 a1 b1 a3.symm b3.symm
    · obtain ⟨j1, j2⟩ := abs_inf iy
      obtain ⟨_, _, _, r1⟩ := a1
      obtain ⟨_, _, _, r2⟩ := a2
      unfold ford Ieee.Format.order
      rw [j1, j2, r1, r2]
      rfl
  · obtain ⟨i1, i2⟩ := abs_inf ix
    rcases num_or_inf hy with ny | ⟨t, iy⟩
    · obtain ⟨b1, b2, _, _, _⟩ := abs_num ny
      obtain ⟨_, _, _, r1⟩ := b1
      obtain ⟨_, _, _, r2⟩ := b2
      unfold ford Ieee.Format.order
      rw [i1, i2, r1, r2]
      rfl
    · obtain ⟨j1, j2⟩ := abs_inf iy
      unfold ford Ieee.Format.order
      rw [i1, i2, j1, j2]

theorem fdiv_self {m : Nat} (hm : Num m) (m0 : 0 < val m) : fdiv m m = w1 := by
  obtain ⟨s, n, j, hr⟩ := hm
  have vm : val m = sg s ((n : Rat) * 2 ^ j) := by unfold val; rw [hr, dval_number]
  have p := mag_nonneg n j
  have n0 : n ≠ 0 := by
    rintro rfl
    rw [vm] at m0
    have z : ((0 : Nat) : Rat) * 2 ^ j = 0 := Rat.zero_mul _
    rw [z] at m0
    cases s <;> simp [sg] at m0 <;> exact absurd m0 (by decide)
  have hs : s = false := by
    cases s
    · rfl
    · exfalso
      rw [vm] at m0
      simp only [sg, if_true] at m0
      grind
  subst hs
  rw [div_form hr hr n0]
  have e1 : 54 + n.log2 - n.log2 = 54 := by omega
  rw [e1, Nat.mul_div_cancel_left _ (Nat.pos_of_ne_zero n0), Nat.mul_mod_right]
  rw [show j - j - ((54 : Nat) : Int) - 1 = -55 by omega]
  decide +kernel
theorem fdiv_zero {m : Nat} (hm : Num m) (m0 : 0 < val m) : fdiv 0 m = 0 := by
  obtain ⟨s, n, j, hr⟩ := hm
  have vm : val m = sg s ((n : Rat) * 2 ^ j) := by unfold val; rw [hr, dval_number]
  have p := mag_nonneg n j
  have n0 : n ≠ 0 := by
    rintro rfl
    rw [vm] at m0
    have z : ((0 : Nat) : Rat) * 2 ^ j = 0 := Rat.zero_mul _
    rw [z] at m0
    cases s <;> simp [sg] at m0 <;> exact absurd m0 (by decide)
  have hs : s = false := by
    cases s
    · rfl
    · exfalso
      rw [vm] at m0
      simp only [sg, if_true] at m0
      grind
  subst hs
  rw [div_form read_zero hr n0]
  rw [Nat.zero_mul, Nat.zero_div, Nat.zero_mod]
  have e : 2 * 0 + ((0 : Nat) != 0).toNat = 0 := rfl
  rw [e]
  unfold Ieee.Format.nearest
  rw [if_pos rfl]
  decide +kernel
/-- A quotient of a lesser number by a greater one. -/
theorem div_unit {l m : Nat} (hl : Num l) (hm : Num m) (l0 : 0 ≤ val l) (h : val l ≤ val m) (m0 : 0 < val m) : Num (fdiv l m) ∧ 0 ≤ val (fdiv l m) ∧ val (fdiv l m) ≤ 1 := by
  have a := div_mono num_zero hl hm m0 (by rw [val_zero]; exact Rat.le_refl) (by rw [val_zero]; exact l0)
  have b := div_mono hl hm hm m0 l0 h
  rw [fdiv_zero hm m0] at a
  rw [fdiv_self hm m0] at b
  have n1 : Nn w1 := .inl ⟨num_w1, by rw [val_w1]; decide⟩
  rcases Nn.cases n1 b (nn_of_le a) with i | ⟨n, _, x, y⟩
  · obtain ⟨s, k, e, r⟩ := num_w1
    rw [r] at i
    cases i
  · exact ⟨n, x, by rw [val_w1] at y; exact y⟩
theorem div_same {l m k n : Nat} (hl : Num l) (hm : Num m) (hk : Num k) (hn : Num n) (l0 : 0 ≤ val l) (h : val l ≤ val m) (m0 : 0 < val m) (e : val l = val k) (f : val m = val n) : val (fdiv l m) = val (fdiv k n) := by
  have em : F64.read m = F64.read n := read_same hm hn f (by grind)
  by_cases z : val l = 0
  · obtain ⟨a1, a2, _⟩ := div_unit hl hm l0 h m0
    obtain ⟨b1, b2, _⟩ := div_unit hk hn (by grind) (by grind) (by grind)
    have c := div_mono hl num_zero hm m0 l0 (by rw [val_zero]; grind)
    have d := div_mono hk num_zero hn (by grind) (by grind) (by rw [val_zero]; grind)
    rw [fdiv_zero hm m0, leB_val a1 num_zero, val_zero] at c
    rw [fdiv_zero hn (by grind), leB_val b1 num_zero, val_zero] at d
    have c' := of_decide_eq_true c
    have d' := of_decide_eq_true d
    grind
  · rw [fdiv_read (read_same hl hk e z) em]
/-- The densities of equal places. -/
theorem dens_same {f g : Nat} (hf : Num f) (hg : Num g) (f0 : 0 ≤ val f) (f1 : val f ≤ 1) (h : val f = val g) : Num (fmul f f) ∧ Num (secQ f) ∧ Num (densF f) ∧ Num (fmul g g) ∧ Num (secQ g) ∧ Num (densF g) ∧ val (densF f) = val (densF g) := by
  have a := (unit_mul hf hf f0 f1 f0 f1).1
  have b := (unit_mul hg hg (by grind) (by grind) (by grind) (by grind)).1
  have sf := (sec_vals hf f0 f1).nq
  have sg := (sec_vals hg (by grind) (by grind)).nq
  have df := (dens_range hf f0 f1).1
  have dg := (dens_range hg (by grind) (by grind)).1
  obtain ⟨_, e1⟩ := mul_same hf hf hg hg (by rw [h]) b
  have e2 : val (secQ f) = val (secQ g) := (num_between sg (add_mono num_w1 a num_w1 b (by rw [e1]; exact Rat.le_refl)) (add_mono num_w1 b num_w1 a (by rw [e1]; exact Rat.le_refl))).2
  obtain ⟨_, e3⟩ := mul_same sf num_eighth sg num_eighth (by rw [e2]) dg
  exact ⟨a, sf, df, b, sg, dg, e3⟩

/-- How far, of two numbers without signs: the code's way. -/
def shareF (a b : Nat) : Nat := if numB a && numB b && !(ford (maxF a b) 0 == some .eq) then fdiv (minF a b) (maxF a b) else 0
/-- The reference's way. -/
def shareR (a b : Nat) : Nat := if numB a && numB b && !(ford a 0 == some .eq && ford b 0 == some .eq) then (if ford a b == some .lt then fdiv a b else fdiv b a) else 0
/-- The greater and the lesser of two that are not below 0. -/
theorem pick_two {a b : Nat} (ha : F64.read a ≠ .nan true 0 ∧ ∃ d, F64.read a = d ∧ d.neg = false) (hb : isN b = false) (ha' : isN a = false) : maxF a b = (if ford a b == some .lt then b else a) ∧ minF a b = (if ford a b == some .lt then a else b) := by
  obtain ⟨_, d, hd, hn⟩ := ha
  obtain ⟨o, ho⟩ := ford_some ha' hb
  have hneg : (FloatKind.f64.decode a).neg = false := by
    show (F64.read a).neg = false
    rw [hd]; exact hn
  unfold maxF minF
  rw [ho]
  cases o
  · exact ⟨rfl, rfl⟩
  · simp only [hneg, Bool.false_eq_true, if_false]; exact ⟨rfl, rfl⟩
  · exact ⟨rfl, rfl⟩
theorem abs_pos (x : Nat) : ∃ d, F64.read (fabs x) = d ∧ d.neg = false := by
  refine ⟨_, rfl, ?_⟩
  rw [read_abs]
  cases F64.read x <;> rfl
theorem abs_pick {x y : Nat} (hx : isN x = false) (hy : isN y = false) : maxF (fabs x) (fabs y) = (if steepB x y then fabs y else fabs x) ∧ minF (fabs x) (fabs y) = (if steepB x y then fabs x else fabs y) := by
  have nx : isN (fabs x) = false := by
    rcases num_or_inf hx with h | ⟨s, h⟩
    · exact not_nan_num (abs_num h).1
    · exact not_nan_inf (abs_inf h).1
  have ny : isN (fabs y) = false := by
    rcases num_or_inf hy with h | ⟨s, h⟩
    · exact not_nan_num (abs_num h).1
    · exact not_nan_inf (abs_inf h).1
  refine pick_two ⟨?_, abs_pos x⟩ ny nx
  intro h
  unfold isN at nx
  rw [h] at nx
  exact absurd nx (by simp [Ieee.Datum.isNaN])
/-- Whether the greater of both is a number. -/
theorem max_fin {x y : Nat} (hx : isN x = false) (hy : isN y = false) : numB (maxF (fabs x) (fabs y)) = (numB (fabs x) && numB (fabs y)) := by
  rw [(abs_pick hx hy).1]
  rcases num_or_inf hx with nx | ⟨s, ix⟩
  · obtain ⟨a1, _⟩ := abs_num nx
    rcases num_or_inf hy with ny | ⟨t, iy⟩
    · obtain ⟨b1, _⟩ := abs_num ny
      rw [num_fin a1, num_fin b1]
      split
      · exact num_fin b1
      · exact num_fin a1
    · obtain ⟨j1, _⟩ := abs_inf iy
      have : steepB x y = true := by
        obtain ⟨_, _, _, r1⟩ := a1
        unfold steepB ford Ieee.Format.order
        rw [r1, j1]
        rfl
      rw [this, not_fin_inf j1, Bool.and_false]
      exact not_fin_inf j1
  · obtain ⟨i1, _⟩ := abs_inf ix
    rw [not_fin_inf i1, Bool.false_and]
    rcases num_or_inf hy with ny | ⟨t, iy⟩
    · obtain ⟨b1, _⟩ := abs_num ny
      have : steepB x y = false := by
        obtain ⟨_, _, _, r1⟩ := b1
        unfold steepB ford Ieee.Format.order
        rw [r1, i1]
        rfl
      rw [this]
      exact not_fin_inf i1
    · obtain ⟨j1, _⟩ := abs_inf iy
      split
      · exact not_fin_inf j1
      · exact not_fin_inf i1
/-- What the quotient is of, and that both ways tell one number. -/
theorem share_good {x y : Nat} (nx : Num x) (ny : Num y) (h : ford (maxF (fabs x) (fabs y)) 0 ≠ some .eq) :
    (Num (maxF (fabs x) (fabs y)) ∧ Num (minF (fabs x) (fabs y)) ∧ 0 < val (maxF (fabs x) (fabs y)) ∧ 0 ≤ val (minF (fabs x) (fabs y)) ∧ val (minF (fabs x) (fabs y)) ≤ val (maxF (fabs x) (fabs y))) := by
  obtain ⟨a1, a2, a3, a4, _⟩ := abs_num nx
  obtain ⟨b1, b2, b3, b4, _⟩ := abs_num ny
  obtain ⟨e1, e2⟩ := abs_pick (not_nan_num nx) (not_nan_num ny)
  rw [e1] at h
  rw [e1, e2]
  have l := lt_val a1 b1
  have l' : steepB x y = decide (val (fabs x) < val (fabs y)) := l
  rw [l'] at h ⊢
  by_cases k : val (fabs x) < val (fabs y)
  · rw [decide_eq_true k]
    simp only [if_true]
    exact ⟨b1, a1, by grind, a4, by grind⟩
  · rw [decide_eq_false k] at h ⊢
    simp only [Bool.false_eq_true, if_false] at h ⊢
    refine ⟨a1, b1, ?_, b4, by grind⟩
    have : val (fabs x) ≠ 0 := fun z => h (ord_eq a1 num_zero (by rw [val_zero, z]))
    grind
theorem share_same (x y : Nat) : Num (shareF (fabs x) (fabs y)) ∧ Num (shareR (absR x) (absR y)) ∧ 0 ≤ val (shareF (fabs x) (fabs y)) ∧ val (shareF (fabs x) (fabs y)) ≤ 1 ∧ val (shareF (fabs x) (fabs y)) = val (shareR (absR x) (absR y)) := by
  have bad : ∀ a b c d : Nat, (numB a && numB b) = false → (numB c && numB d) = false → Num (shareF a b) ∧ Num (shareR c d) ∧ 0 ≤ val (shareF a b) ∧ val (shareF a b) ≤ 1 ∧ val (shareF a b) = val (shareR c d) := by
    intro a b c d h k
    unfold shareF shareR
    rw [h, k, Bool.false_and, Bool.false_and]
    simp only [Bool.false_eq_true, if_false]
    exact ⟨num_zero, num_zero, by rw [val_zero]; exact Rat.le_refl, by rw [val_zero]; decide, by first | trivial | rfl⟩
  cases hx : isN x
  · cases hy : isN y
    · rcases num_or_inf hx with nx | ⟨s, ix⟩
      · rcases num_or_inf hy with ny | ⟨t, iy⟩
        · obtain ⟨a1, a2, a3, a4, _⟩ := abs_num nx
          obtain ⟨b1, b2, b3, b4, _⟩ := abs_num ny
          have hz : (ford (absR x) 0 == some .eq && ford (absR y) 0 == some .eq) = (ford (maxF (fabs x) (fabs y)) 0 == some .eq) := by
            rw [ord_same a2 num_zero a1 num_zero a3.symm rfl, ord_same b2 num_zero b1 num_zero b3.symm rfl, (abs_pick hx hy).1]
            have l' : steepB x y = decide (val (fabs x) < val (fabs y)) := lt_val a1 b1
            rw [l']
            have eqv : ∀ c, Num c → (ford c 0 == some .eq) = decide (val c = 0) := by
              intro c hc
              by_cases z : val c = 0
              · rw [decide_eq_true z, ord_eq hc num_zero (by rw [val_zero, z])]; rfl
              · rw [decide_eq_false z]
                obtain ⟨o, ho⟩ := ford_some (not_nan_num hc) (not_nan_num num_zero)
                have l := lt_val hc num_zero
                have g := gt_val hc num_zero
                rw [ho, val_zero] at l g
                rw [ho]
                cases o
                · rfl
                · exfalso
                  have l' := of_decide_eq_false l.symm
                  have g' := of_decide_eq_false g.symm
                  grind
                · rfl
            by_cases k : val (fabs x) < val (fabs y)
            · rw [decide_eq_true k]
              simp only [if_true]
              rw [eqv _ a1, eqv _ b1]
              have : val (fabs y) ≠ 0 := by grind
              rw [decide_eq_false this, Bool.and_false]
            · rw [decide_eq_false k]
              simp only [Bool.false_eq_true, if_false]
              rw [eqv _ a1, eqv _ b1]
              by_cases z : val (fabs x) = 0
              · rw [decide_eq_true z, decide_eq_true (show val (fabs y) = 0 by grind)]; rfl
              · rw [decide_eq_false z, Bool.false_and]
          unfold shareF shareR
          rw [num_fin a1, num_fin b1, num_fin a2, num_fin b2, hz]
          cases hm : (ford (maxF (fabs x) (fabs y)) 0 == some .eq)
          · simp only [Bool.not_false, Bool.and_self, if_true]
            obtain ⟨g1, g2, g3, g4, g5⟩ := share_good nx ny (by intro h; rw [h] at hm; exact absurd hm (by decide))
            obtain ⟨d1, d2, d3⟩ := div_unit g2 g1 g4 g5 g3
            obtain ⟨e1, e2⟩ := abs_pick hx hy
            rw [ord_abs hx hy]
            cases hst : steepB x y
            · have hst' : (ford (fabs x) (fabs y) == some .lt) = false := hst
              rw [hst] at e1 e2
              simp only [Bool.false_eq_true, if_false] at e1 e2
              rw [hst']
              simp only [Bool.false_eq_true, if_false]
              rw [e1, e2] at d1 d2 d3
              rw [e1] at g1 g3 g5
              rw [e2] at g2 g4 g5
              rw [e1, e2]
              have s := div_same g2 g1 b2 a2 g4 g5 g3 b3 a3
              have n := (div_unit b2 a2 (by rw [← b3]; exact g4) (by rw [← b3, ← a3]; exact g5) (by rw [← a3]; exact g3)).1
              exact ⟨d1, n, d2, d3, s⟩
            · have hst' : (ford (fabs x) (fabs y) == some .lt) = true := hst
              rw [hst] at e1 e2
              simp only [if_true] at e1 e2
              rw [hst']
              simp only [if_true]
              rw [e1, e2] at d1 d2 d3
              rw [e1] at g1 g3 g5
              rw [e2] at g2 g4 g5
              rw [e1, e2]
              have s := div_same g2 g1 a2 b2 g4 g5 g3 a3 b3
              have n := (div_unit a2 b2 (by rw [← a3]; exact g4) (by rw [← a3, ← b3]; exact g5) (by rw [← b3]; exact g3)).1
              exact ⟨d1, n, d2, d3, s⟩
          · simp only [Bool.not_true, Bool.and_false, Bool.false_eq_true, if_false]
            exact ⟨num_zero, num_zero, by rw [val_zero]; exact Rat.le_refl, by rw [val_zero]; decide, by first | trivial | rfl⟩
        · obtain ⟨j1, j2⟩ := abs_inf iy
          exact bad _ _ _ _ (by rw [not_fin_inf j1, Bool.and_false]) (by rw [not_fin_inf j2, Bool.and_false])
      · obtain ⟨j1, j2⟩ := abs_inf ix
        exact bad _ _ _ _ (by rw [not_fin_inf j1, Bool.false_and]) (by rw [not_fin_inf j2, Bool.false_and])
    · obtain ⟨j1, j2⟩ := abs_nan hy
      exact bad _ _ _ _ (by rw [not_fin_nan j1, Bool.and_false]) (by rw [not_fin_nan j2, Bool.and_false])
  · obtain ⟨j1, j2⟩ := abs_nan hx
    exact bad _ _ _ _ (by rw [not_fin_nan j1, Bool.false_and]) (by rw [not_fin_nan j2, Bool.false_and])
end Go.Proofs.Ytagehemimlakpaa.Fl

namespace Go.Proofs.Ytagehemimlakpaa
open Go.RowKit Fl

set_option maxRecDepth 100000 in
set_option maxHeartbeats 1000000 in
theorem prod_num {x y : Nat} (hx : Num x) (hy : Num y) (w : World) : Calls Try.prog 37 #[.float .f64 x, .float .f64 y] w fun e w' => e = .returned (.float .f64 (fmul x y)) ∧ w' = w := by
  have hm : ∀ w, _ := fun w => run_mul_num (P := Try.prog) w 22 hx hy
  clear hx hy
  go_enter Try.func37, Try.ntmps37
  go_wp2_with fail
  go_ret
  exact ⟨rfl, rfl⟩

theorem ext_sqrt (x : Nat) (w : World) : (callFunc 28 #[.float .f64 x]).run Try.prog w = (Extern.MathSqrt.sqrt #[.float .f64 x] >>= fun v => pure (Next.value v)).run Try.prog w := by kernel_rfl
theorem run_ext_sqrt {x : Nat} (hx : Num x) (h0 : 0 ≤ val x) (w : World) : (callFunc 28 #[.float .f64 x]).run Try.prog w = .ok (.value (.float .f64 (fsqrt x))) w := by
  rw [ext_sqrt, Sem.run_bind, run_sqrt_num w hx h0]
  rfl

set_option maxRecDepth 100000 in
set_option maxHeartbeats 1000000 in
theorem root_num {x : Nat} (hx : Num x) (h0 : 0 ≤ val x) (w : World) : Calls Try.prog 14 #[.float .f64 x] w fun e w' => e = .returned (.float .f64 (fsqrt x)) ∧ w' = w := by
  have hm : ∀ w, _ := fun w => run_ext_sqrt hx h0 w
  clear hx h0
  go_enter Try.func14, Try.ntmps14
  go_wp2_with fail
  go_ret
  exact ⟨rfl, rfl⟩

set_option maxRecDepth 100000 in
set_option maxHeartbeats 1000000 in
theorem stretch_num {f : Nat} (hf : Num f) (hq : Num (fmul f f)) (w : World) : Calls Try.prog 41 #[.float .f64 f] w fun e w' => e = .returned (.float .f64 (secQ f)) ∧ w' = w := by
  have HP := hid (prod_num hf hf)
  have hm : ∀ w, (binOp .add 22 (.float .f64 4607182418800017408) (.float .f64 (fmul f f))).run Try.prog w = .ok (.float .f64 (secQ f)) w := fun w => run_add_num w 22 num_w1 hq
  clear hf hq
  go_enter Try.func41, Try.ntmps41
  go_wp2_with fail
  refine Calls.mono (HP.out _) ?_
  rintro e w' ⟨rfl, hw⟩
  obtain rfl := hw.symm
  clear hw
  go_wp2_with fail
  go_ret
  exact ⟨rfl, rfl⟩

set_option maxRecDepth 100000 in
set_option maxHeartbeats 1000000 in
theorem density_num {f : Nat} (hf : Num f) (hq : Num (fmul f f)) (hn : Num (secQ f)) (w : World) : Calls Try.prog 30 #[.float .f64 f] w fun e w' => e = .returned (.float .f64 (densF f)) ∧ w' = w := by
  have HS := hid (stretch_num hf hq)
  have HP := hid (prod_num hn num_eighth)
  unfold eighth at HP
  clear hf hq hn
  go_enter Try.func30, Try.ntmps30
  go_wp2_with fail
  refine Calls.mono (HS.out _) ?_
  rintro e w' ⟨rfl, hw⟩
  obtain rfl := hw.symm
  clear hw
  go_wp2_with fail
  refine Calls.mono (HP.out _) ?_
  rintro e w' ⟨rfl, hw⟩
  obtain rfl := hw.symm
  clear hw
  go_wp2_with fail
  go_ret
  exact ⟨rfl, rfl⟩
end Go.Proofs.Ytagehemimlakpaa

namespace Go.Proofs.Ytagehemimlakpaa
open Go.RowKit Fl

theorem nan_abs {x : Nat} (h : isN (fabs x) = false) : isN x = false := by
  cases k : isN x
  · rfl
  · have := (abs_nan k).1
    rw [h] at this
    exact absurd this (by decide)
theorem num_abs {x : Nat} (h : Num (fabs x)) : Num x := by
  rcases num_or_inf (nan_abs (not_nan_num h)) with k | ⟨s, k⟩
  · exact k
  · exfalso
    have i := (abs_inf k).1
    obtain ⟨_, _, _, r⟩ := h
    rw [r] at i
    cases i

set_option maxRecDepth 100000 in
set_option maxHeartbeats 2000000 in
theorem place_nan {x y : Nat} (h : ford (fabs x) (fabs y) = none) (w : World) : Calls Try.prog 31 #[.float .f64 x, .float .f64 y] w fun e w' => e = .returned (.float .f64 0) ∧ Below w.heap.size w w' := by
  have HX := hid (abs_any x)
  have HY := hid (abs_any y)
  have HM := hid (fun w => run_max_nan (P := Try.prog) #[22, 22] 22 h w)
  have HN := hid number_any
  clear h
  generalize fabs x = a at *
  generalize fabs y = b at *
  go_enter Try.func31, Try.ntmps31
  go_wp2_with fail
  refine Calls.mono (HX.out _) ?_
  rintro e w' ⟨rfl, hw⟩
  obtain rfl := hw.symm
  clear hw
  go_wp2_with fail
  refine Calls.mono (HY.out _) ?_
  rintro e w' ⟨rfl, hw⟩
  obtain rfl := hw.symm
  clear hw
  go_wp2_with fail
  obtain ⟨r, n, e, hr⟩ := HM.out w
  rw [e]
  clear e
  have ht : (FloatKind.f64.format.order r 0 == some .eq) = false := by
    have := ord_nan_left hr 0
    unfold ford at this
    rw [this]; rfl
  go_wp2_with fail
  refine Calls.mono (HN.out _ _) ?_
  rintro e w' ⟨rfl, hw⟩
  obtain rfl := hw.symm
  clear hw
  have hb : numB r = false := by unfold numB; rw [hr]; rfl
  rw [hb]
  go_wp2_with fail
  go_ret
  exact ⟨rfl, below_dr (Below.refl _ _) _⟩

set_option maxRecDepth 100000 in
set_option maxHeartbeats 2000000 in
theorem place_any (x y : Nat) (w : World) : Calls Try.prog 31 #[.float .f64 x, .float .f64 y] w fun e w' => e = .returned (.float .f64 (shareF (fabs x) (fabs y))) ∧ Below w.heap.size w w' := by
  cases ho : ford (fabs x) (fabs y) with
  | none =>
    have e : shareF (fabs x) (fabs y) = 0 := by
      unfold shareF
      rcases ord_none ho with h | h
      · rw [not_fin_nan h, Bool.false_and, Bool.false_and]; rfl
      · rw [not_fin_nan h, Bool.and_false, Bool.false_and]; rfl
    rw [e]
    exact place_nan ho w
  | some o =>
    have nx : isN (fabs x) = false := by
      cases k : isN (fabs x)
      · rfl
      · rw [ord_nan_left k] at ho; cases ho
    have ny : isN (fabs y) = false := by
      cases k : isN (fabs y)
      · rfl
      · rw [ord_nan_right k] at ho; cases ho
    have HX := hid (abs_any x)
    have HY := hid (abs_any y)
    have HM : ∀ w, _ := fun w => run_max_ord (P := Try.prog) #[22, 22] 22 ho w
    have HI : ∀ w, _ := fun w => run_min_ord (P := Try.prog) #[22, 22] 22 ho w
    have HN := hid (number_any (maxF (fabs x) (fabs y)))
    have hf := max_fin (nan_abs nx) (nan_abs ny)
    have hz : (FloatKind.f64.format.order (maxF (fabs x) (fabs y)) 0 == some .eq) = (ford (maxF (fabs x) (fabs y)) 0 == some .eq) := rfl
    have hq : (numB (fabs x) && numB (fabs y)) = true → (ford (maxF (fabs x) (fabs y)) 0 == some .eq) = false → ∀ w, (binOp .quo 22 (.float .f64 (minF (fabs x) (fabs y))) (.float .f64 (maxF (fabs x) (fabs y)))).run Try.prog w = .ok (.float .f64 (fdiv (minF (fabs x) (fabs y)) (maxF (fabs x) (fabs y)))) w := by
      intro h k w
      rw [Bool.and_eq_true] at h
      obtain ⟨g1, g2, g3, _, _⟩ := share_good (num_abs (num_of_fin h.1)) (num_abs (num_of_fin h.2)) (by intro e; rw [e] at k; exact absurd k (by decide))
      exact run_quo_num w 22 g2 g1 (by grind)
    have hs : shareF (fabs x) (fabs y) = if (numB (fabs x) && numB (fabs y)) && !(ford (maxF (fabs x) (fabs y)) 0 == some .eq) then fdiv (minF (fabs x) (fabs y)) (maxF (fabs x) (fabs y)) else 0 := rfl
    rw [hs]
    rw [← hf] at hq ⊢
    clear hs hf nx ny ho
    generalize fdiv (minF (fabs x) (fabs y)) (maxF (fabs x) (fabs y)) = q at *
    generalize minF (fabs x) (fabs y) = l at *
    generalize maxF (fabs x) (fabs y) = m at *
    generalize fabs x = a at *
    generalize fabs y = b at *
    generalize (ford m 0 == some .eq) = z at *
    generalize numB m = f at *
    cases z
    · cases f
      · clear hq
        go_enter Try.func31, Try.ntmps31
        go_wp2_with fail
        refine Calls.mono (HX.out _) ?_
        rintro e w' ⟨rfl, hw⟩
        obtain rfl := hw.symm
        clear hw
        go_wp2_with fail
        refine Calls.mono (HY.out _) ?_
        rintro e w' ⟨rfl, hw⟩
        obtain rfl := hw.symm
        clear hw
        go_wp2_with fail
        refine Calls.mono (HN.out _) ?_
        rintro e w' ⟨rfl, hw⟩
        obtain rfl := hw.symm
        clear hw
        go_wp2_with fail
        go_ret
        exact ⟨rfl, Below.refl _ _⟩
      · replace hq := hq rfl rfl
        go_enter Try.func31, Try.ntmps31
        go_wp2_with fail
        refine Calls.mono (HX.out _) ?_
        rintro e w' ⟨rfl, hw⟩
        obtain rfl := hw.symm
        clear hw
        go_wp2_with fail
        refine Calls.mono (HY.out _) ?_
        rintro e w' ⟨rfl, hw⟩
        obtain rfl := hw.symm
        clear hw
        go_wp2_with fail
        refine Calls.mono (HN.out _) ?_
        rintro e w' ⟨rfl, hw⟩
        obtain rfl := hw.symm
        clear hw
        go_wp2_with fail
        go_ret
        exact ⟨rfl, Below.refl _ _⟩
    · clear hq
      have e0 : (if (f && !true) = true then q else 0) = 0 := by cases f <;> rfl
      rw [e0]
      go_enter Try.func31, Try.ntmps31
      go_wp2_with fail
      refine Calls.mono (HX.out _) ?_
      rintro e w' ⟨rfl, hw⟩
      obtain rfl := hw.symm
      clear hw
      go_wp2_with fail
      refine Calls.mono (HY.out _) ?_
      rintro e w' ⟨rfl, hw⟩
      obtain rfl := hw.symm
      clear hw
      go_wp2_with fail
      go_ret
      exact ⟨rfl, Below.refl _ _⟩

set_option maxRecDepth 100000 in
set_option maxHeartbeats 1000000 in
theorem densi_any (x y : Nat) (w : World) : Calls Try.prog 20 #[.float .f64 x, .float .f64 y] w fun e w' => e = .returned (.float .f64 (densF (shareF (fabs x) (fabs y)))) ∧ Below w.heap.size w w' := by
  have HP := hid (fun w => place_any x y w)
  obtain ⟨n, _, f0, f1, _⟩ := share_same x y
  obtain ⟨a, b, _⟩ := dens_same n n f0 f1 rfl
  have HD := hid (density_num n a b)
  clear n f0 f1 a b
  generalize densF (shareF (fabs x) (fabs y)) = d at *
  generalize shareF (fabs x) (fabs y) = f at *
  go_enter Try.func20, Try.ntmps20
  go_wp2_with fail
  refine Calls.mono (HP.out _) ?_
  rintro e w1 ⟨rfl, hb⟩
  have HB := hid hb
  clear hb
  go_wp2_with fail
  refine Calls.mono (HD.out _) ?_
  rintro e w' ⟨rfl, hw⟩
  obtain rfl := hw.symm
  clear hw
  go_wp2_with fail
  go_ret
  exact ⟨rfl, HB.out⟩
end Go.Proofs.Ytagehemimlakpaa
