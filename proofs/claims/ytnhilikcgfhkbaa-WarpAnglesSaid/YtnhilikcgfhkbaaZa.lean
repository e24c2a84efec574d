/- What a draw counts as; the reference's; a number from 0 on and below 1. -/
import Derived.WalkKit
import Derived.WalkSpells
import Derived.Deep.LoopGhost
import Derived.Test.YtnhilikcgfhkbaaRows
import Derived.Test.YtnhilikcgfhkbaaVa
import Derived.Test.YtnhilikcgfhkbaaYg
import Derived.Test.YtnhilikcgfhkbaaYh
namespace Go.Proofs.Ytnhilikcgfhkbaa
open Go.RowKit Fl

theorem hid {p : Prop} (h : p) : Hid p := h
theorem aside {p : Prop} (h : p) : Aside p := h
/-- Whether a draw counts. -/
def okB (x : Nat) : Bool := (ford x 0 == some .gt || ford x 0 == some .eq) && ford x 4607182418800017408 == some .lt
/-- What a draw counts as. -/
def cleanF (x : Nat) : Nat := if okB x then x else 0

set_option maxRecDepth 100000 in
set_option maxHeartbeats 1000000 in
theorem clean_any (x : Nat) (w : World) : Calls Try.prog 26 #[.float .f64 x] w fun e w' => e = .returned (.float .f64 (cleanF x)) ∧ w' = w := by
  unfold cleanF okB
  have hp : (FloatKind.f64.format.order x 0 == some .gt) = (ford x 0 == some .gt) := rfl
  have hq : (FloatKind.f64.format.order x 0 == some .eq) = (ford x 0 == some .eq) := rfl
  have hr : (FloatKind.f64.format.order x 4607182418800017408 == some .lt) = (ford x 4607182418800017408 == some .lt) := rfl
  generalize (ford x 0 == some .gt) = p at hp ⊢
  generalize (ford x 0 == some .eq) = q at hq ⊢
  generalize (ford x 4607182418800017408 == some .lt) = r at hr ⊢
  cases p <;> cases q <;> cases r <;>
  · go_enter Try.func26, Try.ntmps26
    go_wp2_with fail
    go_ret
    exact ⟨rfl, rfl⟩

theorem ford_three {x y : Nat} (h : isN x = false) (k : isN y = false) : ford x y = some .lt ∨ ford x y = some .eq ∨ ford x y = some .gt := by
  have hs : (ford x y).isSome = true := by
    unfold isN Ieee.Datum.isNaN at h k
    unfold ford Ieee.Format.order
    cases hr : F64.read x with
    | nan s f => simp [hr] at h
    | number s m e => cases hq : F64.read y with
      | nan s f => simp [hq] at k
      | number s m e => simp [Ieee.Datum.order]
      | infinity s => simp [Ieee.Datum.order]
    | infinity s => cases hq : F64.read y with
      | nan s f => simp [hq] at k
      | number s m e => simp [Ieee.Datum.order]
      | infinity s => simp [Ieee.Datum.order]
  cases h1 : ford x y with
  | none => rw [h1] at hs; cases hs
  | some o => cases o <;> simp

theorem isN_zero : isN 0 = false := by decide +kernel
theorem isN_one : isN 4607182418800017408 = false := by decide +kernel
/-- The reference's test is the other's. -/
theorem clean_key (x : Nat) : ((ford x 0 == some .lt || (ford x 4607182418800017408 == some .gt || ford x 4607182418800017408 == some .eq)) || !(ford x x == some .eq)) = !okB x := by
  unfold okB
  rw [ford_self]
  cases h : isN x
  · rcases ford_three h isN_zero with k | k | k <;> rcases ford_three h isN_one with l | l | l <;> rw [k, l] <;> decide
  · rw [ord_nan_left h, ord_nan_left h]; decide

set_option maxRecDepth 100000 in
set_option maxHeartbeats 2000000 in
theorem rclean_any (x : Nat) (w : World) : Calls Try.prog 15 #[.float .f64 x] w fun e w' => e = .returned (.float .f64 (cleanF x)) ∧ w' = w := by
  have hk := clean_key x
  have hc : cleanF x = if okB x then x else 0 := rfl
  generalize okB x = ok at hk hc
  rw [hc]
  clear hc
  have hp : (FloatKind.f64.format.order x 0 == some .lt) = (ford x 0 == some .lt) := rfl
  have hq : (FloatKind.f64.format.order x 4607182418800017408 == some .gt) = (ford x 4607182418800017408 == some .gt) := rfl
  have hr : (FloatKind.f64.format.order x 4607182418800017408 == some .eq) = (ford x 4607182418800017408 == some .eq) := rfl
  have hs : (FloatKind.f64.format.order x x != some .eq) = !(ford x x == some .eq) := rfl
  generalize (ford x 0 == some .lt) = p at *
  generalize (ford x 4607182418800017408 == some .gt) = q at *
  generalize (ford x 4607182418800017408 == some .eq) = r at *
  generalize (ford x x == some .eq) = s at *
  cases p <;> cases q <;> cases r <;> cases s <;> cases ok <;> first | (exact absurd hk (by decide)) | skip
  all_goals
    clear hk
    go_enter Try.func15, Try.ntmps15
    go_wp2_with fail
    go_ret
    exact ⟨rfl, rfl⟩

/-- What is clean is a number from 0 on, below 1. -/
theorem clean_num (x : Nat) : Num (cleanF x) ∧ 0 ≤ val (cleanF x) ∧ val (cleanF x) < 1 := by
  unfold cleanF
  cases h : okB x
  · simp only [Bool.false_eq_true, if_false]
    exact ⟨num_zero, by rw [val_zero]; exact Rat.le_refl, by rw [val_zero]; decide⟩
  · simp only [if_true]
    unfold okB at h
    rw [Bool.and_eq_true, geB_eq] at h
    obtain ⟨h1, h2⟩ := h
    have hl : leB x 4607182418800017408 = true := by unfold leB; rw [h2]; rfl
    have hn : Num x := by
      obtain ⟨s, m, e, hr⟩ := num_w1
      obtain ⟨s', m', e', hr'⟩ := num_zero
      cases hx : F64.read x with
      | nan a b =>
        exfalso
        have : isN x = true := by unfold isN; rw [hx]; rfl
        have := (leB_not_nan hl).1
        simp_all
      | infinity a =>
        exfalso
        unfold w1 at hr
        unfold leB ford Ieee.Format.order at hl h1
        rw [hx, hr] at hl
        rw [hr', hx] at h1
        cases a
        · cases hl
        · cases h1
      | number a b c => exact ⟨a, b, c, hx⟩
    rw [leB_val num_zero hn, val_zero] at h1
    have h3 := lt_val hn num_w1
    unfold w1 at h3
    rw [h2] at h3
    have h4 := val_w1
    unfold w1 at h4
    rw [h4] at h3
    exact ⟨hn, of_decide_eq_true h1, of_decide_eq_true h3.symm⟩
theorem clean_zero : cleanF 0 = 0 := by decide +kernel
end Go.Proofs.Ytnhilikcgfhkbaa
