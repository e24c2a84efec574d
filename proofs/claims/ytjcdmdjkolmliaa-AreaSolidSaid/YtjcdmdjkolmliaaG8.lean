/- What is reckoned of triangles' points: quotients that count as 0 where they are no numbers; directions that are not there. Numbers: where a determinant is 0 or none, no place is one of the triangle; and U is not above 1 where U and V together are not. The reference's Join. The reference's Of. The reference's Through. The reference: Normal, Meet. Points in the disk and directions in space, of a direction in the plane of length 1: how near their lengths are to what they are to be. A direction's sector told back: the density of a draw's direction; a triangle's numbers; numbers that are more often near 0. Ranges that rounding keeps: a sector's density; a triangle's numbers; numbers that are more often near 0. Eight times a draw: the sector, and how far into it. Nearness within 2 to the -40; a number with its sign turned. Sums, differences and roots of numbers give a word, with no draw: exact steps of a walk. What a draw counts as; the reference's; a number from 0 on and below 1. Package warp: product, stretch, density; math.Sqrt; all of numbers. -/
import Derived.Deep.LoopGhost
import Derived.Laws.FloatArith
import Derived.WalkKit
import Derived.WalkSpells
import Derived.Test.YtjcdmdjkolmliaaG5
import Derived.Test.YtjcdmdjkolmliaaG7
import Derived.Test.YtjcdmdjkolmliaaG3
import Derived.Test.YtjcdmdjkolmliaaRows
import Derived.Test.YtjcdmdjkolmliaaG6
import Derived.Test.YtjcdmdjkolmliaaG4
namespace Go.Proofs.Ytjcdmdjkolmliaa
open Fl

def quotF (x y : Nat) : Nat := if gtC y 0 && numB (fdiv x y) then fdiv x y else 0
def plainF (x : Nat) : Nat := if numB x && geB x 0 then x else 0
def densA (U : V3) : Nat := quotF 4607182418800017408 (areaF U)
def cosA (W N : V3) : Nat := fsub 0 (W.unit.dot N.unit)
def solA (W N : V3) : Nat := quotF (fmul (densA N) (W.dot W)) (cosA W N)

/-- No number, or not below 0. -/
def Nz (x : Nat) : Prop := isN x = true ∨ Nn x
theorem nan_mul_l {x : Nat} (h : isN x = true) (y : Nat) : isN (fmul x y) = true := by unfold fmul; rw [mul_nan_left h]; exact isN_qnan
theorem nan_mul_r {y : Nat} (h : isN y = true) (x : Nat) : isN (fmul x y) = true := by unfold fmul; rw [mul_nan_right h]; exact isN_qnan
theorem nan_add_l {x : Nat} (h : isN x = true) (y : Nat) : isN (fadd x y) = true := by unfold fadd; rw [add_nan_left h]; exact isN_qnan
theorem nan_add_r {y : Nat} (h : isN y = true) (x : Nat) : isN (fadd x y) = true := by unfold fadd; rw [add_nan_right h]; exact isN_qnan
theorem nan_div_l {x : Nat} (h : isN x = true) (y : Nat) : isN (fdiv x y) = true := by unfold fdiv; rw [div_nan_left h]; exact isN_qnan
theorem nan_of_read {x : Nat} {s : Bool} {f : Nat} (h : F64.read x = .nan s f) : isN x = true := by unfold isN; rw [h]; rfl
theorem nz_sq (x : Nat) : Nz (fmul x x) := by
  cases hr : F64.read x with
  | nan s f => exact .inl (nan_mul_l (nan_of_read hr) _)
  | infinity s => right; right; rw [mul_inf_inf hr hr]; cases s <;> rfl
  | number s m e =>
    have hn : Num x := ⟨_, _, _, hr⟩
    obtain ⟨neg, mag, place, e1, v⟩ := mul_near hn hn
    right
    rw [e1]
    exact nearest_nn (by rw [v]; exact sq_nonneg _)
theorem nz_add {x y : Nat} (hx : Nz x) (hy : Nz y) : Nz (fadd x y) := by
  rcases hx with h | h
  · exact .inl (nan_add_l h _)
  · rcases hy with k | k
    · exact .inl (nan_add_r k _)
    · exact .inr (add_nn h k)
theorem nn_num {x : Nat} (h : Nn x) {s : Bool} {m : Nat} {e : Int} (hr : F64.read x = .number s m e) (hm : m ≠ 0) : s = false := by
  rcases h with ⟨hn, h⟩ | h
  · cases s
    · rfl
    · have := num_sign hr hm
      simp only [if_true] at this
      exfalso; grind
  · rw [hr] at h; cases h
theorem nn_inf {x : Nat} (h : Nn x) {s : Bool} (hr : F64.read x = .infinity s) : s = false := by
  rcases h with ⟨⟨a, b, c, hn⟩, _⟩ | h
  · rw [hr] at hn; cases hn
  · rw [hr] at h; cases h; rfl
theorem nz_mul {x y : Nat} (hx : Nz x) (hy : Nz y) : Nz (fmul x y) := by
  rcases hx with h | h
  · exact .inl (nan_mul_l h _)
  rcases hy with k | k
  · exact .inl (nan_mul_r k _)
  cases hr : F64.read x with
  | nan s f => exact .inl (nan_mul_l (nan_of_read hr) _)
  | infinity s =>
    have hs := nn_inf h hr
    subst hs
    cases hk : F64.read y with
    | nan t f => exact .inl (nan_mul_r (nan_of_read hk) _)
    | infinity t => have ht := nn_inf k hk; subst ht; right; right; rw [mul_inf_inf hr hk]; rfl
    | number t n j =>
      by_cases hn : n = 0
      · left
        subst hn
        rw [fmul_comm]
        exact mul_zero_inf hk hr
      · have ht := nn_num k hk hn
        subst ht
        right; right; rw [mul_inf_num hr hk hn]; rfl
  | number s m e =>
    cases hk : F64.read y with
    | nan t f => exact .inl (nan_mul_r (nan_of_read hk) _)
    | infinity t =>
      have ht := nn_inf k hk
      subst ht
      by_cases hm : m = 0
      · left; subst hm; exact mul_zero_inf hr hk
      · have hs := nn_num h hr hm
        subst hs
        right; right; rw [mul_num_inf hr hk hm]; rfl
    | number t n j =>
      have hn : Num x := ⟨_, _, _, hr⟩
      have hn2 : Num y := ⟨_, _, _, hk⟩
      obtain ⟨neg, mag, place, e1, v⟩ := mul_near hn hn2
      right
      rw [e1]
      refine nearest_nn ?_
      rw [v]
      have a : 0 ≤ val x := by rcases h with h | h; exact h.2; rw [hr] at h; cases h
      have b : 0 ≤ val y := by rcases k with h | h; exact h.2; rw [hk] at h; cases h
      exact Rat.mul_nonneg a b
theorem gt_cases {y : Nat} (h : gtC y 0 = true) : (∃ m e, F64.read y = .number false m e ∧ m ≠ 0 ∧ 0 < val y) ∨ F64.read y = .infinity false := by
  unfold gtC at h
  cases hr : F64.read y with
  | nan s f => rw [ord_nan_left (nan_of_read hr)] at h; cases h
  | infinity s =>
    cases s
    · exact .inr rfl
    · rw [ord_low hr num_zero] at h; cases h
  | number s m e =>
    have hn : Num y := ⟨_, _, _, hr⟩
    rw [gt_val hn num_zero, val_zero] at h
    have h0 := of_decide_eq_true h
    have hv : val y = sg s ((m : Rat) * 2 ^ e) := by unfold val; rw [hr, dval_number]
    have hm : m ≠ 0 := by
      rintro rfl
      have : ((0 : Nat) : Rat) * 2 ^ e = 0 := Rat.zero_mul _
      rw [this] at hv
      cases s <;> simp only [sg, if_true, Bool.false_eq_true, if_false] at hv <;> grind
    have hs : s = false := nn_num (.inl ⟨hn, Rat.le_of_lt h0⟩) hr hm
    subst hs
    exact .inl ⟨m, e, rfl, hm, h0⟩
theorem nearest_n (m : Nat) (p : Int) : Nn (F64.nearest false m p) := nearest_nn (by rw [dval_number]; exact mag_nonneg m p)
theorem div_num_inf {x y : Nat} {s : Bool} {m : Nat} {e : Int} (hr : F64.read x = .number s m e) (hk : F64.read y = .infinity false) : fdiv x y = F64.nearest s 0 0 := by
  unfold fdiv Ieee.Format.div
  rw [hr, hk]
  simp only [Ieee.Datum.quotient, Option.map_some, Option.getD_some, Bool.xor_false]
  unfold Ieee.Format.write
  simp only
theorem nz_div {x y : Nat} (hx : Nz x) (hy : gtC y 0 = true) : Nz (fdiv x y) := by
  rcases hx with h | h
  · exact .inl (nan_div_l h _)
  cases hr : F64.read x with
  | nan s f => exact .inl (nan_div_l (nan_of_read hr) _)
  | infinity s =>
    have hs := nn_inf h hr
    subst hs
    rcases gt_cases hy with ⟨n, j, hk, hn, _⟩ | hk
    · right; right
      unfold fdiv Ieee.Format.div
      rw [hr, hk]
      simp only [Ieee.Datum.quotient, Option.map_some, Option.getD_some, Bool.xor_false]
      exact write_inf false
    · left
      unfold fdiv Ieee.Format.div
      rw [hr, hk]
      simp only [Ieee.Datum.quotient, Option.map_none, Option.getD_none]
      exact isN_qnan
  | number s m e =>
    right
    have hn : Num x := ⟨_, _, _, hr⟩
    have h0 : 0 ≤ val x := by rcases h with h | h; exact h.2; rw [hr] at h; cases h
    rcases gt_cases hy with ⟨n, j, hk, hm, y0⟩ | hk
    · obtain ⟨neg, mag, place, e1, hh⟩ := div_near hn ⟨_, _, _, hk⟩ (by grind)
      obtain ⟨_, g⟩ := hh (val x) (by grind) Rat.le_refl
      rw [e1]
      refine nearest_nn ?_
      have e2 := ev_half
      have z1 : val x * ev ≤ val x * (1 / 2) := Rat.mul_le_mul_of_nonneg_left e2 h0
      generalize dval (.number neg mag place) = q at *
      refine Classical.byContradiction fun hc => ?_
      have := Rat.mul_pos (show 0 < -q by grind) y0
      grind
    · rw [div_num_inf hr hk]
      obtain ⟨a, b⟩ := nearest_zero s 0
      exact .inl ⟨a, by rw [b]; exact Rat.le_refl⟩
theorem nz_ge {x : Nat} (h : Nz x) (k : numB x = true) : geB x 0 = true := by
  have hn := num_of_fin k
  rcases h with h | h
  · rw [not_nan_num hn] at h; cases h
  · have := h.le
    rw [leB_val num_zero hn, val_zero] at this
    have h0 := of_decide_eq_true this
    unfold geB
    rw [gt_val hn num_zero, val_zero]
    by_cases hc : 0 < val x
    · rw [decide_eq_true hc]; rfl
    · have : val x = val 0 := by rw [val_zero]; grind
      rw [ord_eq hn num_zero this]
      simp
theorem quot_plain {x y : Nat} (hx : Nz x) (hy : gtC y 0 = true) : plainF (fdiv x y) = quotF x y := by
  unfold plainF quotF
  rw [hy]
  cases hk : numB (fdiv x y)
  · rfl
  · rw [nz_ge (nz_div hx hy) hk]
theorem zero_fin : numB 0 = true ∧ geB 0 0 = true := ⟨by decide +kernel, by decide +kernel⟩
theorem quot_ge {x y : Nat} (hx : Nz x) : numB (quotF x y) = true ∧ geB (quotF x y) 0 = true := by
  unfold quotF
  cases hy : gtC y 0
  · exact zero_fin
  · cases hk : numB (fdiv x y)
    · exact zero_fin
    · exact ⟨hk, nz_ge (nz_div hx hy) hk⟩
theorem quot_off {x y : Nat} (hy : gtC y 0 = false) : quotF x y = 0 := by unfold quotF; rw [hy]; rfl
theorem nz_one : Nz 4607182418800017408 := .inr (.inl ⟨num_w1, by rw [show (4607182418800017408 : Nat) = w1 from rfl, val_w1]; decide⟩)
theorem fin_nz {x : Nat} (h : numB x = true) (k : geB x 0 = true) : Nz x := by
  have hn := num_of_fin h
  refine .inr (.inl ⟨hn, ?_⟩)
  unfold geB at k
  rw [gt_val hn num_zero, val_zero] at k
  by_cases hc : 0 < val x
  · exact Rat.le_of_lt hc
  · rw [decide_eq_false hc, Bool.false_or] at k
    obtain ⟨a, b, h1, _, h3⟩ := ord_val hn num_zero
    rw [h1] at k
    have : compare a b = .eq := by simpa using k
    have := h3.1 (Int.compare_eq_eq.1 this)
    rw [this, val_zero]; exact Rat.le_refl
theorem nz_dot (W : V3) : Nz (W.dot W) := nz_add (nz_add (nz_sq _) (nz_sq _)) (nz_sq _)
theorem nz_dens (U : V3) : Nz (densA U) := fin_nz (quot_ge nz_one).1 (quot_ge nz_one).2
theorem nz_prod (W U : V3) : Nz (fmul (densA U) (W.dot W)) := nz_mul (nz_dens U) (nz_dot W)

/-! Directions that are not there -/
def nought : Nat := 9223372036854775808
theorem zmul_any (x : Nat) : isN (fmul 0 x) = true ∨ ((fmul 0 x = 0 ∨ fmul 0 x = nought) ∧ Num (fmul 0 x)) ∨ F64.read x = .infinity true ∨ F64.read x = .infinity false := by
  cases hr : F64.read x with
  | nan s f => exact .inl (nan_mul_r (nan_of_read hr) _)
  | infinity s => cases s <;> simp
  | number s m e =>
    right; left
    have e1 : fmul 0 x = F64.word s 0 := by
      unfold fmul Ieee.Format.mul
      rw [read_zero, hr]
      simp only [Ieee.Datum.product, Option.map_some, Option.getD_some, Nat.zero_mul, Bool.false_xor]
      show F64.nearest s 0 _ = _
      unfold Ieee.Format.nearest
      rw [if_pos rfl]
    rw [e1]
    cases s
    · exact ⟨.inl (by decide +kernel), ⟨false, 0, -1074, by decide +kernel⟩⟩
    · exact ⟨.inr (by decide +kernel), ⟨true, 0, -1074, by decide +kernel⟩⟩
theorem zmul_case (x : Nat) : isN (fmul 0 x) = true ∨ fmul 0 x = 0 ∨ fmul 0 x = nought := by
  rcases zmul_any x with h | h | h | h
  · exact .inl h
  · exact .inr h.1
  · exact .inl (mul_zero_inf read_zero h)
  · exact .inl (mul_zero_inf read_zero h)
theorem zmul_num {x : Nat} (hx : Num x) : fmul 0 x = 0 ∨ fmul 0 x = nought := by
  rcases zmul_any x with h | h | h | h
  · exfalso
    obtain ⟨s, m, e, hr⟩ := hx
    have e1 : fmul 0 x = F64.nearest (false ^^ s) (0 * m) (-1074 + e) := by
      unfold fmul Ieee.Format.mul
      rw [read_zero, hr]
      rfl
    rw [e1, nearest_not_nan] at h
    cases h
  · exact h.1
  · obtain ⟨s, m, e, hr⟩ := hx; rw [hr] at h; cases h
  · obtain ⟨s, m, e, hr⟩ := hx; rw [hr] at h; cases h
theorem zero_sum {a b c : Nat} (ha : a = 0 ∨ a = nought) (hb : b = 0 ∨ b = nought) (hc : c = 0 ∨ c = nought) : fsub 0 (fadd (fadd a b) c) = 0 ∧ gtC (fadd (fadd a b) c) 0 = false := by
  rcases ha with rfl | rfl <;> rcases hb with rfl | rfl <;> rcases hc with rfl | rfl <;> exact ⟨by decide +kernel, by decide +kernel⟩
theorem gt_nan {x : Nat} (h : isN x = true) : gtC x 0 = false := by unfold gtC; rw [ord_nan_left h]; rfl
/-- What is not there is ahead of nothing. -/
theorem zero_dot (X : V3) : gtC (V3.dot ⟨0, 0, 0⟩ X) 0 = false := by
  unfold V3.dot
  rcases zmul_case X.x with h | h
  · exact gt_nan (nan_add_l (nan_add_l h _) _)
  rcases zmul_case X.y with k | k
  · exact gt_nan (nan_add_l (nan_add_r k _) _)
  rcases zmul_case X.z with l | l
  · exact gt_nan (nan_add_r l _)
  exact (zero_sum h k l).2
theorem zero_num {X : V3} (h : NumV X) : fsub 0 (V3.dot ⟨0, 0, 0⟩ X) = 0 := (zero_sum (zmul_num h.x) (zmul_num h.y) (zmul_num h.z)).1
theorem dot_flip (X Y : V3) : X.dot Y = Y.dot X := by
  unfold V3.dot
  rw [fmul_comm X.x, fmul_comm X.y, fmul_comm X.z]
theorem unit_off {A : V3} (h : A.ok = false) : A.unit = ⟨0, 0, 0⟩ := by unfold V3.unit; rw [h]; rfl
theorem cos_off {W N : V3} (h : (W.ok && N.ok) = false) : cosA W N = 0 := by
  unfold cosA
  cases hw : W.ok
  · rw [unit_off hw]; exact zero_num (unit_num N)
  · rw [hw, Bool.true_and] at h
    rw [unit_off h, dot_flip]
    exact zero_num (unit_num W)
theorem front_ref (N X : V3) : gtC (N.unit.dot X) 0 = (N.ok && gtC (N.unit.dot X) 0) := by
  cases h : N.ok
  · rw [unit_off h, zero_dot]; rfl
  · rw [Bool.true_and]
end Go.Proofs.Ytjcdmdjkolmliaa

namespace Go.Proofs.Ytjcdmdjkolmliaa
open Go.RowKit Fl

/-- A determinant by which one may divide. -/
def okd (d : Nat) : Bool := ford d 0 == some .lt || ford d 0 == some .gt
theorem read_nought : F64.read 0 = .number false 0 (-1074) := by decide +kernel
theorem read_one : F64.read 4607182418800017408 = .number false 4503599627370496 (-52) := by decide +kernel
theorem okd_off {d : Nat} (h : okd d = false) : isN d = true ∨ ∃ s e, F64.read d = .number s 0 e := by
  unfold okd ford Ieee.Format.order at h
  rw [read_nought] at h
  cases hr : F64.read d with
  | nan s f => exact .inl (by unfold isN; rw [hr]; rfl)
  | infinity s => rw [hr] at h; cases s <;> cases h
  | number s m e =>
    refine .inr ⟨s, e, ?_⟩
    rw [hr] at h
    by_cases hm : m = 0
    · rw [hm]
    · exfalso
      have hn : Num d := ⟨s, m, e, hr⟩
      have hs := num_sign hr hm
      have h2 : okd d = false := by unfold okd ford Ieee.Format.order; rw [read_nought, hr]; exact h
      unfold okd at h2
      rw [Bool.or_eq_false_iff] at h2
      have a := lt_val hn num_zero
      have b := gt_val hn num_zero
      rw [val_zero] at a b
      have a2 := h2.1
      have b2 := h2.2
      rw [a] at a2
      rw [b] at b2
      have a3 := of_decide_eq_false a2
      have b3 := of_decide_eq_false b2
      cases s
      · have : 0 < val d := by simpa using hs
        exact b3 (by grind)
      · have : val d < 0 := by simpa using hs
        exact a3 (by grind)
theorem inv_zero {d : Nat} {s : Bool} {e : Int} (h : F64.read d = .number s 0 e) : ∃ t, F64.read (fdiv 4607182418800017408 d) = .infinity t := by
  refine ⟨(false ^^ s), ?_⟩
  unfold fdiv Ieee.Format.div
  rw [read_one, h]
  simp only [Ieee.Datum.quotient, if_true, if_neg (show ¬ (4503599627370496 : Nat) = 0 by decide), Option.map_some, Option.getD_some]
  exact write_inf _
theorem mul_inf_any {x i : Nat} {s : Bool} (h : F64.read i = .infinity s) : isN (fmul x i) = true ∨ ∃ t, F64.read (fmul x i) = .infinity t := by
  cases hr : F64.read x with
  | nan t f => exact .inl (by unfold fmul; rw [mul_nan_left (by unfold isN; rw [hr]; rfl)]; exact isN_qnan)
  | infinity t => exact .inr ⟨_, mul_inf_inf hr h⟩
  | number t m e =>
    by_cases hm : m = 0
    · subst hm; exact .inl (mul_zero_inf hr h)
    · exact .inr ⟨_, mul_num_inf hr h hm⟩
theorem ge_nan {x : Nat} (h : isN x = true) : geB x 0 = false := by unfold geB; rw [ord_nan_left h]; rfl
theorem ge_inf {x : Nat} {t : Bool} (h : F64.read x = .infinity t) (k : geB x 0 = true) : F64.read x = .infinity false := by
  cases t
  · exact h
  · unfold geB ford Ieee.Format.order at k
    rw [h, read_nought] at k
    cases k
theorem le_inf {x : Nat} (h : F64.read x = .infinity false) : leB x 4607182418800017408 = false := by
  unfold leB ford Ieee.Format.order
  rw [h, read_one]
  rfl
theorem inside_det {a b d : Nat} (h : okd d = false) : insideB (fmul a (fdiv 4607182418800017408 d)) (fmul b (fdiv 4607182418800017408 d)) = false := by
  unfold insideB
  cases hu : geB (fmul a (fdiv 4607182418800017408 d)) 0
  · rfl
  cases hv : geB (fmul b (fdiv 4607182418800017408 d)) 0
  · rfl
  rcases okd_off h with hn | ⟨s, e, hr⟩
  · have : isN (fdiv 4607182418800017408 d) = true := by unfold fdiv; rw [div_nan_right hn]; exact isN_qnan
    have k : isN (fmul a (fdiv 4607182418800017408 d)) = true := by
      show isN ((F64.mul _ _).getD qnan) = true
      rw [mul_nan_right this]; exact isN_qnan
    rw [ge_nan k] at hu
    cases hu
  · obtain ⟨t, hi⟩ := inv_zero hr
    rcases mul_inf_any (x := a) hi with k | ⟨t1, k⟩
    · rw [ge_nan k] at hu; cases hu
    rcases mul_inf_any (x := b) hi with k2 | ⟨t2, k2⟩
    · rw [ge_nan k2] at hv; cases hv
    rw [le_inf (add_inf_left (ge_inf k hu) (.inr (ge_inf k2 hv)))]
    rfl
theorem inside_one {U V : Nat} (h : insideB U V = true) : leB U 4607182418800017408 = true := by
  unfold insideB at h
  simp only [Bool.and_eq_true] at h
  obtain ⟨⟨hu, hv⟩, hs⟩ := h
  have nu : Nn U := nn_of_le (by rw [← geB_eq]; exact hu)
  have nv : Nn V := nn_of_le (by rw [← geB_eq]; exact hv)
  rcases nu with ⟨nu, u0⟩ | iu
  · rcases nv with ⟨nv, v0⟩ | iv
    · exact leB_trans (le_add nu nv v0) hs
    · rw [le_inf (add_inf_right iv (.inl ⟨nu, u0⟩))] at hs; cases hs
  · rw [le_inf (add_inf_left iu nv)] at hs; cases hs
end Go.Proofs.Ytjcdmdjkolmliaa

namespace Go.Proofs.Ytjcdmdjkolmliaa
open Go.RowKit Fl

end Go.Proofs.Ytjcdmdjkolmliaa

namespace Go.Proofs.Ytjcdmdjkolmliaa
open Go.RowKit Fl

end Go.Proofs.Ytjcdmdjkolmliaa

namespace Go.Proofs.Ytjcdmdjkolmliaa
open Go.RowKit Fl

end Go.Proofs.Ytjcdmdjkolmliaa

namespace Go.Proofs.Ytjcdmdjkolmliaa
open Go.RowKit Fl

set_option maxRecDepth 100000 in
set_option maxHeartbeats 1000000 in
theorem rnormal_any {t0 t1 t2 t3 t4 t5 t6 t7 t8 : Nat} {A B C : V3} (hA : S3 t0 t1 t2 A) (hB : S3 t3 t4 t5 B) (hC : S3 t6 t7 t8 C) (w : World) : Ret Try.prog 25 #[.agg #[.float .f64 t0, .float .f64 t1, .float .f64 t2, .float .f64 t3, .float .f64 t4, .float .f64 t5, .float .f64 t6, .float .f64 t7, .float .f64 t8]] w (isP ((B.sub A).cross (C.sub A))) := by
  unfold Ret
  go_enter Try.func25, Try.ntmps25
  go_wp2_with fail
  refine Lp.settle (fun w' => Lp.Bk w' (w.heap.size) #[.float .f64 t0, .float .f64 t1, .float .f64 t2, .float .f64 t3, .float .f64 t4, .float .f64 t5, .float .f64 t6, .float .f64 t7, .float .f64 t8] 26 ∧ Lp.Bk w' (w.heap.size + 1) #[.float .f64 0, .float .f64 0, .float .f64 0] 24 ∧ Cl w w') ⟨((Lp.Bk.al _ _ _).alo _), (Lp.Bk.al1 _ _ _ _), ((Below.refl _ _).alloc (by simp <;> omega) _).alloc (by simp <;> omega) _⟩ ?_
  rintro v1 ⟨BT, BR, HB⟩
  have kT := BT.cell
  have kR := BR.cell
  have zR := BR.frz
  have nT0 : (w.heap.size = v1.heap.size) = False := eq_false (by have := BT.lt; omega)
  have mT0 : w.heap.size < v1.heap.size := by have := BT.lt; omega
  have nT1 : (w.heap.size = v1.heap.size + 1) = False := eq_false (by have := BT.lt; omega)
  have mT1 : w.heap.size < v1.heap.size + 1 := by have := BT.lt; omega
  have nR0 : (w.heap.size + 1 = v1.heap.size) = False := eq_false (by have := BR.lt; omega)
  have mR0 : w.heap.size + 1 < v1.heap.size := by have := BR.lt; omega
  have nR1 : (w.heap.size = v1.heap.size) = False := eq_false (by have := BR.lt; omega)
  have mR1 : w.heap.size < v1.heap.size := by have := BR.lt; omega
  apply Lp.wp_region_loose _ _ 11 (by kernel_rfl) (by kernel_rfl) (by kernel_rfl) (Below.refl _ _)
  apply Lp.facts
  · intro w1 hw
    exact And.intro (BT.cl hw).cell ((BR.cl hw).cell)
  intro HF
  iterate 4 (
    apply Lp.one ?_ rfl
    · intro w hw
      obtain ⟨k0, k1⟩ := HF.out _ hw
      go_simp
      exact rfl
    intro K hK
    go_simp
    refine hK.out _ ?_
    clear hK K)
  apply Lp.any rfl
  · intro w hw
    go_simp
    exact Lp.ret (rsub_c _ hB hA)
  intro K hK
  rintro v ⟨x, y, z, rfl, hx, wx⟩
  go_simp
  refine hK.out _ ?_
  clear hK K
  iterate 4 (
    apply Lp.one ?_ rfl
    · intro w hw
      obtain ⟨k0, k1⟩ := HF.out _ hw
      go_simp
      exact rfl
    intro K hK
    go_simp
    refine hK.out _ ?_
    clear hK K)
  apply Lp.any rfl
  · intro w hw
    go_simp
    exact Lp.ret (rsub_c _ hC hA)
  intro K hK
  rintro v ⟨p, q, r, rfl, hp, wp⟩
  go_simp
  refine hK.out _ ?_
  clear hK K
  apply Lp.any rfl
  · intro w hw
    go_simp
    exact Lp.ret (rcross_c _ hx hp)
  intro K hK
  rintro v ⟨x1, y1, z1, rfl, h1, w1⟩
  go_simp
  refine hK.out _ ?_
  clear hK K
  rotate_left
  exact []
  intro v2 hm
  clear kT kR zR nT0 mT0 nT1 mT1 nR0 mR0 nR1 mR1
  replace BT := BT.keep hm
  replace BR := BR.keep hm
  replace HB := HB.call hm
  clear hm
  have kT := BT.cell
  have kR := BR.cell
  have zR := BR.frz
  have nT0 : (w.heap.size = v2.heap.size) = False := eq_false (by have := BT.lt; omega)
  have mT0 : w.heap.size < v2.heap.size := by have := BT.lt; omega
  have nT1 : (w.heap.size = v2.heap.size + 1) = False := eq_false (by have := BT.lt; omega)
  have mT1 : w.heap.size < v2.heap.size + 1 := by have := BT.lt; omega
  have nR0 : (w.heap.size + 1 = v2.heap.size) = False := eq_false (by have := BR.lt; omega)
  have mR0 : w.heap.size + 1 < v2.heap.size := by have := BR.lt; omega
  have nR1 : (w.heap.size = v2.heap.size) = False := eq_false (by have := BR.lt; omega)
  have mR1 : w.heap.size < v2.heap.size := by have := BR.lt; omega
  go_wp2_with fail
  refine bodyPost_ret (v := .agg #[.float .f64 x1, .float .f64 y1, .float .f64 z1]) (by simp [results, go_sem, kR]) rfl ⟨_, rfl, ⟨x1, y1, z1, rfl, h1, w1⟩, ?_⟩
  repeat (refine Below.setCell ?_ (by dsimp only; omega) _)
  exact HB

def ltC (x y : Nat) : Bool := ford x y == some .lt
theorem lt_w {x y X Y : Nat} (hx : Sm x X) (hy : Sm y Y) : (FloatKind.f64.format.order x y == some .lt) = ltC X Y := by
  rw [ordf, ford_congr hx hy]; rfl
/-- What the reference answers. -/
def outM : Option V3 → Value
  | some h => .tuple #[.float .f64 h.x, .float .f64 h.y, .float .f64 h.z, .bool true]
  | none => .tuple #[.float .f64 0, .float .f64 0, .float .f64 0, .bool false]
/-- Its test. -/
theorem hit_det {d n f T a b : Nat} (h : okd d = false) : hitB n f T (fmul a (fdiv 4607182418800017408 d)) (fmul b (fdiv 4607182418800017408 d)) = false := by
  unfold hitB; rw [inside_det h]; rfl
theorem hit_ref (n f T U V : Nat) : hitB n f T U V = (geB U 0 && leB U 4607182418800017408 && geB V 0 && leB (fadd U V) 4607182418800017408 && geB T n && leB T f && gtC T 0) := by
  unfold hitB
  cases h : insideB U V
  · unfold insideB at h
    cases h0 : geB U 0
    · rfl
    · cases h1 : geB V 0
      · simp
      · cases h2 : leB (fadd U V) 4607182418800017408
        · simp
        · rw [h0, h1, h2] at h; cases h
  · rw [inside_one h]
    unfold insideB at h
    simp only [Bool.and_eq_true] at h
    rw [h.1.1, h.1.2, h.2]
    rfl

end Go.Proofs.Ytjcdmdjkolmliaa

namespace Go.Proofs.Ytjcdmdjkolmliaa.Fl

/-- A pair that is nearly of length 1. -/
structure Unit2 (x y : Nat) : Prop where
  nx : Num x
  ny : Num y
  ax : Ab (val x) (9 / 8)
  ay : Ab (val y) (9 / 8)
  len : Ab (val x * val x + val y * val y - 1) (24 * dl)
theorem Sec.unit {f : Nat} (h : Sec f) : Unit2 (secC f) (secS f) := by
  have hd := dl_le
  have hd0 := dl_ge
  exact ⟨h.nc, h.ns, ⟨by have := h.c0; grind, h.c1⟩, ⟨by have := h.s0; grind, h.s1⟩, h.len⟩
theorem Unit2.swap {x y : Nat} (h : Unit2 x y) : Unit2 y x := ⟨h.ny, h.nx, h.ay, h.ax, by have := h.len; unfold Ab at *; constructor <;> grind⟩
/-- The square of a product, and what rounding does to both. -/
theorem mul_sq {x r : Nat} (hx : Num x) (hr : Num r) (ax : Ab (val x) (9 / 8)) (ar : Ab (val r) (17 / 16)) : Num (fmul x r) ∧ Ab (val (fmul x r)) (6 / 5) ∧ Num (fmul (fmul x r) (fmul x r)) ∧ Ab (val (fmul (fmul x r) (fmul x r)) - val x * val x * (val r * val r)) (4 * dl) := by
  have hd := dl_le
  have hd0 := dl_ge
  have xr := ax.mul ar
  obtain ⟨n1, e1⟩ := mul_ab hx hr (xr.mono (by grind))
  have s0 : Ab (val (fmul x r)) (6 / 5) := by unfold Ab at *; constructor <;> grind
  obtain ⟨n2, e2⟩ := mul_ab n1 n1 ((s0.mul s0).mono (by grind))
  refine ⟨n1, s0, n2, ?_⟩
  have e3 := e1.mul (s0.add xr)
  have e4 : val (fmul x r) * val (fmul x r) - val x * val x * (val r * val r) = (val (fmul x r) - val x * val r) * (val (fmul x r) + val x * val r) := by grind
  have e5 : Ab (val (fmul x r) * val (fmul x r) - val x * val x * (val r * val r)) (3 * dl) := by
    rw [e4]
    exact e3.mono (by grind)
  have e6 := e2.add e5
  have e7 : val (fmul (fmul x r) (fmul x r)) - val (fmul x r) * val (fmul x r) + (val (fmul x r) * val (fmul x r) - val x * val x * (val r * val r)) = val (fmul (fmul x r) (fmul x r)) - val x * val x * (val r * val r) := by grind
  rw [e7] at e6
  exact e6.mono (by grind)
/-- The square of the length of a pair that is nearly of length 1, times r: near to V, where r's square is near to V. -/
theorem pair_sq {x y r : Nat} {V B : Rat} (h : Unit2 x y) (hr : Num r) (r0 : 0 ≤ val r) (hV : Ab (val r * val r - V) B) (hB : B ≤ 1 / 1024) (v1 : V ≤ 1 + 1 / 1024) :
    Num (fadd (fmul (fmul x r) (fmul x r)) (fmul (fmul y r) (fmul y r))) ∧ Ab (val (fadd (fmul (fmul x r) (fmul x r)) (fmul (fmul y r) (fmul y r))) - V) (34 * dl + B) := by
  have hd := dl_le
  have hd0 := dl_ge
  have r1 : Ab (val r) (17 / 16) := Ab.of_sq (by grind) (by unfold Ab at hV; grind)
  obtain ⟨_, sx, nx, ex⟩ := mul_sq h.nx hr h.ax r1
  obtain ⟨_, sy, ny, ey⟩ := mul_sq h.ny hr h.ay r1
  have hl := h.len
  have hR : 0 ≤ val r * val r := Rat.mul_nonneg r0 r0
  have hR1 : Ab (val r * val r) (257 / 256) := by unfold Ab at *; constructor <;> grind
  have el := hl.mul hR1
  have e0 : (val x * val x + val y * val y - 1) * (val r * val r) = val x * val x * (val r * val r) + val y * val y * (val r * val r) - val r * val r := by grind
  rw [e0] at el
  have hp0 : 0 ≤ val x * val x * (val r * val r) := Rat.mul_nonneg (sq_nonneg _) hR
  have hq0 : 0 ≤ val y * val y * (val r * val r) := Rat.mul_nonneg (sq_nonneg _) hR
  have hs : Ab (val (fmul (fmul x r) (fmul x r)) + val (fmul (fmul y r) (fmul y r))) 64 := by unfold Ab at *; constructor <;> grind
  obtain ⟨n, e⟩ := add_ab nx ny hs
  refine ⟨n, ?_⟩
  unfold Ab at *
  constructor <;> grind

/-- What is written of a number not below 0 is not below 0. -/
theorem near_ge0 {s : Bool} {m : Nat} {e : Int} (h : 0 ≤ dval (.number s m e)) (hn : Num (F64.nearest s m e)) : 0 ≤ val (F64.nearest s m e) := by
  obtain ⟨z0, z1⟩ := nearest_zero false 0
  have l0 := nearest_mono (n1 := false) (m1 := 0) (p1 := 0) (n2 := s) (m2 := m) (p2 := e) (by
    rw [dval_number]
    have : sg false (((0 : Nat) : Rat) * 2 ^ (0 : Int)) = 0 := by decide +kernel
    rw [this]; exact h)
  rw [leB_val z0 hn, z1] at l0
  exact of_decide_eq_true l0
theorem sub_ge0 {x y : Nat} (hx : Num x) (hy : Num y) (h : val y ≤ val x) (hn : Num (fsub x y)) : 0 ≤ val (fsub x y) := by
  obtain ⟨s, m, e, hf, hv⟩ := sub_near hx hy
  rw [hf] at hn ⊢
  exact near_ge0 (by rw [hv]; grind) hn

/-- Above a point of the disk: (X times r, Y times r, the root of 1 less u), r the root of u. -/
def hemiN (x y u : Nat) : Nat := fadd (fadd (fmul (fmul x (fsqrt u)) (fmul x (fsqrt u))) (fmul (fmul y (fsqrt u)) (fmul y (fsqrt u)))) (fmul (fsqrt (fsub w1 u)) (fsqrt (fsub w1 u)))
theorem disk_len {x y u : Nat} (h : Unit2 x y) (hu : Num u) (u0 : 0 ≤ val u) (u1 : val u ≤ 1) :
    Num (fadd (fmul (fmul x (fsqrt u)) (fmul x (fsqrt u))) (fmul (fmul y (fsqrt u)) (fmul y (fsqrt u)))) ∧ Ab (val (fadd (fmul (fmul x (fsqrt u)) (fmul x (fsqrt u))) (fmul (fmul y (fsqrt u)) (fmul y (fsqrt u)))) - val u) (35 * dl) := by
  have hd := dl_le
  have hd0 := dl_ge
  obtain ⟨nr, r0, _, er, _⟩ := sqrt_ab hu u0 (by grind)
  obtain ⟨n, e⟩ := pair_sq h nr r0 er (by grind) (by grind)
  exact ⟨n, e.mono (by grind)⟩
theorem hemi_len {x y u : Nat} (h : Unit2 x y) (hu : Num u) (u0 : 0 ≤ val u) (u1 : val u ≤ 1) : Num (hemiN x y u) ∧ Ab (val (hemiN x y u) - 1) (39 * dl) ∧ Num (fsqrt (fsub w1 u)) ∧ 0 ≤ val (fsqrt (fsub w1 u)) := by
  have hd := dl_le
  have hd0 := dl_ge
  obtain ⟨n, e⟩ := disk_len h hu u0 u1
  obtain ⟨n1, e1⟩ := sub_ab num_w1 hu (by rw [val_w1]; unfold Ab; constructor <;> grind)
  rw [val_w1] at e1
  have z0 := sub_ge0 num_w1 hu (by rw [val_w1]; exact u1) n1
  have z1 : val (fsub w1 u) ≤ 2 := by unfold Ab at e1; grind
  obtain ⟨nz, s0, s3, ez, _⟩ := sqrt_ab n1 z0 (by grind)
  have sz := sq_nonneg (val (fsqrt (fsub w1 u)))
  obtain ⟨nzz, ezz⟩ := mul_ab nz nz (by unfold Ab at *; constructor <;> grind)
  have hs : Ab (val (fadd (fmul (fmul x (fsqrt u)) (fmul x (fsqrt u))) (fmul (fmul y (fsqrt u)) (fmul y (fsqrt u)))) + val (fmul (fsqrt (fsub w1 u)) (fsqrt (fsub w1 u)))) 64 := by unfold Ab at *; constructor <;> grind
  obtain ⟨nn, en⟩ := add_ab n nzz hs
  refine ⟨nn, ?_, nz, s0⟩
  unfold hemiN
  unfold Ab at *
  constructor <;> grind

/-- All around: (X times r, Y times r, Z), Z from -1 to 1 and r the root of 1 less Z times Z (of 0, if that is below 0). -/
theorem ball_len {x y z q r : Nat} (h : Unit2 x y) (hz : Num z) (az : Ab (val z) (1 + 4 * dl)) (hq : q = fsub w1 (fmul z z)) (hr : r = fsqrt (if (ford q 0 == some .lt) = true then 0 else q)) :
    Num q ∧ Num (fadd (fadd (fmul (fmul x r) (fmul x r)) (fmul (fmul y r) (fmul y r))) (fmul z z)) ∧ Ab (val (fadd (fadd (fmul (fmul x r) (fmul x r)) (fmul (fmul y r) (fmul y r))) (fmul z z)) - 1) (54 * dl) := by
  have hd := dl_le
  have hd0 := dl_ge
  have hdd : dl * dl ≤ dl * (1 / 1048576) := Rat.mul_le_mul_of_nonneg_left hd hd0
  have hdd0 : 0 ≤ dl * dl := Rat.mul_nonneg hd0 hd0
  have zz := az.mul az
  have z0 := sq_nonneg (val z)
  have z1 : val z * val z ≤ 1 + 9 * dl := by unfold Ab at zz; grind
  obtain ⟨n1, e1⟩ := mul_ab hz hz (by unfold Ab; constructor <;> grind)
  obtain ⟨n2, e2⟩ := sub_ab num_w1 n1 (by rw [val_w1]; unfold Ab at *; constructor <;> grind)
  rw [val_w1] at e2
  rw [← hq] at n2 e2
  obtain ⟨p, hp⟩ : ∃ p, p = if (ford q 0 == some .lt) = true then 0 else q := ⟨_, rfl⟩
  rw [← hp] at hr
  have hlt := lt_val n2 num_zero
  rw [val_zero] at hlt
  have hpp : Num p ∧ 0 ≤ val p ∧ Ab (val p - (1 - val z * val z)) (13 * dl) := by
    rw [hp, hlt]
    by_cases k : val q < 0
    · rw [decide_eq_true k, if_pos rfl]
      refine ⟨num_zero, by rw [val_zero]; exact Rat.le_refl, ?_⟩
      rw [val_zero]
      unfold Ab at *
      constructor <;> grind
    · rw [decide_eq_false k, if_neg (by simp)]
      refine ⟨n2, by grind, ?_⟩
      unfold Ab at *
      constructor <;> grind
  obtain ⟨np, p0, ep⟩ := hpp
  obtain ⟨nr, r0, _, er, _⟩ := sqrt_ab np p0 (by unfold Ab at ep; grind)
  rw [← hr] at nr r0 er
  have er2 : Ab (val r * val r - (1 - val z * val z)) (14 * dl) := by unfold Ab at *; constructor <;> grind
  obtain ⟨n3, e3⟩ := pair_sq h nr r0 er2 (by grind) (by grind)
  have hs : Ab (val (fadd (fmul (fmul x r) (fmul x r)) (fmul (fmul y r) (fmul y r))) + val (fmul z z)) 64 := by unfold Ab at *; constructor <;> grind
  obtain ⟨nn, en⟩ := add_ab n3 n1 hs
  refine ⟨n2, nn, ?_⟩
  unfold Ab at *
  constructor <;> grind
end Go.Proofs.Ytjcdmdjkolmliaa.Fl

namespace Go.Proofs.Ytjcdmdjkolmliaa.Fl

def eighth : Nat := 4593671619917905920
theorem num_eighth : Num eighth := ⟨false, 4503599627370496, -55, by decide +kernel⟩
theorem val_eighth : val eighth = 1 / 8 := by decide +kernel
/-- The density by f. -/
def densF (f : Nat) : Nat := fmul (secQ f) eighth
theorem dens_ab {f : Nat} (hf : Num f) {F B : Rat} (hF : Ab (val f - F) B) (hB : B ≤ 1 / 1024) (f0 : 0 ≤ F) (f1 : F ≤ 1) : Num (densF f) ∧ Ab (val (densF f) - (1 + F * F) * (1 / 8)) (B * (3 / 8) + 2 * dl) := by
  have hd := dl_le
  have hd0 := dl_ge
  have fa : Ab (val f) (9 / 8) := by unfold Ab at *; constructor <;> grind
  have Fa : Ab F 1 := by unfold Ab; constructor <;> grind
  have ff := fa.mul fa
  have f00 := sq_nonneg (val f)
  obtain ⟨n1, e1⟩ := mul_ab hf hf (ff.mono (by grind))
  obtain ⟨n2, e2⟩ := add_ab num_w1 n1 (by rw [val_w1]; unfold Ab at *; constructor <;> grind)
  rw [val_w1] at e2
  obtain ⟨n3, e3⟩ := mul_ab n2 num_eighth (by rw [val_eighth]; unfold Ab at *; constructor <;> grind)
  rw [val_eighth] at e3
  refine ⟨n3, ?_⟩
  have k := hF.mul (fa.add Fa)
  have e : (val f - F) * (val f + F) = val f * val f - F * F := by grind
  rw [e] at k
  have hB0 := hF.nonneg
  have k2 := k.mono (show B * (9 / 8 + 1) ≤ B * 3 by grind)
  unfold densF secQ
  unfold Ab at *
  constructor <;> grind

/-- What is less, divided by what is greater, tells f again. -/
theorem sec_back {f : Nat} (hf : Num f) (f0 : 0 ≤ val f) (f1 : val f ≤ 1) : Num (fdiv (secS f) (secC f)) ∧ Ab (val (fdiv (secS f) (secC f)) - val f) (20 * dl) := by
  have h := sec_vals hf f0 f1
  have hd := dl_le
  have hd0 := dl_ge
  have c0 := h.c0
  have c1 := h.c1
  have len := h.len
  have cc := Rat.mul_nonneg (show 0 ≤ val (secC f) - 5 / 8 by grind) (show 0 ≤ val (secC f) + 5 / 8 by grind)
  have sa : Ab (val (secS f)) (7 / 8) := Ab.of_sq (by grind) (by unfold Ab at len; grind)
  obtain ⟨n, e⟩ := div_ab h.ns h.nc (sa.mono (by grind)) (.inl (by grind)) (by unfold Ab; constructor <;> grind)
  refine ⟨n, ?_⟩
  have D0 := h.d0
  have D1 := h.d1
  have ec := h.cd
  have es := h.sd
  generalize val (fdiv (secS f) (secC f)) = g at *
  generalize val (secS f) = S at *
  generalize val (secC f) = C at *
  generalize val (secD f) = D at *
  generalize val f = F at *
  have Da : Ab D (3 / 2) := by unfold Ab; constructor <;> grind
  have k1 := e.mul Da
  have e1 : (g * C - S) * D = g * (C * D) - S * D := by grind
  rw [e1] at k1
  -- g (1 + a) = F + b
  have k2 : Ab (g * (C * D) - F) (13 * dl) := by unfold Ab at *; constructor <;> grind
  have ga : Ab g (17 / 16) := by
    have hh : Ab (g * (C * D)) (1 + 13 * dl) := by unfold Ab at *; constructor <;> grind
    exact ab_div (g := C * D) (B := 1 + 13 * dl) (by unfold Ab at ec; grind) hh (by grind) (by grind)
  have k3 := ga.mul ec
  have e3 : g * (C * D - 1) = g * (C * D) - g := by grind
  rw [e3] at k3
  unfold Ab at *
  constructor <;> grind

/-- The density of a draw's direction beside the draw's. -/
theorem dens_back {f : Nat} (hf : Num f) (f0 : 0 ≤ val f) (f1 : val f ≤ 1) : Num (densF (fdiv (secS f) (secC f))) ∧ Num (densF f) ∧ Ab (val (densF (fdiv (secS f) (secC f))) - val (densF f)) (12 * dl) := by
  have hd := dl_le
  have hd0 := dl_ge
  obtain ⟨n, e⟩ := sec_back hf f0 f1
  obtain ⟨n1, e1⟩ := dens_ab n e (by grind) f0 f1
  obtain ⟨n2, e2⟩ := dens_ab hf (F := val f) (B := 0) (by unfold Ab; constructor <;> grind) (by grind) f0 f1
  refine ⟨n1, n2, ?_⟩
  unfold Ab at *
  constructor <;> grind
end Go.Proofs.Ytjcdmdjkolmliaa.Fl

namespace Go.Proofs.Ytjcdmdjkolmliaa.Fl

/-- What is written lies between what lies around it. -/
theorem near_le {s t : Bool} {m n : Nat} {e j : Int} (h : dval (.number s m e) ≤ dval (.number t n j)) (hn : Num (F64.nearest s m e)) (hk : Num (F64.nearest t n j)) : val (F64.nearest s m e) ≤ val (F64.nearest t n j) := by
  have l := nearest_mono h
  rw [leB_val hn hk] at l
  exact of_decide_eq_true l
theorem near_hi {s t : Bool} {m n : Nat} {e j : Int} {R : Rat} (hk : Num (F64.nearest t n j)) (hv : val (F64.nearest t n j) = R) (hd : dval (.number t n j) = R) (h : dval (.number s m e) ≤ R) (hn : Num (F64.nearest s m e)) : val (F64.nearest s m e) ≤ R := by
  rw [← hv]; exact near_le (by rw [hd]; exact h) hn hk
theorem near_lo {s t : Bool} {m n : Nat} {e j : Int} {R : Rat} (hk : Num (F64.nearest t n j)) (hv : val (F64.nearest t n j) = R) (hd : dval (.number t n j) = R) (h : R ≤ dval (.number s m e)) (hn : Num (F64.nearest s m e)) : R ≤ val (F64.nearest s m e) := by
  rw [← hv]; exact near_le (by rw [hd]; exact h) hk hn
theorem n_one : Num (F64.nearest false 1 0) := ⟨false, 4503599627370496, -52, by decide +kernel⟩
theorem n_two : Num (F64.nearest false 2 0) := ⟨false, 4503599627370496, -51, by decide +kernel⟩
theorem n_neg : Num (F64.nearest true 1 0) := ⟨true, 4503599627370496, -52, by decide +kernel⟩
theorem n_8th : Num (F64.nearest false 1 (-3)) := ⟨false, 4503599627370496, -55, by decide +kernel⟩
theorem n_4th : Num (F64.nearest false 1 (-2)) := ⟨false, 4503599627370496, -54, by decide +kernel⟩
theorem n_zero : Num (F64.nearest false 0 0) := (nearest_zero false 0).1

/-- An operation whose exact result is from 0 to 1. -/
theorem unit_mul {x y : Nat} (hx : Num x) (hy : Num y) (x0 : 0 ≤ val x) (x1 : val x ≤ 1) (y0 : 0 ≤ val y) (y1 : val y ≤ 1) : Num (fmul x y) ∧ 0 ≤ val (fmul x y) ∧ val (fmul x y) ≤ 1 := by
  have p := Rat.mul_nonneg x0 y0
  have q : val x * val y ≤ 1 := by
    have := Rat.mul_le_mul_of_nonneg_right x1 y0
    grind
  obtain ⟨hn, _⟩ := mul_ab hx hy (by unfold Ab; constructor <;> grind)
  obtain ⟨s, m, e, hf, hv⟩ := mul_near hx hy
  rw [hf] at hn ⊢
  rw [← hv] at p q
  exact ⟨hn, near_lo n_zero (nearest_zero false 0).2 (by decide +kernel) p hn, near_hi n_one (by decide +kernel) (by decide +kernel) q hn⟩
theorem unit_sub {y : Nat} (hy : Num y) (y0 : 0 ≤ val y) (y1 : val y ≤ 1) : Num (fsub w1 y) ∧ 0 ≤ val (fsub w1 y) ∧ val (fsub w1 y) ≤ 1 := by
  obtain ⟨hn, _⟩ := sub_ab num_w1 hy (by rw [val_w1]; unfold Ab; constructor <;> grind)
  obtain ⟨s, m, e, hf, hv⟩ := sub_near num_w1 hy
  rw [val_w1] at hv
  rw [hf] at hn ⊢
  exact ⟨hn, near_lo n_zero (nearest_zero false 0).2 (by decide +kernel) (by rw [hv]; grind) hn, near_hi n_one (by decide +kernel) (by decide +kernel) (by rw [hv]; grind) hn⟩

/-- A triangle's numbers: 1 less r, r times (1 less v), r times v, r the root of u. -/
theorem bary_vals {u v : Nat} (hu : Num u) (u0 : 0 ≤ val u) (u1 : val u ≤ 1) (hv : Num v) (v0 : 0 ≤ val v) (v1 : val v ≤ 1) :
    (Num (fsub w1 (fsqrt u)) ∧ 0 ≤ val (fsub w1 (fsqrt u)) ∧ val (fsub w1 (fsqrt u)) ≤ 1) ∧ (Num (fmul (fsqrt u) (fsub w1 v)) ∧ 0 ≤ val (fmul (fsqrt u) (fsub w1 v)) ∧ val (fmul (fsqrt u) (fsub w1 v)) ≤ 1) ∧ (Num (fmul (fsqrt u) v) ∧ 0 ≤ val (fmul (fsqrt u) v) ∧ val (fmul (fsqrt u) v) ≤ 1) ∧
    Num (fadd (fadd (fsub w1 (fsqrt u)) (fmul (fsqrt u) (fsub w1 v))) (fmul (fsqrt u) v)) ∧ Ab (val (fadd (fadd (fsub w1 (fsqrt u)) (fmul (fsqrt u) (fsub w1 v))) (fmul (fsqrt u) v)) - 1) (8 * dl) := by
  have hd := dl_le
  have hd0 := dl_ge
  obtain ⟨nr, r0, _, _, r1⟩ := sqrt_ab hu u0 (by grind)
  have r1 := r1 u1
  obtain ⟨na, a0, a1⟩ := unit_sub nr r0 r1
  obtain ⟨nw, w0, w11⟩ := unit_sub hv v0 v1
  obtain ⟨nb, b0, b1⟩ := unit_mul nr nw r0 r1 w0 w11
  obtain ⟨nc, c0, c1⟩ := unit_mul nr hv r0 r1 v0 v1
  have ea := (sub_ab num_w1 nr (by rw [val_w1]; unfold Ab; constructor <;> grind)).2
  have ew := (sub_ab num_w1 hv (by rw [val_w1]; unfold Ab; constructor <;> grind)).2
  have p1 := Rat.mul_nonneg r0 w0
  have p2 := Rat.mul_nonneg r0 v0
  have p3 := Rat.mul_le_mul_of_nonneg_right r1 w0
  have p4 := Rat.mul_le_mul_of_nonneg_right r1 v0
  have eb := (mul_ab nr nw (by unfold Ab; constructor <;> grind)).2
  have ec := (mul_ab nr hv (by unfold Ab; constructor <;> grind)).2
  rw [val_w1] at ea ew
  obtain ⟨n1, e1⟩ := add_ab na nb (by unfold Ab; constructor <;> grind)
  obtain ⟨n2, e2⟩ := add_ab n1 nc (by unfold Ab at *; constructor <;> grind)
  refine ⟨⟨na, a0, a1⟩, ⟨nb, b0, b1⟩, ⟨nc, c0, c1⟩, n2, ?_⟩
  have ra : Ab (val (fsqrt u)) 1 := by unfold Ab; constructor <;> grind
  have rw' := ra.mul ew
  have e3 : val (fsqrt u) * (val (fsub w1 v) - (1 - val v)) = val (fsqrt u) * val (fsub w1 v) - val (fsqrt u) + val (fsqrt u) * val v := by grind
  rw [e3] at rw'
  unfold Ab at *
  constructor <;> grind

/-- A sector's density is from an eighth to a quarter. -/
theorem dens_range {f : Nat} (hf : Num f) (f0 : 0 ≤ val f) (f1 : val f ≤ 1) : Num (densF f) ∧ 1 / 8 ≤ val (densF f) ∧ val (densF f) ≤ 1 / 4 := by
  have hd := dl_le
  have hd0 := dl_ge
  obtain ⟨nf, m0, m1⟩ := unit_mul hf hf f0 f1 f0 f1
  obtain ⟨nq, _⟩ := add_ab num_w1 nf (by rw [val_w1]; unfold Ab; constructor <;> grind)
  obtain ⟨s, m, e, hq, hv⟩ := add_near num_w1 nf
  rw [val_w1] at hv
  have q01 : 1 ≤ val (secQ f) ∧ val (secQ f) ≤ 2 := by
    unfold secQ
    rw [hq] at nq ⊢
    exact ⟨near_lo n_one (by decide +kernel) (by decide +kernel) (by rw [hv]; grind) nq, near_hi n_two (by decide +kernel) (by decide +kernel) (by rw [hv]; grind) nq⟩
  have nq' : Num (secQ f) := nq
  obtain ⟨np, _⟩ := mul_ab nq' num_eighth (by rw [val_eighth]; unfold Ab; constructor <;> grind)
  obtain ⟨s2, m2, e2, hp, hv2⟩ := mul_near nq' num_eighth
  rw [val_eighth] at hv2
  unfold densF
  rw [hp] at np ⊢
  exact ⟨np, near_lo n_8th (by decide +kernel) (by decide +kernel) (by rw [hv2]; grind) np, near_hi n_4th (by decide +kernel) (by decide +kernel) (by rw [hv2]; grind) np⟩

/-- The root less 1; 1 less the root. -/
theorem tent_lo {w : Nat} (hw : Num w) (w0 : 0 ≤ val w) (wl : val w ≤ 1) : Num (fsub (fsqrt w) w1) ∧ -1 ≤ val (fsub (fsqrt w) w1) ∧ val (fsub (fsqrt w) w1) ≤ 1 := by
  obtain ⟨nr, r0, _, _, r1⟩ := sqrt_ab hw w0 (by grind)
  have r1 := r1 wl
  obtain ⟨hn, _⟩ := sub_ab nr num_w1 (by rw [val_w1]; unfold Ab; constructor <;> grind)
  obtain ⟨s, m, e, hf, hv⟩ := sub_near nr num_w1
  rw [val_w1] at hv
  rw [hf] at hn ⊢
  exact ⟨hn, near_lo n_neg (by decide +kernel) (by decide +kernel) (by rw [hv]; grind) hn, near_hi n_one (by decide +kernel) (by decide +kernel) (by rw [hv]; grind) hn⟩
theorem tent_hi {w : Nat} (hw : Num w) (w0 : 0 ≤ val w) (wl : val w ≤ 1) : Num (fsub w1 (fsqrt w)) ∧ -1 ≤ val (fsub w1 (fsqrt w)) ∧ val (fsub w1 (fsqrt w)) ≤ 1 := by
  obtain ⟨nr, r0, _, _, r1⟩ := sqrt_ab hw w0 (by grind)
  obtain ⟨n, a, b⟩ := unit_sub nr r0 (r1 wl)
  exact ⟨n, by grind, b⟩
end Go.Proofs.Ytjcdmdjkolmliaa.Fl

namespace Go.Proofs.Ytjcdmdjkolmliaa.Fl

def w8 : Nat := 4620693217682128896
theorem num_w8 : Num w8 := ⟨false, 4503599627370496, -49, by decide +kernel⟩
theorem val_w8 : val w8 = 8 := by decide +kernel
/-- Eight times a number from 0 on and below 1 needs no rounding. -/
theorem eight_ex {c : Nat} (hc : Num c) (c0 : 0 ≤ val c) (c1 : val c < 1) : Num (fmul w8 c) ∧ val (fmul w8 c) = 8 * val c := by
  have hx : Ex (val w8 * val c) := by
    obtain ⟨s, m, e, hr⟩ := hc
    have hv : val c = sg s ((m : Rat) * 2 ^ e) := by unfold val; rw [hr, dval_number]
    obtain ⟨b1, b2⟩ := number_bounds hr
    have b3 := read_low hr
    rw [val_w8, hv]
    by_cases hm : m = 0
    · subst hm
      refine ⟨s, 0, 0, by decide, by decide, by decide, ?_⟩
      rw [dval_number]
      have z : ∀ x : Rat, ((0 : Nat) : Rat) * x = 0 := fun x => Rat.zero_mul _
      rw [z, z]
      cases s <;> simp [sg]
    · have he : e ≤ 0 := by
        rcases Int.lt_or_le 0 e with k | k
        · exfalso
          have l1 := p2_le (show (1 : Int) ≤ e by omega)
          have z : (2 : Rat) ^ (1 : Int) = 2 := by decide +kernel
          rw [z] at l1
          have l2 : (1 : Rat) ≤ m := by exact_mod_cast Nat.pos_of_ne_zero hm
          have l3 := Rat.mul_nonneg (show (0 : Rat) ≤ m - 1 by grind) (show (0 : Rat) ≤ 2 ^ e by grind)
          cases s
          · simp only [sg, Bool.false_eq_true, if_false] at hv
            grind
          · simp only [sg, if_true] at hv
            have := Rat.mul_pos (show (0 : Rat) < m by grind) (p2_pos e)
            grind
        · exact k
      refine ⟨s, m, e + 3, by omega, by omega, by omega, ?_⟩
      rw [dval_number, p2_add]
      have z : (2 : Rat) ^ (3 : Int) = 8 := by decide +kernel
      rw [z]
      cases s <;> simp only [sg, if_true, Bool.false_eq_true, if_false] <;> grind
  obtain ⟨n, v⟩ := mul_ex num_w8 hc hx
  rw [val_w8] at v
  exact ⟨n, v⟩
/-- The sector of a clean draw. -/
def secK (c : Nat) : Nat := (val (fmul w8 c)).floor.toNat
theorem sec_k {c : Nat} (hc : Num c) (c0 : 0 ≤ val c) (c1 : val c < 1) : truncF (fmul w8 c) = (secK c : Int) ∧ secK c ≤ 7 ∧ (secK c : Rat) ≤ val (fmul w8 c) ∧ val (fmul w8 c) < (secK c : Rat) + 1 := by
  obtain ⟨n, v⟩ := eight_ex hc c0 c1
  have z0 : 0 ≤ val (fmul w8 c) := by rw [v]; grind
  have z8 : val (fmul w8 c) < 8 := by rw [v]; grind
  have f0 : 0 ≤ (val (fmul w8 c)).floor := Rat.le_floor_iff.2 (by exact_mod_cast z0)
  have f1 := Rat.floor_le (val (fmul w8 c))
  have f2 : val (fmul w8 c) < (((val (fmul w8 c)).floor + 1 : Int) : Rat) := by
    by_cases h : val (fmul w8 c) < (((val (fmul w8 c)).floor + 1 : Int) : Rat)
    · exact h
    · exfalso
      have := Rat.le_floor_iff.2 (show (((val (fmul w8 c)).floor + 1 : Int) : Rat) ≤ val (fmul w8 c) by grind)
      omega
  have e : ((secK c : Nat) : Int) = (val (fmul w8 c)).floor := by unfold secK; omega
  have e2 : ((secK c : Nat) : Rat) = (((val (fmul w8 c)).floor : Int) : Rat) := by rw [← e, Rat.intCast_natCast]
  have f3 : (((val (fmul w8 c)).floor + 1 : Int) : Rat) = (secK c : Rat) + 1 := by rw [Rat.intCast_add, e2]; rfl
  rw [f3] at f2
  rw [← e2] at f1
  refine ⟨?_, ?_, f1, f2⟩
  · unfold truncF
    rw [trunc_floor n z0]
    exact e.symm
  · have : (secK c : Rat) < ((8 : Nat) : Rat) := by
      have : ((8 : Nat) : Rat) = 8 := rfl
      grind
    have : secK c < 8 := by exact_mod_cast this
    omega
/-- How far into it. -/
def secF (c : Nat) : Nat := fsub (fmul w8 c) (floatOfInt .f64 (secK c))
theorem sec_f {c : Nat} (hc : Num c) (c0 : 0 ≤ val c) (c1 : val c < 1) : Num (secF c) ∧ 0 ≤ val (secF c) ∧ val (secF c) ≤ 1 := by
  obtain ⟨n, v⟩ := eight_ex hc c0 c1
  obtain ⟨_, k7, k0, k1⟩ := sec_k hc c0 c1
  obtain ⟨nk, vk⟩ := ofint_val (n := (secK c : Int)) (by omega) (by omega)
  rw [Rat.intCast_natCast] at vk
  obtain ⟨hn, _⟩ := sub_ab n nk (by rw [vk]; unfold Ab; constructor <;> grind)
  obtain ⟨s, m, e, hf, hv⟩ := sub_near n nk
  rw [vk] at hv
  unfold secF
  rw [hf] at hn ⊢
  exact ⟨hn, near_lo n_zero (nearest_zero false 0).2 (by decide +kernel) (by rw [hv]; grind) hn, near_hi n_one (by decide +kernel) (by decide +kernel) (by rw [hv]; grind) hn⟩
/-- The reference's test of the next sector. -/
theorem sec_next {c : Nat} (hc : Num c) (c0 : 0 ≤ val c) (c1 : val c < 1) {j : Nat} (hj : j ≤ 8) : leB (floatOfInt .f64 (j : Int)) (fmul w8 c) = decide (j ≤ secK c) := by
  obtain ⟨n, v⟩ := eight_ex hc c0 c1
  obtain ⟨_, k7, k0, k1⟩ := sec_k hc c0 c1
  obtain ⟨nk, vk⟩ := ofint_val (n := (j : Int)) (by omega) (by omega)
  rw [Rat.intCast_natCast] at vk
  rw [leB_val nk n, vk]
  by_cases h : j ≤ secK c
  · rw [decide_eq_true h]
    have : (j : Rat) ≤ (secK c : Rat) := by exact_mod_cast h
    exact decide_eq_true (by grind)
  · rw [decide_eq_false h]
    have : ((secK c + 1 : Nat) : Rat) ≤ (j : Rat) := by exact_mod_cast (show secK c + 1 ≤ j by omega)
    rw [Rat.natCast_add] at this
    have z : ((1 : Nat) : Rat) = 1 := rfl
    exact decide_eq_false (by grind)
end Go.Proofs.Ytjcdmdjkolmliaa.Fl

namespace Go.Proofs.Ytjcdmdjkolmliaa.Fl

def q40 : Nat := 4427038433705197568
def m40 : Nat := 13650410470559973376
def o40 : Nat := 4607182418800021504
theorem num_q40 : Num q40 := ⟨false, 4503599627370496, -92, by decide +kernel⟩
theorem num_m40 : Num m40 := ⟨true, 4503599627370496, -92, by decide +kernel⟩
theorem num_o40 : Num o40 := ⟨false, 4503599627374592, -52, by decide +kernel⟩
theorem val_q40 : val q40 = 64 * dl := by decide +kernel
theorem val_m40 : val m40 = -(64 * dl) := by decide +kernel
theorem val_o40 : val o40 = 1 + 64 * dl := by decide +kernel
theorem near40 {a b : Nat} (ha : Num a) (hb : Num b) (h : Ab (val a - val b) (62 * dl)) : leB (fsub a b) q40 = true ∧ leB m40 (fsub a b) = true := by
  have hd := dl_le
  have hd0 := dl_ge
  obtain ⟨n, e⟩ := sub_ab ha hb (h.mono (by grind))
  rw [leB_val n num_q40, leB_val num_m40 n, val_q40, val_m40]
  unfold Ab at *
  exact ⟨decide_eq_true (by grind), decide_eq_true (by grind)⟩
theorem neg_val {x : Nat} (hx : Num x) : Num (fsub 0 x) ∧ val (fsub 0 x) = -val x := by
  have hx0 := hx
  have h : Ex (val 0 - val x) := by
    obtain ⟨s, m, e, hr⟩ := hx
    obtain ⟨b1, b2⟩ := number_bounds hr
    refine ⟨!s, m, e, by omega, read_low hr, b2, ?_⟩
    have hv : val x = sg s ((m : Rat) * 2 ^ e) := by unfold val; rw [hr, dval_number]
    rw [val_zero, hv, dval_number]
    cases s <;> simp only [sg, Bool.not_true, Bool.not_false, if_true, Bool.false_eq_true, if_false] <;> grind
  obtain ⟨n, v⟩ := sub_ex num_zero hx0 h
  exact ⟨n, by rw [v, val_zero]; grind⟩
theorem Unit2.negx {x y : Nat} (h : Unit2 x y) : Unit2 (fsub 0 x) y := by
  obtain ⟨n, v⟩ := neg_val h.nx
  have a := h.ax
  have l := h.len
  refine ⟨n, h.ny, ?_, h.ay, ?_⟩
  · rw [v]; unfold Ab at *; constructor <;> grind
  · rw [v]; unfold Ab at *; constructor <;> grind
theorem Unit2.negy {x y : Nat} (h : Unit2 x y) : Unit2 x (fsub 0 y) := h.swap.negx.swap
/-- The square of the length of a pair that is nearly of length 1. -/
theorem Unit2.near {x y : Nat} (h : Unit2 x y) : Num (fadd (fmul x x) (fmul y y)) ∧ Ab (val (fadd (fmul x x) (fmul y y)) - 1) (28 * dl) := by
  have hd := dl_le
  have hd0 := dl_ge
  have xx := h.ax.mul h.ax
  have yy := h.ay.mul h.ay
  have l := h.len
  obtain ⟨n1, e1⟩ := mul_ab h.nx h.nx (xx.mono (by grind))
  obtain ⟨n2, e2⟩ := mul_ab h.ny h.ny (yy.mono (by grind))
  obtain ⟨n3, e3⟩ := add_ab n1 n2 (by unfold Ab at *; constructor <;> grind)
  refine ⟨n3, ?_⟩
  unfold Ab at *
  constructor <;> grind
end Go.Proofs.Ytjcdmdjkolmliaa.Fl

namespace Go.Proofs.Ytjcdmdjkolmliaa.Fl

theorem add_some {x y : Nat} (hx : Num x) (hy : Num y) : F64.add x y = some (fadd x y) := by
  obtain ⟨s, m, i, hx⟩ := hx
  obtain ⟨t, n, j, hy⟩ := hy
  obtain ⟨a, b, c, h, _⟩ := sum_val s t m n i j
  unfold fadd Ieee.Format.add
  rw [hx, hy, h]
  rfl
theorem sub_some {x y : Nat} (hx : Num x) (hy : Num y) : F64.sub x y = some (fsub x y) := by
  obtain ⟨s, m, i, hx⟩ := hx
  obtain ⟨t, n, j, hy⟩ := hy
  unfold fsub Ieee.Format.sub
  obtain ⟨a, b, c, h, _⟩ := sum_val s (!t) m n i j
  rw [hx, hy, Ieee.Datum.opposite, h]
  rfl
theorem sqrt_num {x : Nat} (hx : Num x) (h0 : 0 ≤ val x) : F64.sqrt x = some (fsqrt x) := by
  obtain ⟨s, m, i, hr⟩ := hx
  have hvx : val x = sg s ((m : Rat) * 2 ^ i) := by unfold val; rw [hr, dval_number]
  unfold fsqrt Ieee.Format.sqrt
  rw [hr]
  by_cases hm : m = 0
  · subst hm
    simp [Ieee.Datum.root]
  · have hs : s = false := by
      cases s
      · rfl
      · exfalso
        have h2 : (0 : Rat) < m := by exact_mod_cast Nat.pos_of_ne_zero hm
        have h3 := Rat.mul_pos h2 (p2_pos i)
        rw [hvx] at h0
        simp only [sg, if_true] at h0
        grind
    subst hs
    simp [Ieee.Datum.root, hm]
section
variable {P : Program} (w : World)
theorem run_add_num (t : TypeId) {x y : Nat} (hx : Num x) (hy : Num y) : (binOp .add t (.float .f64 x) (.float .f64 y)).run P w = .ok (.float .f64 (fadd x y)) w :=
  run_float_arith w .add t .f64 x y _ (add_some hx hy)
theorem run_sub_num (t : TypeId) {x y : Nat} (hx : Num x) (hy : Num y) : (binOp .sub t (.float .f64 x) (.float .f64 y)).run P w = .ok (.float .f64 (fsub x y)) w :=
  run_float_arith w .sub t .f64 x y _ (sub_some hx hy)
theorem run_sqrt_num {x : Nat} (hx : Num x) (h0 : 0 ≤ val x) : (Extern.MathSqrt.sqrt #[.float .f64 x]).run P w = .ok (.float .f64 (fsqrt x)) w := by
  rw [sqrt_some (sqrt_num hx h0)]
  rfl
/-- A quotient by what is not 0. -/
theorem run_quo_num (t : TypeId) {x y : Nat} (hx : Num x) (hy : Num y) (hz : val y ≠ 0) : (binOp .quo t (.float .f64 x) (.float .f64 y)).run P w = .ok (.float .f64 (fdiv x y)) w := by
  obtain ⟨s, m, i, hr⟩ := hy
  refine run_div_num w t hx hr ?_
  rintro rfl
  apply hz
  unfold val
  rw [hr, dval_number]
  have z : ((0 : Nat) : Rat) * 2 ^ i = 0 := Rat.zero_mul _
  rw [z]
  cases s <;> simp [sg]
end
end Go.Proofs.Ytjcdmdjkolmliaa.Fl

namespace Go.Proofs.Ytjcdmdjkolmliaa
open Go.RowKit Fl

theorem aside {p : Prop} (h : p) : Aside p := h
/-- Whether a draw counts. -/
def okB (x : Nat) : Bool := (ford x 0 == some .gt || ford x 0 == some .eq) && ford x 4607182418800017408 == some .lt
/-- What a draw counts as. -/
def cleanF (x : Nat) : Nat := if okB x then x else 0

set_option maxRecDepth 100000 in
set_option maxHeartbeats 1000000 in
theorem clean_any (x : Nat) (w : World) : Calls Try.prog 39 #[.float .f64 x] w fun e w' => e = .returned (.float .f64 (cleanF x)) ∧ w' = w := by
  unfold cleanF okB
  have hp : (FloatKind.f64.format.order x 0 == some .gt) = (ford x 0 == some .gt) := rfl
  have hq : (FloatKind.f64.format.order x 0 == some .eq) = (ford x 0 == some .eq) := rfl
  have hr : (FloatKind.f64.format.order x 4607182418800017408 == some .lt) = (ford x 4607182418800017408 == some .lt) := rfl
  generalize (ford x 0 == some .gt) = p at hp ⊢
  generalize (ford x 0 == some .eq) = q at hq ⊢
  generalize (ford x 4607182418800017408 == some .lt) = r at hr ⊢
  cases p <;> cases q <;> cases r <;>
  · go_enter Try.func39, Try.ntmps39
    go_wp2_with fail
    go_ret
    exact ⟨rfl, rfl⟩

theorem ford_three {x y : Nat} (h : isN x = false) (k : isN y = false) : ford x y = some .lt ∨ ford x y = some .eq ∨ ford x y = some .gt := by
  have hs : (ford x y).isSome = true := by
    unfold isN Ieee.Datum.isNaN at h k
    unfold ford Ieee.Format.order
    cases hr : F64.read x with
    | nan s f => simp [hr] at h
    | number s m e => cases hq : F64.read y with
      | nan s f => simp [hq] at k
      | number s m e => simp [Ieee.Datum.order]
      | infinity s => simp [Ieee.Datum.order]
    | infinity s => cases hq : F64.read y with
      | nan s f => simp [hq] at k
      | number s m e => simp [Ieee.Datum.order]
      | infinity s => simp [Ieee.Datum.order]
  cases h1 : ford x y with
  | none => rw [h1] at hs; cases hs
  | some o => cases o <;> simp

theorem isN_zero : isN 0 = false := by decide +kernel
theorem isN_one : isN 4607182418800017408 = false := by decide +kernel
/-- The reference's test is the other's. -/
theorem clean_key (x : Nat) : ((ford x 0 == some .lt || (ford x 4607182418800017408 == some .gt || ford x 4607182418800017408 == some .eq)) || !(ford x x == some .eq)) = !okB x := by
  unfold okB
  rw [ford_self]
  cases h : isN x
  · rcases ford_three h isN_zero with k | k | k <;> rcases ford_three h isN_one with l | l | l <;> rw [k, l] <;> decide
  · rw [ord_nan_left h, ord_nan_left h]; decide

set_option maxRecDepth 100000 in
set_option maxHeartbeats 2000000 in
theorem rclean_any (x : Nat) (w : World) : Calls Try.prog 7 #[.float .f64 x] w fun e w' => e = .returned (.float .f64 (cleanF x)) ∧ w' = w := by
  have hk := clean_key x
  have hc : cleanF x = if okB x then x else 0 := rfl
  generalize okB x = ok at hk hc
  rw [hc]
  clear hc
  have hp : (FloatKind.f64.format.order x 0 == some .lt) = (ford x 0 == some .lt) := rfl
  have hq : (FloatKind.f64.format.order x 4607182418800017408 == some .gt) = (ford x 4607182418800017408 == some .gt) := rfl
  have hr : (FloatKind.f64.format.order x 4607182418800017408 == some .eq) = (ford x 4607182418800017408 == some .eq) := rfl
  have hs : (FloatKind.f64.format.order x x != some .eq) = !(ford x x == some .eq) := rfl
  generalize (ford x 0 == some .lt) = p at *
  generalize (ford x 4607182418800017408 == some .gt) = q at *
  generalize (ford x 4607182418800017408 == some .eq) = r at *
  generalize (ford x x == some .eq) = s at *
  cases p <;> cases q <;> cases r <;> cases s <;> cases ok <;> first | (exact absurd hk (by decide)) | skip
  all_goals
    clear hk
    go_enter Try.func7, Try.ntmps7
    go_wp2_with fail
    go_ret
    exact ⟨rfl, rfl⟩

/-- What is clean is a number from 0 on, below 1. -/
theorem clean_num (x : Nat) : Num (cleanF x) ∧ 0 ≤ val (cleanF x) ∧ val (cleanF x) < 1 := by
  unfold cleanF
  cases h : okB x
  · simp only [Bool.false_eq_true, if_false]
    exact ⟨num_zero, by rw [val_zero]; exact Rat.le_refl, by rw [val_zero]; decide⟩
  · simp only [if_true]
    unfold okB at h
    rw [Bool.and_eq_true, geB_eq] at h
    obtain ⟨h1, h2⟩ := h
    have hl : leB x 4607182418800017408 = true := by unfold leB; rw [h2]; rfl
    have hn : Num x := by
      obtain ⟨s, m, e, hr⟩ := num_w1
      obtain ⟨s', m', e', hr'⟩ := num_zero
      cases hx : F64.read x with
      | nan a b =>
        exfalso
        have : isN x = true := by unfold isN; rw [hx]; rfl
        have := (leB_not_nan hl).1
        simp_all
      | infinity a =>
        exfalso
        unfold w1 at hr
        unfold leB ford Ieee.Format.order at hl h1
        rw [hx, hr] at hl
        rw [hr', hx] at h1
        cases a
        · cases hl
        · cases h1
      | number a b c => exact ⟨a, b, c, hx⟩
    rw [leB_val num_zero hn, val_zero] at h1
    have h3 := lt_val hn num_w1
    unfold w1 at h3
    rw [h2] at h3
    have h4 := val_w1
    unfold w1 at h4
    rw [h4] at h3
    exact ⟨hn, of_decide_eq_true h1, of_decide_eq_true h3.symm⟩
theorem clean_zero : cleanF 0 = 0 := by decide +kernel
end Go.Proofs.Ytjcdmdjkolmliaa

namespace Go.Proofs.Ytjcdmdjkolmliaa
open Go.RowKit Fl

set_option maxRecDepth 100000 in
set_option maxHeartbeats 1000000 in
theorem prod_num {x y : Nat} (hx : Num x) (hy : Num y) (w : World) : Calls Try.prog 40 #[.float .f64 x, .float .f64 y] w fun e w' => e = .returned (.float .f64 (fmul x y)) ∧ w' = w := by
  have hm : ∀ w, _ := fun w => run_mul_num (P := Try.prog) w 22 hx hy
  clear hx hy
  go_enter Try.func40, Try.ntmps40
  go_wp2_with fail
  go_ret
  exact ⟨rfl, rfl⟩

theorem ext_sqrt (x : Nat) (w : World) : (callFunc 27 #[.float .f64 x]).run Try.prog w = (Extern.MathSqrt.sqrt #[.float .f64 x] >>= fun v => pure (Next.value v)).run Try.prog w := by kernel_rfl
theorem run_ext_sqrt {x : Nat} (hx : Num x) (h0 : 0 ≤ val x) (w : World) : (callFunc 27 #[.float .f64 x]).run Try.prog w = .ok (.value (.float .f64 (fsqrt x))) w := by
  rw [ext_sqrt, Sem.run_bind, run_sqrt_num w hx h0]
  rfl

set_option maxRecDepth 100000 in
set_option maxHeartbeats 1000000 in
theorem root_num {x : Nat} (hx : Num x) (h0 : 0 ≤ val x) (w : World) : Calls Try.prog 6 #[.float .f64 x] w fun e w' => e = .returned (.float .f64 (fsqrt x)) ∧ w' = w := by
  have hm : ∀ w, _ := fun w => run_ext_sqrt hx h0 w
  clear hx h0
  go_enter Try.func6, Try.ntmps6
  go_wp2_with fail
  go_ret
  exact ⟨rfl, rfl⟩

end Go.Proofs.Ytjcdmdjkolmliaa
