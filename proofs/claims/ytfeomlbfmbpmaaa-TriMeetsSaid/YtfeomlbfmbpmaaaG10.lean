/- Words not below 0, infinite or not: sums, products, quotients keep order; what is cut off behind the point. Numbers: where a determinant is 0 or none, no place is one of the triangle; and U is not above 1 where U and V together are not. The reference's Join. The reference's Of. The reference's Through. -/
import Derived.Laws.FloatArith
import Derived.Deep.LoopGhost
import Derived.Test.YtfeomlbfmbpmaaaG9
import Derived.Test.YtfeomlbfmbpmaaaG8
import Derived.Test.YtfeomlbfmbpmaaaRows
import Derived.Test.YtfeomlbfmbpmaaaG5
import Derived.Test.YtfeomlbfmbpmaaaG3
import Derived.Test.YtfeomlbfmbpmaaaG7
namespace Go.Proofs.Ytfeomlbfmbpmaaa.Fl

/-- Not below 0: a number, or infinite. -/
def Nn (x : Nat) : Prop := (Num x ∧ 0 ≤ val x) ∨ F64.read x = .infinity false

theorem Nn.not_nan {x : Nat} (h : Nn x) : isN x = false := h.elim (fun h => not_nan_num h.1) not_nan_inf
theorem nn_of_le {x : Nat} (h : leB 0 x = true) : Nn x := by
  cases hr : F64.read x with
  | nan s f =>
    exfalso
    have : isN x = true := by unfold isN; rw [hr]; rfl
    have := (leB_not_nan h).2
    simp_all
  | infinity s =>
    cases s
    · exact .inr hr
    · exfalso
      unfold leB ford Ieee.Format.order at h
      rw [read_zero, hr] at h
      cases h
  | number s m e =>
    have hn : Num x := ⟨_, _, _, hr⟩
    refine .inl ⟨hn, ?_⟩
    rw [leB_val num_zero hn, val_zero] at h
    exact of_decide_eq_true h
theorem Nn.le {x : Nat} (h : Nn x) : leB 0 x = true := by
  rcases h with ⟨hn, h⟩ | h
  · rw [leB_val num_zero hn, val_zero]; exact decide_eq_true h
  · exact leB_high h (not_nan_num num_zero)
theorem num_of_fin {x : Nat} (h : numB x = true) : Num x := by
  cases hr : F64.read x with
  | nan s f =>
    exfalso
    have : isN x = true := by unfold isN; rw [hr]; rfl
    unfold numB at h
    rw [this] at h
    cases h
  | infinity s =>
    exfalso
    unfold numB at h
    rw [is_inf hr] at h
    simp at h
  | number s m e => exact ⟨_, _, _, hr⟩
theorem nearest_nn {neg : Bool} {m : Nat} {p : Int} (h : 0 ≤ dval (.number neg m p)) : Nn (F64.nearest neg m p) := by
  refine nn_of_le ?_
  have e : F64.nearest false 0 0 = 0 := by decide +kernel
  have hz : dval (.number false 0 0) = 0 := by
    rw [dval_number]
    have : ((0 : Nat) : Rat) * 2 ^ (0 : Int) = 0 := Rat.zero_mul _
    rw [this]
    rfl
  have := nearest_mono (n1 := false) (m1 := 0) (p1 := 0) (n2 := neg) (m2 := m) (p2 := p) (by rw [hz]; exact h)
  rwa [e] at this

/-- An order among them. -/
theorem Nn.cases {x y : Nat} (hy : Nn y) (h : leB x y = true) (hx : Nn x) : F64.read y = .infinity false ∨ (Num x ∧ Num y ∧ 0 ≤ val x ∧ val x ≤ val y) := by
  rcases hy with ⟨ny, y0⟩ | hy
  · right
    rcases hx with ⟨nx, x0⟩ | hx
    · refine ⟨nx, ny, x0, ?_⟩
      rw [leB_val nx ny] at h
      exact of_decide_eq_true h
    · exfalso
      obtain ⟨s, m, e, hr⟩ := ny
      unfold leB ford Ieee.Format.order at h
      rw [hx, hr] at h
      cases h
  · exact .inl hy

theorem sum_in (s t : Bool) (m : Nat) (e : Int) : (Ieee.Datum.infinity s).sum (.number t m e) = some (.infinity s) := rfl
theorem sum_ni (s t : Bool) (m : Nat) (e : Int) : (Ieee.Datum.number t m e).sum (.infinity s) = some (.infinity s) := rfl
theorem sum_ii : (Ieee.Datum.infinity false).sum (.infinity false) = some (.infinity false) := rfl
theorem add_is {x y : Nat} {s : Bool} (h : (F64.read x).sum (F64.read y) = some (.infinity s)) : F64.read (fadd x y) = .infinity s := by
  unfold fadd Ieee.Format.add
  rw [h, Option.map_some, Option.getD_some]
  exact write_inf s
theorem add_inf_left {x y : Nat} (hx : F64.read x = .infinity false) (hy : Nn y) : F64.read (fadd x y) = .infinity false := by
  rcases hy with ⟨⟨s, m, e, hr⟩, _⟩ | hr
  · exact add_is (by rw [hx, hr, sum_in])
  · exact add_is (by rw [hx, hr, sum_ii])
theorem add_inf_right {x y : Nat} (hy : F64.read y = .infinity false) (hx : Nn x) : F64.read (fadd x y) = .infinity false := by
  rcases hx with ⟨⟨s, m, e, hr⟩, _⟩ | hr
  · exact add_is (by rw [hy, hr, sum_ni])
  · exact add_is (by rw [hy, hr, sum_ii])

theorem add_nn {x y : Nat} (hx : Nn x) (hy : Nn y) : Nn (fadd x y) := by
  have hx' := hx
  have hy' := hy
  rcases hx with ⟨nx, x0⟩ | hx
  · rcases hy with ⟨ny, y0⟩ | hy
    · obtain ⟨n, m, p, e, v⟩ := add_near nx ny
      rw [e]
      exact nearest_nn (by rw [v]; grind)
    · exact .inr (add_inf_right hy hx')
  · exact .inr (add_inf_left hx hy')
theorem add_nn_mono {x y u v : Nat} (hx : Nn x) (hy : Nn y) (hu : Nn u) (hv : Nn v) (h : leB x u = true) (k : leB y v = true) : leB (fadd x y) (fadd u v) = true := by
  rcases hu.cases h hx with iu | ⟨nx, nu, x0, hle⟩
  · exact leB_high (add_inf_left iu hv) (add_nn hx hy).not_nan
  · rcases hv.cases k hy with iv | ⟨ny, nv, y0, kle⟩
    · exact leB_high (add_inf_right iv hu) (add_nn hx hy).not_nan
    · exact add_mono nx ny nu nv (by grind)
/-- A sum is not less than a part of it. -/
theorem le_add {x y : Nat} (hx : Num x) (hy : Num y) (y0 : 0 ≤ val y) : leB x (fadd x y) = true := by
  obtain ⟨n, m, p, e, v⟩ := add_near hx hy
  obtain ⟨s, m1, e1, hr⟩ := hx
  obtain ⟨a, b⟩ := nearest_exact hr
  have hxn : Num x := ⟨_, _, _, hr⟩
  have h1 : leB x (F64.nearest s m1 e1) = true := by rw [leB_val hxn a, b]; exact decide_eq_true Rat.le_refl
  refine leB_trans h1 ?_
  rw [e]
  refine nearest_mono ?_
  rw [v]
  have : val x = dval (.number s m1 e1) := by unfold val; rw [hr]
  grind

def three : Nat := 4613937818241073152
def sixteen : Nat := 4625196817309499392
def one16 : Nat := 4607182418800017408
def maxW : Nat := 4697254411347427328
theorem read_three : F64.read three = .number false 6755399441055744 (-51) := by decide +kernel
theorem read_sixteen : F64.read sixteen = .number false 4503599627370496 (-48) := by decide +kernel
theorem num_three : Num three := ⟨_, _, _, read_three⟩
theorem val_three : val three = 3 := by unfold val; rw [read_three]; decide +kernel
theorem num_sixteen : Num sixteen := ⟨_, _, _, read_sixteen⟩
theorem val_sixteen : val sixteen = 16 := by unfold val; rw [read_sixteen]; decide +kernel
theorem num_one16 : Num one16 := ⟨false, 4503599627370496, -52, by decide +kernel⟩
theorem val_one16 : val one16 = 1 := by
  unfold val
  rw [show F64.read one16 = .number false 4503599627370496 (-52) by decide +kernel]
  decide +kernel
theorem num_max : Num maxW := ⟨false, 4503599627370496, -32, by decide +kernel⟩
theorem val_max : val maxW = 1048576 := by
  unfold val
  rw [show F64.read maxW = .number false 4503599627370496 (-32) by decide +kernel]
  decide +kernel

theorem div_inf_num {x : Nat} (hx : F64.read x = .infinity false) : F64.read (fdiv x three) = .infinity false := by
  unfold fdiv Ieee.Format.div
  rw [hx, read_three]
  simp only [Ieee.Datum.quotient, Option.map_some, Option.getD_some, Bool.xor_false]
  exact write_inf false
theorem div_nn {x : Nat} (hx : Nn x) : Nn (fdiv x three) := by
  rcases hx with ⟨nx, x0⟩ | hx
  · refine nn_of_le ?_
    have h := div_mono num_zero nx num_three (by rw [val_three]; decide) (by rw [val_zero]; exact Rat.le_refl) (by rw [val_zero]; exact x0)
    have e : fdiv 0 three = 0 := by decide +kernel
    rwa [e] at h
  · exact .inr (div_inf_num hx)
theorem div_nn_mono {x u : Nat} (hx : Nn x) (hu : Nn u) (h : leB x u = true) : leB (fdiv x three) (fdiv u three) = true := by
  rcases hu.cases h hx with iu | ⟨nx, nu, x0, hle⟩
  · exact leB_high (div_inf_num iu) (div_nn hx).not_nan
  · exact div_mono nx nu num_three (by rw [val_three]; decide) x0 hle
theorem mul_nn {x : Nat} (hx : Nn x) : Nn (fmul x sixteen) := by
  rcases hx with ⟨nx, x0⟩ | hx
  · obtain ⟨n, m, p, e, v⟩ := mul_near nx num_sixteen
    rw [e]
    exact nearest_nn (by rw [v, val_sixteen]; grind)
  · exact .inr (mul_inf_num hx read_sixteen (by decide))
theorem mul_nn_mono {x u : Nat} (hx : Nn x) (hu : Nn u) (h : leB x u = true) : leB (fmul x sixteen) (fmul u sixteen) = true :=
  mul_order (t := false) h (.inl ⟨_, _, read_sixteen, by decide⟩) (mul_nn hx).not_nan (mul_nn hu).not_nan

/-- What is ahead of the point. -/
def truncF (x : Nat) : Int := ((F64.read x).toInt .zero).getD 0

theorem cut_zero (n drop : Nat) : Ieee.Toward.zero.cut false n drop = n / 2 ^ drop := by
  unfold Ieee.Toward.cut
  simp only [Nat.one_shiftLeft, Bool.toNat_false, Nat.add_zero]
  rcases Nat.lt_or_ge (n.log2 + 2) drop with hd | hd
  · rw [Nat.min_eq_right (Nat.le_of_lt hd)]
    have h1 : n < 2 ^ (n.log2 + 1) := Nat.lt_log2_self
    have h2 : 2 ^ (n.log2 + 1) ≤ 2 ^ (n.log2 + 2) := Nat.pow_le_pow_right (by decide) (by omega)
    have h3 : 2 ^ (n.log2 + 1) ≤ 2 ^ drop := Nat.pow_le_pow_right (by decide) (by omega)
    rw [Nat.div_eq_of_lt (by omega), Nat.div_eq_of_lt (by omega)]
  · rw [Nat.min_eq_left hd]

theorem floor_of {v : Rat} {t : Nat} (h : (t : Rat) ≤ v) (k : v < (t : Rat) + 1) : v.floor = (t : Int) := by
  have h1 : (t : Int) ≤ v.floor := Rat.le_floor_iff.2 (by rw [Rat.intCast_natCast]; exact h)
  have h2 := Rat.floor_le v
  have h3 : ((v.floor : Int) : Rat) < (((t : Int) + 1 : Int) : Rat) := by
    have e : (((t : Int) + 1 : Int) : Rat) = (t : Rat) + 1 := by rw [Rat.intCast_add, Rat.intCast_natCast]; rfl
    rw [e]
    grind
  have h4 : v.floor < (t : Int) + 1 := by exact_mod_cast h3
  omega

theorem trunc_floor {x : Nat} (hx : Num x) (h0 : 0 ≤ val x) : (F64.read x).toInt .zero = some (val x).floor := by
  obtain ⟨s, m, e, hr⟩ := hx
  have hv : val x = sg s ((m : Rat) * 2 ^ e) := by unfold val; rw [hr, dval_number]
  have p := mag_nonneg m e
  cases s
  · simp only [sg, Bool.false_eq_true, if_false] at hv
    have hi : (F64.read x).toInt .zero = some ((m * 2 ^ e.toNat / 2 ^ (-e).toNat : Nat) : Int) := by
      rw [hr]
      unfold Ieee.Datum.toInt Ieee.Datum.integral
      simp only [cut_zero, Nat.shiftLeft_eq]
      simp [Ieee.signed]
    rw [hi, hv]
    congr 1
    symm
    generalize hn : m * 2 ^ e.toNat = n
    generalize hd : (-e).toNat = d
    have hval : (m : Rat) * 2 ^ e * 2 ^ (d : Int) = (n : Rat) := by
      rw [← hn, Rat.natCast_mul, ← p2_nat, Rat.mul_assoc, ← p2_add]
      congr 2
      omega
    have hp := p2_pos (d : Int)
    have e1 := Nat.div_add_mod n (2 ^ d)
    have r1 := Nat.mod_lt n (Nat.two_pow_pos d)
    have lo : n / 2 ^ d * 2 ^ d ≤ n := Nat.div_mul_le_self _ _
    have hi2 : n < (n / 2 ^ d + 1) * 2 ^ d := by rw [Nat.add_mul, Nat.one_mul, Nat.mul_comm]; omega
    have lo' : ((n / 2 ^ d : Nat) : Rat) * 2 ^ (d : Int) ≤ n := by rw [p2_nat]; exact_mod_cast lo
    have hi' : (n : Rat) < (((n / 2 ^ d : Nat) : Rat) + 1) * 2 ^ (d : Int) := by rw [p2_nat]; exact_mod_cast hi2
    rw [← hval] at lo' hi'
    refine floor_of ?_ ?_
    · exact Rat.le_of_mul_le_mul_right lo' hp
    · exact Rat.lt_of_mul_lt_mul_right hi' (Rat.le_of_lt hp)
  · simp only [sg, if_true] at hv
    have z : (m : Rat) * 2 ^ e = 0 := by grind
    have hm : m = 0 := by
      refine Classical.byContradiction fun hm => ?_
      have : (0 : Rat) < m := by exact_mod_cast Nat.pos_of_ne_zero hm
      have := Rat.mul_pos this (p2_pos e)
      grind
    subst hm
    have hv0 : val x = 0 := by rw [hv, z]; rfl
    rw [hv0, hr]
    unfold Ieee.Datum.toInt Ieee.Datum.integral Ieee.Toward.cut
    simp [Ieee.signed]
    decide +kernel
end Go.Proofs.Ytfeomlbfmbpmaaa.Fl

namespace Go.Proofs.Ytfeomlbfmbpmaaa
open Go.RowKit Fl

/-- A determinant by which one may divide. -/
def okd (d : Nat) : Bool := ford d 0 == some .lt || ford d 0 == some .gt
theorem read_nought : F64.read 0 = .number false 0 (-1074) := by decide +kernel
theorem read_one : F64.read 4607182418800017408 = .number false 4503599627370496 (-52) := by decide +kernel
theorem okd_off {d : Nat} (h : okd d = false) : isN d = true ∨ ∃ s e, F64.read d = .number s 0 e := by
  unfold okd ford Ieee.Format.order at h
  rw [read_nought] at h
  cases hr : F64.read d with
  | nan s f => exact .inl (by unfold isN; rw [hr]; rfl)
  | infinity s => rw [hr] at h; cases s <;> cases h
  | number s m e =>
    refine .inr ⟨s, e, ?_⟩
    rw [hr] at h
    by_cases hm : m = 0
    · rw [hm]
    · exfalso
      have hn : Num d := ⟨s, m, e, hr⟩
      have hs := num_sign hr hm
      have h2 : okd d = false := by unfold okd ford Ieee.Format.order; rw [read_nought, hr]; exact h
      unfold okd at h2
      rw [Bool.or_eq_false_iff] at h2
      have a := lt_val hn num_zero
      have b := gt_val hn num_zero
      rw [val_zero] at a b
      have a2 := h2.1
      have b2 := h2.2
      rw [a] at a2
      rw [b] at b2
      have a3 := of_decide_eq_false a2
      have b3 := of_decide_eq_false b2
      cases s
      · have : 0 < val d := by simpa using hs
        exact b3 (by grind)
      · have : val d < 0 := by simpa using hs
        exact a3 (by grind)
theorem inv_zero {d : Nat} {s : Bool} {e : Int} (h : F64.read d = .number s 0 e) : ∃ t, F64.read (fdiv 4607182418800017408 d) = .infinity t := by
  refine ⟨(false ^^ s), ?_⟩
  unfold fdiv Ieee.Format.div
  rw [read_one, h]
  simp only [Ieee.Datum.quotient, if_true, if_neg (show ¬ (4503599627370496 : Nat) = 0 by decide), Option.map_some, Option.getD_some]
  exact write_inf _
theorem mul_inf_any {x i : Nat} {s : Bool} (h : F64.read i = .infinity s) : isN (fmul x i) = true ∨ ∃ t, F64.read (fmul x i) = .infinity t := by
  cases hr : F64.read x with
  | nan t f => exact .inl (by unfold fmul; rw [mul_nan_left (by unfold isN; rw [hr]; rfl)]; exact isN_qnan)
  | infinity t => exact .inr ⟨_, mul_inf_inf hr h⟩
  | number t m e =>
    by_cases hm : m = 0
    · subst hm; exact .inl (mul_zero_inf hr h)
    · exact .inr ⟨_, mul_num_inf hr h hm⟩
theorem ge_nan {x : Nat} (h : isN x = true) : geB x 0 = false := by unfold geB; rw [ord_nan_left h]; rfl
theorem ge_inf {x : Nat} {t : Bool} (h : F64.read x = .infinity t) (k : geB x 0 = true) : F64.read x = .infinity false := by
  cases t
  · exact h
  · unfold geB ford Ieee.Format.order at k
    rw [h, read_nought] at k
    cases k
theorem le_inf {x : Nat} (h : F64.read x = .infinity false) : leB x 4607182418800017408 = false := by
  unfold leB ford Ieee.Format.order
  rw [h, read_one]
  rfl
theorem inside_det {a b d : Nat} (h : okd d = false) : insideB (fmul a (fdiv 4607182418800017408 d)) (fmul b (fdiv 4607182418800017408 d)) = false := by
  unfold insideB
  cases hu : geB (fmul a (fdiv 4607182418800017408 d)) 0
  · rfl
  cases hv : geB (fmul b (fdiv 4607182418800017408 d)) 0
  · rfl
  rcases okd_off h with hn | ⟨s, e, hr⟩
  · have : isN (fdiv 4607182418800017408 d) = true := by unfold fdiv; rw [div_nan_right hn]; exact isN_qnan
    have k : isN (fmul a (fdiv 4607182418800017408 d)) = true := by
      show isN ((F64.mul _ _).getD qnan) = true
      rw [mul_nan_right this]; exact isN_qnan
    rw [ge_nan k] at hu
    cases hu
  · obtain ⟨t, hi⟩ := inv_zero hr
    rcases mul_inf_any (x := a) hi with k | ⟨t1, k⟩
    · rw [ge_nan k] at hu; cases hu
    rcases mul_inf_any (x := b) hi with k2 | ⟨t2, k2⟩
    · rw [ge_nan k2] at hv; cases hv
    rw [le_inf (add_inf_left (ge_inf k hu) (.inr (ge_inf k2 hv)))]
    rfl
theorem inside_one {U V : Nat} (h : insideB U V = true) : leB U 4607182418800017408 = true := by
  unfold insideB at h
  simp only [Bool.and_eq_true] at h
  obtain ⟨⟨hu, hv⟩, hs⟩ := h
  have nu : Nn U := nn_of_le (by rw [← geB_eq]; exact hu)
  have nv : Nn V := nn_of_le (by rw [← geB_eq]; exact hv)
  rcases nu with ⟨nu, u0⟩ | iu
  · rcases nv with ⟨nv, v0⟩ | iv
    · exact leB_trans (le_add nu nv v0) hs
    · rw [le_inf (add_inf_right iv (.inl ⟨nu, u0⟩))] at hs; cases hs
  · rw [le_inf (add_inf_left iu nv)] at hs; cases hs
end Go.Proofs.Ytfeomlbfmbpmaaa

namespace Go.Proofs.Ytfeomlbfmbpmaaa
open Go.RowKit Fl

set_option maxRecDepth 100000 in
set_option maxHeartbeats 1000000 in
theorem rjoin_any (a0 a1 a2 a3 a4 a5 b0 b1 b2 b3 b4 b5 : Nat) (w : World) : Ret Try.prog 32 #[.agg #[.float .f64 a0, .float .f64 a1, .float .f64 a2, .float .f64 a3, .float .f64 a4, .float .f64 a5], .agg #[.float .f64 b0, .float .f64 b1, .float .f64 b2, .float .f64 b3, .float .f64 b4, .float .f64 b5]] w (fun v => v = .agg #[.float .f64 (lowF a0 b0), .float .f64 (lowF a1 b1), .float .f64 (lowF a2 b2), .float .f64 (highF a3 b3), .float .f64 (highF a4 b4), .float .f64 (highF a5 b5)]) := by
  unfold Ret
  go_enter Try.func32, Try.ntmps32
  go_wp2_with fail
  apply Lp.wp_region_loose _ _ 45 (by kernel_rfl) (by kernel_rfl) (by kernel_rfl) (Below.refl _ _)
  apply Lp.facts
  · intro w1 hw
    exact And.intro (Lp.c3 hw (w.heap.size) 0 1 2 (by go_simp; exact rfl) (by go_simp; exact rfl) (by go_simp; exact rfl) (by go_simp; done)) (And.intro (Lp.c3 hw (w.heap.size) 3 4 5 (by go_simp; exact rfl) (by go_simp; exact rfl) (by go_simp; exact rfl) (by go_simp; done)) (And.intro (Lp.c3 hw (w.heap.size + 1) 0 1 2 (by go_simp; exact rfl) (by go_simp; exact rfl) (by go_simp; exact rfl) (by go_simp; done)) ((Lp.c3 hw (w.heap.size + 1) 3 4 5 (by go_simp; exact rfl) (by go_simp; exact rfl) (by go_simp; exact rfl) (by go_simp; done)))))
  intro HF
  iterate 6 (
    apply Lp.one ?_ rfl
    · intro w hw
      obtain ⟨⟨c0, c1, c2⟩, ⟨⟨c3, c4, c5⟩, ⟨⟨c6, c7, c8⟩, ⟨c9, c10, c11⟩⟩⟩⟩ := HF.out _ hw
      go_simp
      exact rfl
    intro K hK
    go_simp
    refine hK.out _ ?_
    clear hK K)
  apply Lp.any rfl
  · intro w hw
    go_simp
    exact Lp.ret (Ret.of_same (rlow_any _ _ _))
  intro K hK
  rintro v rfl
  go_simp
  refine hK.out _ ?_
  clear hK K
  iterate 6 (
    apply Lp.one ?_ rfl
    · intro w hw
      obtain ⟨⟨c0, c1, c2⟩, ⟨⟨c3, c4, c5⟩, ⟨⟨c6, c7, c8⟩, ⟨c9, c10, c11⟩⟩⟩⟩ := HF.out _ hw
      go_simp
      exact rfl
    intro K hK
    go_simp
    refine hK.out _ ?_
    clear hK K)
  apply Lp.any rfl
  · intro w hw
    go_simp
    exact Lp.ret (Ret.of_same (rlow_any _ _ _))
  intro K hK
  rintro v rfl
  go_simp
  refine hK.out _ ?_
  clear hK K
  iterate 6 (
    apply Lp.one ?_ rfl
    · intro w hw
      obtain ⟨⟨c0, c1, c2⟩, ⟨⟨c3, c4, c5⟩, ⟨⟨c6, c7, c8⟩, ⟨c9, c10, c11⟩⟩⟩⟩ := HF.out _ hw
      go_simp
      exact rfl
    intro K hK
    go_simp
    refine hK.out _ ?_
    clear hK K)
  apply Lp.any rfl
  · intro w hw
    go_simp
    exact Lp.ret (Ret.of_same (rlow_any _ _ _))
  intro K hK
  rintro v rfl
  go_simp
  refine hK.out _ ?_
  clear hK K
  iterate 7 (
    apply Lp.one ?_ rfl
    · intro w hw
      obtain ⟨⟨c0, c1, c2⟩, ⟨⟨c3, c4, c5⟩, ⟨⟨c6, c7, c8⟩, ⟨c9, c10, c11⟩⟩⟩⟩ := HF.out _ hw
      go_simp
      exact rfl
    intro K hK
    go_simp
    refine hK.out _ ?_
    clear hK K)
  apply Lp.any rfl
  · intro w hw
    go_simp
    exact Lp.ret (Ret.of_same (rhigh_any _ _ _))
  intro K hK
  rintro v rfl
  go_simp
  refine hK.out _ ?_
  clear hK K
  iterate 6 (
    apply Lp.one ?_ rfl
    · intro w hw
      obtain ⟨⟨c0, c1, c2⟩, ⟨⟨c3, c4, c5⟩, ⟨⟨c6, c7, c8⟩, ⟨c9, c10, c11⟩⟩⟩⟩ := HF.out _ hw
      go_simp
      exact rfl
    intro K hK
    go_simp
    refine hK.out _ ?_
    clear hK K)
  apply Lp.any rfl
  · intro w hw
    go_simp
    exact Lp.ret (Ret.of_same (rhigh_any _ _ _))
  intro K hK
  rintro v rfl
  go_simp
  refine hK.out _ ?_
  clear hK K
  iterate 6 (
    apply Lp.one ?_ rfl
    · intro w hw
      obtain ⟨⟨c0, c1, c2⟩, ⟨⟨c3, c4, c5⟩, ⟨⟨c6, c7, c8⟩, ⟨c9, c10, c11⟩⟩⟩⟩ := HF.out _ hw
      go_simp
      exact rfl
    intro K hK
    go_simp
    refine hK.out _ ?_
    clear hK K)
  apply Lp.any rfl
  · intro w hw
    go_simp
    exact Lp.ret (Ret.of_same (rhigh_any _ _ _))
  intro K hK
  rintro v rfl
  go_simp
  refine hK.out _ ?_
  clear hK K
  iterate 2 (
    apply Lp.one ?_ rfl
    · intro w hw
      obtain ⟨⟨c0, c1, c2⟩, ⟨⟨c3, c4, c5⟩, ⟨⟨c6, c7, c8⟩, ⟨c9, c10, c11⟩⟩⟩⟩ := HF.out _ hw
      go_simp
      exact rfl
    intro K hK
    go_simp
    refine hK.out _ ?_
    clear hK K)
  rotate_left
  exact []
  intro w' hw'
  have HW : Hid _ := hw'
  obtain ⟨hc, hf⟩ := Lp.bcell hw'
  clear hw'
  go_wp2_with fail
  refine bodyPost_ret (v := .agg #[.float .f64 (lowF a0 b0), .float .f64 (lowF a1 b1), .float .f64 (lowF a2 b2), .float .f64 (highF a3 b3), .float .f64 (highF a4 b4), .float .f64 (highF a5 b5)]) (by simp [results, go_sem, hc]) rfl ⟨_, rfl, rfl, ?_⟩
  repeat (refine Below.setCell ?_ (by simp <;> omega) _)
  exact Cl.out3 HW.out

end Go.Proofs.Ytfeomlbfmbpmaaa

namespace Go.Proofs.Ytfeomlbfmbpmaaa
open Go.RowKit Fl

set_option maxRecDepth 100000 in
set_option maxHeartbeats 1000000 in
theorem rof_any (t0 t1 t2 t3 t4 t5 t6 t7 t8 : Nat) (w : World) : Ret Try.prog 9 #[.agg #[.float .f64 t0, .float .f64 t1, .float .f64 t2, .float .f64 t3, .float .f64 t4, .float .f64 t5, .float .f64 t6, .float .f64 t7, .float .f64 t8]] w (fun v => v = .agg #[.float .f64 (lowF (lowF (lowF pinf t0) t3) t6), .float .f64 (lowF (lowF (lowF pinf t1) t4) t7), .float .f64 (lowF (lowF (lowF pinf t2) t5) t8), .float .f64 (highF (highF (highF ninf t0) t3) t6), .float .f64 (highF (highF (highF ninf t1) t4) t7), .float .f64 (highF (highF (highF ninf t2) t5) t8)]) := by
  unfold Ret
  go_enter Try.func9, Try.ntmps9
  go_wp2_with fail
  refine Lp.settle (fun w' => Lp.Bk w' (w.heap.size) #[.float .f64 t0, .float .f64 t1, .float .f64 t2, .float .f64 t3, .float .f64 t4, .float .f64 t5, .float .f64 t6, .float .f64 t7, .float .f64 t8] 26 ∧ Lp.Bk w' (w.heap.size + 1) #[.float .f64 0, .float .f64 0, .float .f64 0, .float .f64 0, .float .f64 0, .float .f64 0] 39 ∧ Cl w w') ⟨((Lp.Bk.al _ _ _).alo _), (Lp.Bk.al1 _ _ _ _), ((Below.refl _ _).alloc (by simp <;> omega) _).alloc (by simp <;> omega) _⟩ ?_
  rintro v1 ⟨BT, BR, HB⟩
  have kT := BT.cell
  have kR := BR.cell
  apply Lp.wp_region_loose _ _ 8 (by kernel_rfl) (by kernel_rfl) (by kernel_rfl) (Below.refl _ _)
  apply Lp.facts
  · intro w1 hw
    exact And.intro (BT.cl hw).cell ((BR.cl hw).cell)
  intro HF
  apply Lp.any rfl
  · intro w hw
    go_simp
    exact Lp.ret (rempty_any _)
  intro K hK
  rintro v rfl
  go_simp
  refine hK.out _ ?_
  clear hK K
  iterate 5 (
    apply Lp.one ?_ rfl
    · intro w hw
      obtain ⟨k0, k1⟩ := HF.out _ hw
      go_simp
      exact rfl
    intro K hK
    go_simp
    refine hK.out _ ?_
    clear hK K)
  apply Lp.any rfl
  · intro w hw
    go_simp
    exact Lp.ret (rjoin_any _ _ _ _ _ _ _ _ _ _ _ _ _)
  intro K hK
  rintro v rfl
  go_simp
  refine hK.out _ ?_
  clear hK K
  apply Lp.new _ rfl
  · intro w hw
    go_simp
    exact rfl
  intro K hK b hb
  go_simp
  refine hK.out _ _ ?_
  clear hK K
  rotate_left
  exact []
  rintro v2 ⟨hm, -, hk⟩
  have BN : Lp.Bk v2 (b) #[.float .f64 0, .float .f64 0, .float .f64 0, .float .f64 0, .float .f64 0, .float .f64 0] 39 := hk
  clear hk
  have hlt : w.heap.size + 1 < b := Nat.lt_of_lt_of_le BR.lt hb
  have n0 : (b = w.heap.size) = False := eq_false (by omega)
  have n1 : (w.heap.size = b) = False := eq_false (by omega)
  have n2 : (b = w.heap.size + 1) = False := eq_false (by omega)
  have n3 : (w.heap.size + 1 = b) = False := eq_false (by omega)
  clear hb
  clear kT kR
  replace BT := BT.keep hm
  replace BR := BR.keep hm
  replace HB := HB.call hm
  clear hm
  have kT := BT.cell
  have kR := BR.cell
  have kN := BN.cell
  have zN := BN.frz
  have zR := BR.frz
  go_wp2_with fail
  refine Lp.settleC (fun w' => Lp.Bk w' (w.heap.size) #[.float .f64 t0, .float .f64 t1, .float .f64 t2, .float .f64 t3, .float .f64 t4, .float .f64 t5, .float .f64 t6, .float .f64 t7, .float .f64 t8] 26 ∧ Lp.Bk w' (w.heap.size + 1) #[.float .f64 0, .float .f64 0, .float .f64 0, .float .f64 0, .float .f64 0, .float .f64 0] 39 ∧ Lp.Bk w' (b) #[.float .f64 (lowF pinf t0), .float .f64 (lowF pinf t1), .float .f64 (lowF pinf t2), .float .f64 (highF ninf t0), .float .f64 (highF ninf t1), .float .f64 (highF ninf t2)] 39 ∧ Cl w w') ⟨(by (repeat (refine Lp.Bk.seto ?_ (by dsimp only; omega) _)); exact BT), (by (repeat (refine Lp.Bk.seto ?_ (by dsimp only; omega) _)); exact BR), BN.set6, (by (repeat (refine Below.setCell ?_ (by dsimp only; omega) _)); exact HB)⟩ ?_
  clear kT kR kN zN zR
  rintro v3 ⟨BT, BR, BN, HB⟩
  have kT := BT.cell
  have kR := BR.cell
  have kN := BN.cell
  have zN := BN.frz
  have zR := BR.frz
  refine Calls.mono (rjoin_any _ _ _ _ _ _ _ _ _ _ _ _ _) ?_
  rintro e v4 ⟨v, rfl, rfl, hm⟩
  clear kT kR kN zN zR
  replace BT := BT.keep hm
  replace BR := BR.keep hm
  replace BN := BN.keep hm
  replace HB := HB.call hm
  clear hm
  have kT := BT.cell
  have kR := BR.cell
  have kN := BN.cell
  have zN := BN.frz
  have zR := BR.frz
  go_wp2_with fail
  refine Lp.settleC (fun w' => Lp.Bk w' (w.heap.size) #[.float .f64 t0, .float .f64 t1, .float .f64 t2, .float .f64 t3, .float .f64 t4, .float .f64 t5, .float .f64 t6, .float .f64 t7, .float .f64 t8] 26 ∧ Lp.Bk w' (w.heap.size + 1) #[.float .f64 0, .float .f64 0, .float .f64 0, .float .f64 0, .float .f64 0, .float .f64 0] 39 ∧ Lp.Bk w' (b) #[.float .f64 (lowF (lowF pinf t0) t3), .float .f64 (lowF (lowF pinf t1) t4), .float .f64 (lowF (lowF pinf t2) t5), .float .f64 (highF (highF ninf t0) t3), .float .f64 (highF (highF ninf t1) t4), .float .f64 (highF (highF ninf t2) t5)] 39 ∧ Cl w w') ⟨(by (repeat (refine Lp.Bk.seto ?_ (by dsimp only; omega) _)); exact BT), (by (repeat (refine Lp.Bk.seto ?_ (by dsimp only; omega) _)); exact BR), BN.set6, (by (repeat (refine Below.setCell ?_ (by dsimp only; omega) _)); exact HB)⟩ ?_
  clear kT kR kN zN zR
  rintro v5 ⟨BT, BR, BN, HB⟩
  have kT := BT.cell
  have kR := BR.cell
  have kN := BN.cell
  have zN := BN.frz
  have zR := BR.frz
  refine Calls.mono (rjoin_any _ _ _ _ _ _ _ _ _ _ _ _ _) ?_
  rintro e v6 ⟨v, rfl, rfl, hm⟩
  clear kT kR kN zN zR
  replace BT := BT.keep hm
  replace BR := BR.keep hm
  replace BN := BN.keep hm
  replace HB := HB.call hm
  clear hm
  have kT := BT.cell
  have kR := BR.cell
  have kN := BN.cell
  have zN := BN.frz
  have zR := BR.frz
  go_wp2_with fail
  refine bodyPost_ret (v := .agg #[.float .f64 (lowF (lowF (lowF pinf t0) t3) t6), .float .f64 (lowF (lowF (lowF pinf t1) t4) t7), .float .f64 (lowF (lowF (lowF pinf t2) t5) t8), .float .f64 (highF (highF (highF ninf t0) t3) t6), .float .f64 (highF (highF (highF ninf t1) t4) t7), .float .f64 (highF (highF (highF ninf t2) t5) t8)]) (by simp [results, go_sem, kR]) rfl ⟨_, rfl, rfl, ?_⟩
  repeat (refine Below.setCell ?_ (by dsimp only; omega) _)
  exact HB

end Go.Proofs.Ytfeomlbfmbpmaaa

namespace Go.Proofs.Ytfeomlbfmbpmaaa
open Go.RowKit Fl

set_option maxRecDepth 100000 in
set_option maxHeartbeats 1000000 in
theorem rthrough_any (b0 b1 b2 b3 b4 b5 r0 r1 r2 r3 r4 r5 : Nat) (w : World) : Ret Try.prog 8 #[.agg #[.float .f64 b0, .float .f64 b1, .float .f64 b2, .float .f64 b3, .float .f64 b4, .float .f64 b5], .agg #[.float .f64 r0, .float .f64 r1, .float .f64 r2, .float .f64 r3, .float .f64 r4, .float .f64 r5]] w (fun v => v = outT (goesF b0 b1 b2 b3 b4 b5 r0 r1 r2 r3 r4 r5)) := by
  unfold Ret goesF rayB
  have HO : Hid _ := rfinite_any r0 r1 r2
  have HD : Hid _ := rfinite_any r3 r4 r5
  generalize (numB r0 && numB r1 && numB r2) = p at HO ⊢
  generalize (numB r3 && numB r4 && numB r5) = q at HD ⊢
  cases p
  · go_enter Try.func8, Try.ntmps8
    go_wp2_with fail
    refine Lp.settleC (fun w' => Lp.Bk w' (w.heap.size) #[.float .f64 b0, .float .f64 b1, .float .f64 b2, .float .f64 b3, .float .f64 b4, .float .f64 b5] 39 ∧ Lp.Bk w' (w.heap.size + 1) #[.float .f64 r0, .float .f64 r1, .float .f64 r2, .float .f64 r3, .float .f64 r4, .float .f64 r5] 28 ∧ Cl w w') ⟨((Lp.Bk.al _ _ _).alo _), (Lp.Bk.al1 _ _ _ _), ((Below.refl _ _).alloc (by simp <;> omega) _).alloc (by simp <;> omega) _⟩ ?_
    rintro v1 ⟨BB, BR, HB⟩
    have kB := BB.cell
    have kR := BR.cell
    refine Calls.mono (inf_pos _) ?_
    rintro e w' ⟨rfl, hw⟩
    obtain rfl := hw.symm
    clear hw
    go_wp2_with fail
    refine Calls.mono (HO.out _) ?_
    rintro e v2 ⟨v, rfl, rfl, hm⟩
    clear kB kR
    replace BB := BB.keep hm
    replace BR := BR.keep hm
    replace HB := HB.call hm
    clear hm
    have kB := BB.cell
    have kR := BR.cell
    go_wp2_with fail
    refine wp_loop_rounds 1 ?_
    rw [rounds_succ]
    go_wp2_with fail
    go_ret3
    exact ⟨_, rfl, rfl, HB⟩
  cases q
  · go_enter Try.func8, Try.ntmps8
    go_wp2_with fail
    refine Lp.settleC (fun w' => Lp.Bk w' (w.heap.size) #[.float .f64 b0, .float .f64 b1, .float .f64 b2, .float .f64 b3, .float .f64 b4, .float .f64 b5] 39 ∧ Lp.Bk w' (w.heap.size + 1) #[.float .f64 r0, .float .f64 r1, .float .f64 r2, .float .f64 r3, .float .f64 r4, .float .f64 r5] 28 ∧ Cl w w') ⟨((Lp.Bk.al _ _ _).alo _), (Lp.Bk.al1 _ _ _ _), ((Below.refl _ _).alloc (by simp <;> omega) _).alloc (by simp <;> omega) _⟩ ?_
    rintro v1 ⟨BB, BR, HB⟩
    have kB := BB.cell
    have kR := BR.cell
    refine Calls.mono (inf_pos _) ?_
    rintro e w' ⟨rfl, hw⟩
    obtain rfl := hw.symm
    clear hw
    go_wp2_with fail
    refine Calls.mono (HO.out _) ?_
    rintro e v2 ⟨v, rfl, rfl, hm⟩
    clear kB kR
    replace BB := BB.keep hm
    replace BR := BR.keep hm
    replace HB := HB.call hm
    clear hm
    have kB := BB.cell
    have kR := BR.cell
    go_wp2_with fail
    refine Calls.mono (HD.out _) ?_
    rintro e v3 ⟨v, rfl, rfl, hm⟩
    clear kB kR
    replace BB := BB.keep hm
    replace BR := BR.keep hm
    replace HB := HB.call hm
    clear hm
    have kB := BB.cell
    have kR := BR.cell
    go_wp2_with fail
    refine wp_loop_rounds 1 ?_
    rw [rounds_succ]
    go_wp2_with fail
    go_ret3
    exact ⟨_, rfl, rfl, HB⟩
  go_enter Try.func8, Try.ntmps8
  go_wp2_with fail
  refine Lp.settleC (fun w' => Lp.Bk w' (w.heap.size) #[.float .f64 b0, .float .f64 b1, .float .f64 b2, .float .f64 b3, .float .f64 b4, .float .f64 b5] 39 ∧ Lp.Bk w' (w.heap.size + 1) #[.float .f64 r0, .float .f64 r1, .float .f64 r2, .float .f64 r3, .float .f64 r4, .float .f64 r5] 28 ∧ Cl w w') ⟨((Lp.Bk.al _ _ _).alo _), (Lp.Bk.al1 _ _ _ _), ((Below.refl _ _).alloc (by simp <;> omega) _).alloc (by simp <;> omega) _⟩ ?_
  rintro v1 ⟨BB, BR, HB⟩
  have kB := BB.cell
  have kR := BR.cell
  refine Calls.mono (inf_pos _) ?_
  rintro e w' ⟨rfl, hw⟩
  obtain rfl := hw.symm
  clear hw
  go_wp2_with fail
  refine Calls.mono (HO.out _) ?_
  rintro e v2 ⟨v, rfl, rfl, hm⟩
  clear kB kR
  replace BB := BB.keep hm
  replace BR := BR.keep hm
  replace HB := HB.call hm
  clear hm
  have kB := BB.cell
  have kR := BR.cell
  go_wp2_with fail
  refine Calls.mono (HD.out _) ?_
  rintro e v3 ⟨v, rfl, rfl, hm⟩
  clear kB kR
  replace BB := BB.keep hm
  replace BR := BR.keep hm
  replace HB := HB.call hm
  clear hm
  have kB := BB.cell
  have kR := BR.cell
  go_wp2_with fail
  clear kB kR
  go_loopg [7, 8, 9, 10] 3 (fun k n f okv i wr => ∃ (j n1 f1 : Nat) (b : Bool), k + j = 3 ∧ i = .int .i64 (j : Int) ∧ n = .float .f64 n1 ∧ f = .float .f64 f1 ∧ okv = .bool b ∧ stF (fun k => partF r0 r1 r2 k) (fun k => partF r3 r4 r5 k) (fun k => partF b0 b1 b2 k) (fun k => partF b3 b4 b5 k) j = (if b then some (n1, f1) else none) ∧ Lp.Bk wr (w.heap.size) #[.float .f64 b0, .float .f64 b1, .float .f64 b2, .float .f64 b3, .float .f64 b4, .float .f64 b5] 39 ∧ Lp.Bk wr (w.heap.size + 1) #[.float .f64 r0, .float .f64 r1, .float .f64 r2, .float .f64 r3, .float .f64 r4, .float .f64 r5] 28 ∧ Cl w wr)
  case atStart => exact ⟨0, 0, pinf, true, rfl, rfl, rfl, rfl, rfl, rfl, BB, BR, HB⟩
  case round =>
    clear BB BR HB
    obtain ⟨j, n1, f1, b, hk, rfl, rfl, rfl, rfl, hs, BB, BR, HB⟩ := hrel
    cases b
    · have HS : Aside _ := And.intro hk hs
      clear hk hs
      by_cases hj : j < 3
      · have hd : ((j : Int) < 3) = True := eq_true (by omega)
        go_wp2_with fail
        go_ret3
        exact ⟨_, rfl, by rw [through_none HS.out.2 (by omega)]; rfl, HB⟩
      · have hd : ((j : Int) < 3) = False := eq_false (by omega)
        go_wp2_with fail
        go_ret3
        exact ⟨_, rfl, by rw [through_none HS.out.2 (by have := HS.out.1; omega)]; rfl, HB⟩
    · by_cases hj : j < 3
      · have HS : Aside _ := And.intro hk (show stF (fun k => partF r0 r1 r2 k) (fun k => partF r3 r4 r5 k) (fun k => partF b0 b1 b2 k) (fun k => partF b3 b4 b5 k) (j + 1) = axF (partF r0 r1 r2 j) (partF r3 r4 r5 j) (partF b0 b1 b2 j) (partF b3 b4 b5 j) (n1, f1) by show (stF _ _ _ _ j).bind _ = _; rw [hs]; rfl)
        clear hk hs
        have hd : ((j : Int) < 3) = True := eq_true (by omega)
        have kB := BB.cell
        have kR := BR.cell
        go_wp2_with fail
        refine Calls.mono (rpart_any _ _ _ _ _) ?_
        rintro e v4 ⟨v, rfl, rfl, hm⟩
        clear kB kR
        replace BB := BB.keep hm
        replace BR := BR.keep hm
        replace HB := HB.call hm
        clear hm
        have kB := BB.cell
        have kR := BR.cell
        go_wp2_with fail
        refine Calls.mono (rpart_any _ _ _ _ _) ?_
        rintro e v5 ⟨v, rfl, rfl, hm⟩
        clear kB kR
        replace BB := BB.keep hm
        replace BR := BR.keep hm
        replace HB := HB.call hm
        clear hm
        have kB := BB.cell
        have kR := BR.cell
        go_wp2_with fail
        refine Calls.mono (rpart_any _ _ _ _ _) ?_
        rintro e v6 ⟨v, rfl, rfl, hm⟩
        clear kB kR
        replace BB := BB.keep hm
        replace BR := BR.keep hm
        replace HB := HB.call hm
        clear hm
        have kB := BB.cell
        have kR := BR.cell
        go_wp2_with fail
        refine Calls.mono (rpart_any _ _ _ _ _) ?_
        rintro e v7 ⟨v, rfl, rfl, hm⟩
        clear kB kR
        replace BB := BB.keep hm
        replace BR := BR.keep hm
        replace HB := HB.call hm
        clear hm
        have kB := BB.cell
        have kR := BR.cell
        go_wp2_with fail
        · have hz : (ford (partF r3 r4 r5 j) 0 != some .eq) = false := ne_off (by assumption)
          have hst := HS.out.2.trans (ax_zero hz)
          go_roundg (gk - 1)
          case measure => have := HS.out.1; omega
          case rel => exact ⟨j + 1, n1, f1, leB (partF b0 b1 b2 j) (partF r0 r1 r2 j) && leB (partF r0 r1 r2 j) (partF b3 b4 b5 j), by have := HS.out.1; omega, by go_num, rfl, rfl, rfl, hst, BB, BR, HB⟩
        · have hz : (ford (partF r3 r4 r5 j) 0 != some .eq) = false := ne_off (by assumption)
          have hst := HS.out.2.trans (ax_zero hz)
          rw [le2_off1 (by assumption)] at hst
          go_roundg (gk - 1)
          case measure => have := HS.out.1; omega
          case rel => exact ⟨j + 1, n1, f1, false, by have := HS.out.1; omega, by go_num, rfl, rfl, rfl, hst, BB, BR, HB⟩
        · have hz : (ford (partF r3 r4 r5 j) 0 != some .eq) = true := ne_on (by assumption)
          replace HS : Aside _ := And.intro HS.out.1 (HS.out.2.trans (ax_other hz))
          clear hz
          refine upon_div (Sm.refl _) (Sm.refl _) ?_
          intro i ni hi
          go_wp2_with fail
          refine upon_sub (Sm.refl _) (Sm.refl _) ?_
          intro dl nl hdl
          go_wp2_with fail
          refine upon_sub (Sm.refl _) (Sm.refl _) ?_
          intro dh nh hdh
          go_wp2_with fail
          refine upon_mul hdl.sm hi.sm ?_
          intro x nx hx
          go_wp2_with fail
          refine upon_mul hdh.sm hi.sm ?_
          intro y ny hy
          clear kB kR
          refine Lp.settleU (fun w' => Lp.Bk w' (w.heap.size) #[.float .f64 b0, .float .f64 b1, .float .f64 b2, .float .f64 b3, .float .f64 b4, .float .f64 b5] 39 ∧ Lp.Bk w' (w.heap.size + 1) #[.float .f64 r0, .float .f64 r1, .float .f64 r2, .float .f64 r3, .float .f64 r4, .float .f64 r5] 28 ∧  Cl w w') ⟨(BB.dr _).dr _, (BR.dr _).dr _, (HB.drewN _).drewN _⟩ ?_
          clear BB BR HB
          rintro v9 ⟨BB, BR, HB⟩
          go_wp2_with fail
          · have hlt : (ford i 0 == some .lt) = true := by assumption
            have hlt2 : (ford (fdiv one (partF r3 r4 r5 j)) 0 == some .lt) = true := by rw [← ford_congr hi.sm (Sm.refl 0)]; exact hlt
            clear hlt
            refine Calls.mono (rhigh_any _ _ _) ?_
            rintro e w' ⟨rfl, hw⟩
            obtain rfl := hw.symm
            clear hw
            go_wp2_with fail
            refine Calls.mono (rlow_any _ _ _) ?_
            rintro e w' ⟨rfl, hw⟩
            obtain rfl := hw.symm
            clear hw
            go_wp2_with fail
            go_roundg (gk - 1)
            case measure => have := HS.out.1; omega
            case rel => exact ⟨j + 1, _, _, true, by have := HS.out.1; omega, by go_num, congrArg (Value.float .f64) (high_sm hy.sm), congrArg (Value.float .f64) (low_sm hx.sm), rfl, by rw [HS.out.2, thrF_eq]; unfold nearE farE; rw [hlt2]; rfl, BB, BR, HB⟩
          · have hlt : (ford i 0 == some .lt) = false := by assumption
            have hlt2 : (ford (fdiv one (partF r3 r4 r5 j)) 0 == some .lt) = false := by rw [← ford_congr hi.sm (Sm.refl 0)]; exact hlt
            clear hlt
            refine Calls.mono (rhigh_any _ _ _) ?_
            rintro e w' ⟨rfl, hw⟩
            obtain rfl := hw.symm
            clear hw
            go_wp2_with fail
            refine Calls.mono (rlow_any _ _ _) ?_
            rintro e w' ⟨rfl, hw⟩
            obtain rfl := hw.symm
            clear hw
            go_wp2_with fail
            go_roundg (gk - 1)
            case measure => have := HS.out.1; omega
            case rel => exact ⟨j + 1, _, _, true, by have := HS.out.1; omega, by go_num, congrArg (Value.float .f64) (high_sm hx.sm), congrArg (Value.float .f64) (low_sm hy.sm), rfl, by rw [HS.out.2, thrF_eq]; unfold nearE farE; rw [hlt2]; rfl, BB, BR, HB⟩
      · have hj3 : j = 3 := by omega
        subst hj3
        have hd : (((3 : Nat) : Int) < 3) = False := eq_false (by omega)
        rw [if_pos rfl] at hs
        go_wp2_with fail
        · have hn : leB n1 f1 = true := leB_onC (by assumption)
          go_ret3
          exact ⟨_, rfl, by unfold throughF; rw [hs]; show _ = outT (finF (n1, f1)); unfold finF; rw [hn]; rfl, HB⟩
        · have hn : leB n1 f1 = false := leB_offC (by assumption)
          go_ret3
          exact ⟨_, rfl, by unfold throughF; rw [hs]; show _ = outT (finF (n1, f1)); unfold finF; rw [hn]; rfl, HB⟩

end Go.Proofs.Ytfeomlbfmbpmaaa
