/- Words not below 0, infinite or not: sums, products, quotients keep order; what is cut off behind the point. -/
import Derived.Test.YtnhilikcgfhkbaaXa
import Derived.Laws.FloatArith
namespace Go.Proofs.Ytnhilikcgfhkbaa.Fl

/-- Not below 0: a number, or infinite. -/
def Nn (x : Nat) : Prop := (Num x ∧ 0 ≤ val x) ∨ F64.read x = .infinity false

theorem Nn.not_nan {x : Nat} (h : Nn x) : isN x = false := h.elim (fun h => not_nan_num h.1) not_nan_inf
theorem nn_of_le {x : Nat} (h : leB 0 x = true) : Nn x := by
  cases hr : F64.read x with
  | nan s f =>
    exfalso
    have : isN x = true := by unfold isN; rw [hr]; rfl
    have := (leB_not_nan h).2
    simp_all
  | infinity s =>
    cases s
    · exact .inr hr
    · exfalso
      unfold leB ford Ieee.Format.order at h
      rw [read_zero, hr] at h
      cases h
  | number s m e =>
    have hn : Num x := ⟨_, _, _, hr⟩
    refine .inl ⟨hn, ?_⟩
    rw [leB_val num_zero hn, val_zero] at h
    exact of_decide_eq_true h
theorem Nn.le {x : Nat} (h : Nn x) : leB 0 x = true := by
  rcases h with ⟨hn, h⟩ | h
  · rw [leB_val num_zero hn, val_zero]; exact decide_eq_true h
  · exact leB_high h (not_nan_num num_zero)
theorem num_of_fin {x : Nat} (h : numB x = true) : Num x := by
  cases hr : F64.read x with
  | nan s f =>
    exfalso
    have : isN x = true := by unfold isN; rw [hr]; rfl
    unfold numB at h
    rw [this] at h
    cases h
  | infinity s =>
    exfalso
    unfold numB at h
    rw [is_inf hr] at h
    simp at h
  | number s m e => exact ⟨_, _, _, hr⟩
theorem nearest_nn {neg : Bool} {m : Nat} {p : Int} (h : 0 ≤ dval (.number neg m p)) : Nn (F64.nearest neg m p) := by
  refine nn_of_le ?_
  have e : F64.nearest false 0 0 = 0 := by decide +kernel
  have hz : dval (.number false 0 0) = 0 := by
    rw [dval_number]
    have : ((0 : Nat) : Rat) * 2 ^ (0 : Int) = 0 := Rat.zero_mul _
    rw [this]
    rfl
  have := nearest_mono (n1 := false) (m1 := 0) (p1 := 0) (n2 := neg) (m2 := m) (p2 := p) (by rw [hz]; exact h)
  rwa [e] at this

/-- An order among them. -/
theorem Nn.cases {x y : Nat} (hy : Nn y) (h : leB x y = true) (hx : Nn x) : F64.read y = .infinity false ∨ (Num x ∧ Num y ∧ 0 ≤ val x ∧ val x ≤ val y) := by
  rcases hy with ⟨ny, y0⟩ | hy
  · right
    rcases hx with ⟨nx, x0⟩ | hx
    · refine ⟨nx, ny, x0, ?_⟩
      rw [leB_val nx ny] at h
      exact of_decide_eq_true h
    · exfalso
      obtain ⟨s, m, e, hr⟩ := ny
      unfold leB ford Ieee.Format.order at h
      rw [hx, hr] at h
      cases h
  · exact .inl hy

theorem sum_in (s t : Bool) (m : Nat) (e : Int) : (Ieee.Datum.infinity s).sum (.number t m e) = some (.infinity s) := rfl
theorem sum_ni (s t : Bool) (m : Nat) (e : Int) : (Ieee.Datum.number t m e).sum (.infinity s) = some (.infinity s) := rfl
theorem sum_ii : (Ieee.Datum.infinity false).sum (.infinity false) = some (.infinity false) := rfl
theorem add_is {x y : Nat} {s : Bool} (h : (F64.read x).sum (F64.read y) = some (.infinity s)) : F64.read (fadd x y) = .infinity s := by
  unfold fadd Ieee.Format.add
  rw [h, Option.map_some, Option.getD_some]
  exact write_inf s
theorem add_inf_left {x y : Nat} (hx : F64.read x = .infinity false) (hy : Nn y) : F64.read (fadd x y) = .infinity false := by
  rcases hy with ⟨⟨s, m, e, hr⟩, _⟩ | hr
  · exact add_is (by rw [hx, hr, sum_in])
  · exact add_is (by rw [hx, hr, sum_ii])
theorem add_inf_right {x y : Nat} (hy : F64.read y = .infinity false) (hx : Nn x) : F64.read (fadd x y) = .infinity false := by
  rcases hx with ⟨⟨s, m, e, hr⟩, _⟩ | hr
  · exact add_is (by rw [hy, hr, sum_ni])
  · exact add_is (by rw [hy, hr, sum_ii])

theorem add_nn {x y : Nat} (hx : Nn x) (hy : Nn y) : Nn (fadd x y) := by
  have hx' := hx
  have hy' := hy
  rcases hx with ⟨nx, x0⟩ | hx
  · rcases hy with ⟨ny, y0⟩ | hy
    · obtain ⟨n, m, p, e, v⟩ := add_near nx ny
      rw [e]
      exact nearest_nn (by rw [v]; grind)
    · exact .inr (add_inf_right hy hx')
  · exact .inr (add_inf_left hx hy')
theorem add_nn_mono {x y u v : Nat} (hx : Nn x) (hy : Nn y) (hu : Nn u) (hv : Nn v) (h : leB x u = true) (k : leB y v = true) : leB (fadd x y) (fadd u v) = true := by
  rcases hu.cases h hx with iu | ⟨nx, nu, x0, hle⟩
  · exact leB_high (add_inf_left iu hv) (add_nn hx hy).not_nan
  · rcases hv.cases k hy with iv | ⟨ny, nv, y0, kle⟩
    · exact leB_high (add_inf_right iv hu) (add_nn hx hy).not_nan
    · exact add_mono nx ny nu nv (by grind)
/-- A sum is not less than a part of it. -/
theorem le_add {x y : Nat} (hx : Num x) (hy : Num y) (y0 : 0 ≤ val y) : leB x (fadd x y) = true := by
  obtain ⟨n, m, p, e, v⟩ := add_near hx hy
  obtain ⟨s, m1, e1, hr⟩ := hx
  obtain ⟨a, b⟩ := nearest_exact hr
  have hxn : Num x := ⟨_, _, _, hr⟩
  have h1 : leB x (F64.nearest s m1 e1) = true := by rw [leB_val hxn a, b]; exact decide_eq_true Rat.le_refl
  refine leB_trans h1 ?_
  rw [e]
  refine nearest_mono ?_
  rw [v]
  have : val x = dval (.number s m1 e1) := by unfold val; rw [hr]
  grind

def three : Nat := 4613937818241073152
def sixteen : Nat := 4625196817309499392
def one16 : Nat := 4607182418800017408
def maxW : Nat := 4697254411347427328
theorem read_three : F64.read three = .number false 6755399441055744 (-51) := by decide +kernel
theorem read_sixteen : F64.read sixteen = .number false 4503599627370496 (-48) := by decide +kernel
theorem num_three : Num three := ⟨_, _, _, read_three⟩
theorem val_three : val three = 3 := by unfold val; rw [read_three]; decide +kernel
theorem num_sixteen : Num sixteen := ⟨_, _, _, read_sixteen⟩
theorem val_sixteen : val sixteen = 16 := by unfold val; rw [read_sixteen]; decide +kernel
theorem num_one : Num one16 := ⟨false, 4503599627370496, -52, by decide +kernel⟩
theorem val_one : val one16 = 1 := by
  unfold val
  rw [show F64.read one16 = .number false 4503599627370496 (-52) by decide +kernel]
  decide +kernel
theorem num_max : Num maxW := ⟨false, 4503599627370496, -32, by decide +kernel⟩
theorem val_max : val maxW = 1048576 := by
  unfold val
  rw [show F64.read maxW = .number false 4503599627370496 (-32) by decide +kernel]
  decide +kernel

theorem div_inf_num {x : Nat} (hx : F64.read x = .infinity false) : F64.read (fdiv x three) = .infinity false := by
  unfold fdiv Ieee.Format.div
  rw [hx, read_three]
  simp only [Ieee.Datum.quotient, Option.map_some, Option.getD_some, Bool.xor_false]
  exact write_inf false
theorem div_nn {x : Nat} (hx : Nn x) : Nn (fdiv x three) := by
  rcases hx with ⟨nx, x0⟩ | hx
  · refine nn_of_le ?_
    have h := div_mono num_zero nx num_three (by rw [val_three]; decide) (by rw [val_zero]; exact Rat.le_refl) (by rw [val_zero]; exact x0)
    have e : fdiv 0 three = 0 := by decide +kernel
    rwa [e] at h
  · exact .inr (div_inf_num hx)
theorem div_nn_mono {x u : Nat} (hx : Nn x) (hu : Nn u) (h : leB x u = true) : leB (fdiv x three) (fdiv u three) = true := by
  rcases hu.cases h hx with iu | ⟨nx, nu, x0, hle⟩
  · exact leB_high (div_inf_num iu) (div_nn hx).not_nan
  · exact div_mono nx nu num_three (by rw [val_three]; decide) x0 hle
theorem mul_nn {x : Nat} (hx : Nn x) : Nn (fmul x sixteen) := by
  rcases hx with ⟨nx, x0⟩ | hx
  · obtain ⟨n, m, p, e, v⟩ := mul_near nx num_sixteen
    rw [e]
    exact nearest_nn (by rw [v, val_sixteen]; grind)
  · exact .inr (mul_inf_num hx read_sixteen (by decide))
theorem mul_nn_mono {x u : Nat} (hx : Nn x) (hu : Nn u) (h : leB x u = true) : leB (fmul x sixteen) (fmul u sixteen) = true :=
  mul_order (t := false) h (.inl ⟨_, _, read_sixteen, by decide⟩) (mul_nn hx).not_nan (mul_nn hu).not_nan

/-- What is ahead of the point. -/
def truncF (x : Nat) : Int := ((F64.read x).toInt .zero).getD 0

theorem cut_zero (n drop : Nat) : Ieee.Toward.zero.cut false n drop = n / 2 ^ drop := by
  unfold Ieee.Toward.cut
  simp only [Nat.one_shiftLeft, Bool.toNat_false, Nat.add_zero]
  rcases Nat.lt_or_ge (n.log2 + 2) drop with hd | hd
  · rw [Nat.min_eq_right (Nat.le_of_lt hd)]
    have h1 : n < 2 ^ (n.log2 + 1) := Nat.lt_log2_self
    have h2 : 2 ^ (n.log2 + 1) ≤ 2 ^ (n.log2 + 2) := Nat.pow_le_pow_right (by decide) (by omega)
    have h3 : 2 ^ (n.log2 + 1) ≤ 2 ^ drop := Nat.pow_le_pow_right (by decide) (by omega)
    rw [Nat.div_eq_of_lt (by omega), Nat.div_eq_of_lt (by omega)]
  · rw [Nat.min_eq_left hd]

theorem floor_of {v : Rat} {t : Nat} (h : (t : Rat) ≤ v) (k : v < (t : Rat) + 1) : v.floor = (t : Int) := by
  have h1 : (t : Int) ≤ v.floor := Rat.le_floor_iff.2 (by rw [Rat.intCast_natCast]; exact h)
  have h2 := Rat.floor_le v
  have h3 : ((v.floor : Int) : Rat) < (((t : Int) + 1 : Int) : Rat) := by
    have e : (((t : Int) + 1 : Int) : Rat) = (t : Rat) + 1 := by rw [Rat.intCast_add, Rat.intCast_natCast]; rfl
    rw [e]
    grind
  have h4 : v.floor < (t : Int) + 1 := by exact_mod_cast h3
  omega

theorem trunc_floor {x : Nat} (hx : Num x) (h0 : 0 ≤ val x) : (F64.read x).toInt .zero = some (val x).floor := by
  obtain ⟨s, m, e, hr⟩ := hx
  have hv : val x = sg s ((m : Rat) * 2 ^ e) := by unfold val; rw [hr, dval_number]
  have p := mag_nonneg m e
  cases s
  · simp only [sg, Bool.false_eq_true, if_false] at hv
    have hi : (F64.read x).toInt .zero = some ((m * 2 ^ e.toNat / 2 ^ (-e).toNat : Nat) : Int) := by
      rw [hr]
      unfold Ieee.Datum.toInt Ieee.Datum.integral
      simp only [cut_zero, Nat.shiftLeft_eq]
      simp [Ieee.signed]
    rw [hi, hv]
    congr 1
    symm
    generalize hn : m * 2 ^ e.toNat = n
    generalize hd : (-e).toNat = d
    have hval : (m : Rat) * 2 ^ e * 2 ^ (d : Int) = (n : Rat) := by
      rw [← hn, Rat.natCast_mul, ← p2_nat, Rat.mul_assoc, ← p2_add]
      congr 2
      omega
    have hp := p2_pos (d : Int)
    have e1 := Nat.div_add_mod n (2 ^ d)
    have r1 := Nat.mod_lt n (Nat.two_pow_pos d)
    have lo : n / 2 ^ d * 2 ^ d ≤ n := Nat.div_mul_le_self _ _
    have hi2 : n < (n / 2 ^ d + 1) * 2 ^ d := by rw [Nat.add_mul, Nat.one_mul, Nat.mul_comm]; omega
    have lo' : ((n / 2 ^ d : Nat) : Rat) * 2 ^ (d : Int) ≤ n := by rw [p2_nat]; exact_mod_cast lo
    have hi' : (n : Rat) < (((n / 2 ^ d : Nat) : Rat) + 1) * 2 ^ (d : Int) := by rw [p2_nat]; exact_mod_cast hi2
    rw [← hval] at lo' hi'
    refine floor_of ?_ ?_
    · exact Rat.le_of_mul_le_mul_right lo' hp
    · exact Rat.lt_of_mul_lt_mul_right hi' (Rat.le_of_lt hp)
  · simp only [sg, if_true] at hv
    have z : (m : Rat) * 2 ^ e = 0 := by grind
    have hm : m = 0 := by
      refine Classical.byContradiction fun hm => ?_
      have : (0 : Rat) < m := by exact_mod_cast Nat.pos_of_ne_zero hm
      have := Rat.mul_pos this (p2_pos e)
      grind
    subst hm
    have hv0 : val x = 0 := by rw [hv, z]; rfl
    rw [hv0, hr]
    unfold Ieee.Datum.toInt Ieee.Datum.integral Ieee.Toward.cut
    simp [Ieee.signed]
    decide +kernel
end Go.Proofs.Ytnhilikcgfhkbaa.Fl
