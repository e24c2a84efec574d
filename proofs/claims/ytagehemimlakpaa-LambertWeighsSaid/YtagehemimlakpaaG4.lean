/- Words not below 0, infinite or not: sums, products, quotients keep order; what is cut off behind the point. Eight times a draw: the sector, and how far into it. Nearness within 2 to the -40; a number with its sign turned. What is near the parts of a direction that is drawn: a quotient of two products with one number; the density that it tells again. A region that draws its order, whose operations' values are told up to a relation of their own, and whose worlds are told by one class: one walk in the order of the text serves every order. How a call is told: the value that it gives, up to a relation, and that what was there is as it was. Sums, differences and roots of numbers give a word, with no draw: exact steps of a walk. -/
import Derived.Laws.FloatArith
import Derived.Deep.Quiet
import Derived.Tactics
import Derived.Tactics2
import Derived.KernelRfl
import Derived.WalkKit
import Derived.WalkSpells
import Derived.WalkLawsBesides
import Derived.Test.YtagehemimlakpaaG3
import Derived.Test.YtagehemimlakpaaG1
namespace Go.Proofs.Ytagehemimlakpaa.Fl

/-- Not below 0: a number, or infinite. -/
def Nn (x : Nat) : Prop := (Num x ∧ 0 ≤ val x) ∨ F64.read x = .infinity false

theorem Nn.not_nan {x : Nat} (h : Nn x) : isN x = false := h.elim (fun h => not_nan_num h.1) not_nan_inf
theorem nn_of_le {x : Nat} (h : leB 0 x = true) : Nn x := by
  cases hr : F64.read x with
  | nan s f =>
    exfalso
    have : isN x = true := by unfold isN; rw [hr]; rfl
    have := (leB_not_nan h).2
    simp_all
  | infinity s =>
    cases s
    · exact .inr hr
    · exfalso
      unfold leB ford Ieee.Format.order at h
      rw [read_zero, hr] at h
      cases h
  | number s m e =>
    have hn : Num x := ⟨_, _, _, hr⟩
    refine .inl ⟨hn, ?_⟩
    rw [leB_val num_zero hn, val_zero] at h
    exact of_decide_eq_true h
theorem Nn.le {x : Nat} (h : Nn x) : leB 0 x = true := by
  rcases h with ⟨hn, h⟩ | h
  · rw [leB_val num_zero hn, val_zero]; exact decide_eq_true h
  · exact leB_high h (not_nan_num num_zero)
theorem num_of_fin {x : Nat} (h : numB x = true) : Num x := by
  cases hr : F64.read x with
  | nan s f =>
    exfalso
    have : isN x = true := by unfold isN; rw [hr]; rfl
    unfold numB at h
    rw [this] at h
    cases h
  | infinity s =>
    exfalso
    unfold numB at h
    rw [is_inf hr] at h
    simp at h
  | number s m e => exact ⟨_, _, _, hr⟩
theorem nearest_nn {neg : Bool} {m : Nat} {p : Int} (h : 0 ≤ dval (.number neg m p)) : Nn (F64.nearest neg m p) := by
  refine nn_of_le ?_
  have e : F64.nearest false 0 0 = 0 := by decide +kernel
  have hz : dval (.number false 0 0) = 0 := by
    rw [dval_number]
    have : ((0 : Nat) : Rat) * 2 ^ (0 : Int) = 0 := Rat.zero_mul _
    rw [this]
    rfl
  have := nearest_mono (n1 := false) (m1 := 0) (p1 := 0) (n2 := neg) (m2 := m) (p2 := p) (by rw [hz]; exact h)
  rwa [e] at this

/-- An order among them. -/
theorem Nn.cases {x y : Nat} (hy : Nn y) (h : leB x y = true) (hx : Nn x) : F64.read y = .infinity false ∨ (Num x ∧ Num y ∧ 0 ≤ val x ∧ val x ≤ val y) := by
  rcases hy with ⟨ny, y0⟩ | hy
  · right
    rcases hx with ⟨nx, x0⟩ | hx
    · refine ⟨nx, ny, x0, ?_⟩
      rw [leB_val nx ny] at h
      exact of_decide_eq_true h
    · exfalso
      obtain ⟨s, m, e, hr⟩ := ny
      unfold leB ford Ieee.Format.order at h
      rw [hx, hr] at h
      cases h
  · exact .inl hy

theorem sum_in (s t : Bool) (m : Nat) (e : Int) : (Ieee.Datum.infinity s).sum (.number t m e) = some (.infinity s) := rfl
theorem sum_ni (s t : Bool) (m : Nat) (e : Int) : (Ieee.Datum.number t m e).sum (.infinity s) = some (.infinity s) := rfl
theorem sum_ii : (Ieee.Datum.infinity false).sum (.infinity false) = some (.infinity false) := rfl
theorem add_is {x y : Nat} {s : Bool} (h : (F64.read x).sum (F64.read y) = some (.infinity s)) : F64.read (fadd x y) = .infinity s := by
  unfold fadd Ieee.Format.add
  rw [h, Option.map_some, Option.getD_some]
  exact write_inf s
theorem add_inf_left {x y : Nat} (hx : F64.read x = .infinity false) (hy : Nn y) : F64.read (fadd x y) = .infinity false := by
  rcases hy with ⟨⟨s, m, e, hr⟩, _⟩ | hr
  · exact add_is (by rw [hx, hr, sum_in])
  · exact add_is (by rw [hx, hr, sum_ii])
theorem add_inf_right {x y : Nat} (hy : F64.read y = .infinity false) (hx : Nn x) : F64.read (fadd x y) = .infinity false := by
  rcases hx with ⟨⟨s, m, e, hr⟩, _⟩ | hr
  · exact add_is (by rw [hy, hr, sum_ni])
  · exact add_is (by rw [hy, hr, sum_ii])

theorem add_nn {x y : Nat} (hx : Nn x) (hy : Nn y) : Nn (fadd x y) := by
  have hx' := hx
  have hy' := hy
  rcases hx with ⟨nx, x0⟩ | hx
  · rcases hy with ⟨ny, y0⟩ | hy
    · obtain ⟨n, m, p, e, v⟩ := add_near nx ny
      rw [e]
      exact nearest_nn (by rw [v]; grind)
    · exact .inr (add_inf_right hy hx')
  · exact .inr (add_inf_left hx hy')
theorem add_nn_mono {x y u v : Nat} (hx : Nn x) (hy : Nn y) (hu : Nn u) (hv : Nn v) (h : leB x u = true) (k : leB y v = true) : leB (fadd x y) (fadd u v) = true := by
  rcases hu.cases h hx with iu | ⟨nx, nu, x0, hle⟩
  · exact leB_high (add_inf_left iu hv) (add_nn hx hy).not_nan
  · rcases hv.cases k hy with iv | ⟨ny, nv, y0, kle⟩
    · exact leB_high (add_inf_right iv hu) (add_nn hx hy).not_nan
    · exact add_mono nx ny nu nv (by grind)
/-- A sum is not less than a part of it. -/
theorem le_add {x y : Nat} (hx : Num x) (hy : Num y) (y0 : 0 ≤ val y) : leB x (fadd x y) = true := by
  obtain ⟨n, m, p, e, v⟩ := add_near hx hy
  obtain ⟨s, m1, e1, hr⟩ := hx
  obtain ⟨a, b⟩ := nearest_exact hr
  have hxn : Num x := ⟨_, _, _, hr⟩
  have h1 : leB x (F64.nearest s m1 e1) = true := by rw [leB_val hxn a, b]; exact decide_eq_true Rat.le_refl
  refine leB_trans h1 ?_
  rw [e]
  refine nearest_mono ?_
  rw [v]
  have : val x = dval (.number s m1 e1) := by unfold val; rw [hr]
  grind

def three : Nat := 4613937818241073152
def sixteen : Nat := 4625196817309499392
def one16 : Nat := 4607182418800017408
def maxW : Nat := 4697254411347427328
theorem read_three : F64.read three = .number false 6755399441055744 (-51) := by decide +kernel
theorem read_sixteen : F64.read sixteen = .number false 4503599627370496 (-48) := by decide +kernel
theorem num_three : Num three := ⟨_, _, _, read_three⟩
theorem val_three : val three = 3 := by unfold val; rw [read_three]; decide +kernel
theorem num_sixteen : Num sixteen := ⟨_, _, _, read_sixteen⟩
theorem val_sixteen : val sixteen = 16 := by unfold val; rw [read_sixteen]; decide +kernel
theorem num_one16 : Num one16 := ⟨false, 4503599627370496, -52, by decide +kernel⟩
theorem val_one16 : val one16 = 1 := by
  unfold val
  rw [show F64.read one16 = .number false 4503599627370496 (-52) by decide +kernel]
  decide +kernel
theorem num_max : Num maxW := ⟨false, 4503599627370496, -32, by decide +kernel⟩
theorem val_max : val maxW = 1048576 := by
  unfold val
  rw [show F64.read maxW = .number false 4503599627370496 (-32) by decide +kernel]
  decide +kernel

theorem div_inf_num {x : Nat} (hx : F64.read x = .infinity false) : F64.read (fdiv x three) = .infinity false := by
  unfold fdiv Ieee.Format.div
  rw [hx, read_three]
  simp only [Ieee.Datum.quotient, Option.map_some, Option.getD_some, Bool.xor_false]
  exact write_inf false
theorem div_nn {x : Nat} (hx : Nn x) : Nn (fdiv x three) := by
  rcases hx with ⟨nx, x0⟩ | hx
  · refine nn_of_le ?_
    have h := div_mono num_zero nx num_three (by rw [val_three]; decide) (by rw [val_zero]; exact Rat.le_refl) (by rw [val_zero]; exact x0)
    have e : fdiv 0 three = 0 := by decide +kernel
    rwa [e] at h
  · exact .inr (div_inf_num hx)
theorem div_nn_mono {x u : Nat} (hx : Nn x) (hu : Nn u) (h : leB x u = true) : leB (fdiv x three) (fdiv u three) = true := by
  rcases hu.cases h hx with iu | ⟨nx, nu, x0, hle⟩
  · exact leB_high (div_inf_num iu) (div_nn hx).not_nan
  · exact div_mono nx nu num_three (by rw [val_three]; decide) x0 hle
theorem mul_nn {x : Nat} (hx : Nn x) : Nn (fmul x sixteen) := by
  rcases hx with ⟨nx, x0⟩ | hx
  · obtain ⟨n, m, p, e, v⟩ := mul_near nx num_sixteen
    rw [e]
    exact nearest_nn (by rw [v, val_sixteen]; grind)
  · exact .inr (mul_inf_num hx read_sixteen (by decide))
theorem mul_nn_mono {x u : Nat} (hx : Nn x) (hu : Nn u) (h : leB x u = true) : leB (fmul x sixteen) (fmul u sixteen) = true :=
  mul_order (t := false) h (.inl ⟨_, _, read_sixteen, by decide⟩) (mul_nn hx).not_nan (mul_nn hu).not_nan

/-- What is ahead of the point. -/
def truncF (x : Nat) : Int := ((F64.read x).toInt .zero).getD 0

theorem cut_zero (n drop : Nat) : Ieee.Toward.zero.cut false n drop = n / 2 ^ drop := by
  unfold Ieee.Toward.cut
  simp only [Nat.one_shiftLeft, Bool.toNat_false, Nat.add_zero]
  rcases Nat.lt_or_ge (n.log2 + 2) drop with hd | hd
  · rw [Nat.min_eq_right (Nat.le_of_lt hd)]
    have h1 : n < 2 ^ (n.log2 + 1) := Nat.lt_log2_self
    have h2 : 2 ^ (n.log2 + 1) ≤ 2 ^ (n.log2 + 2) := Nat.pow_le_pow_right (by decide) (by omega)
    have h3 : 2 ^ (n.log2 + 1) ≤ 2 ^ drop := Nat.pow_le_pow_right (by decide) (by omega)
    rw [Nat.div_eq_of_lt (by omega), Nat.div_eq_of_lt (by omega)]
  · rw [Nat.min_eq_left hd]

theorem floor_of {v : Rat} {t : Nat} (h : (t : Rat) ≤ v) (k : v < (t : Rat) + 1) : v.floor = (t : Int) := by
  have h1 : (t : Int) ≤ v.floor := Rat.le_floor_iff.2 (by rw [Rat.intCast_natCast]; exact h)
  have h2 := Rat.floor_le v
  have h3 : ((v.floor : Int) : Rat) < (((t : Int) + 1 : Int) : Rat) := by
    have e : (((t : Int) + 1 : Int) : Rat) = (t : Rat) + 1 := by rw [Rat.intCast_add, Rat.intCast_natCast]; rfl
    rw [e]
    grind
  have h4 : v.floor < (t : Int) + 1 := by exact_mod_cast h3
  omega

theorem trunc_floor {x : Nat} (hx : Num x) (h0 : 0 ≤ val x) : (F64.read x).toInt .zero = some (val x).floor := by
  obtain ⟨s, m, e, hr⟩ := hx
  have hv : val x = sg s ((m : Rat) * 2 ^ e) := by unfold val; rw [hr, dval_number]
  have p := mag_nonneg m e
  cases s
  · simp only [sg, Bool.false_eq_true, if_false] at hv
    have hi : (F64.read x).toInt .zero = some ((m * 2 ^ e.toNat / 2 ^ (-e).toNat : Nat) : Int) := by
      rw [hr]
      unfold Ieee.Datum.toInt Ieee.Datum.integral
      simp only [cut_zero, Nat.shiftLeft_eq]
      simp [Ieee.signed]
    rw [hi, hv]
    congr 1
    symm
    generalize hn : m * 2 ^ e.toNat = n
    generalize hd : (-e).toNat = d
    have hval : (m : Rat) * 2 ^ e * 2 ^ (d : Int) = (n : Rat) := by
      rw [← hn, Rat.natCast_mul, ← p2_nat, Rat.mul_assoc, ← p2_add]
      congr 2
      omega
    have hp := p2_pos (d : Int)
    have e1 := Nat.div_add_mod n (2 ^ d)
    have r1 := Nat.mod_lt n (Nat.two_pow_pos d)
    have lo : n / 2 ^ d * 2 ^ d ≤ n := Nat.div_mul_le_self _ _
    have hi2 : n < (n / 2 ^ d + 1) * 2 ^ d := by rw [Nat.add_mul, Nat.one_mul, Nat.mul_comm]; omega
    have lo' : ((n / 2 ^ d : Nat) : Rat) * 2 ^ (d : Int) ≤ n := by rw [p2_nat]; exact_mod_cast lo
    have hi' : (n : Rat) < (((n / 2 ^ d : Nat) : Rat) + 1) * 2 ^ (d : Int) := by rw [p2_nat]; exact_mod_cast hi2
    rw [← hval] at lo' hi'
    refine floor_of ?_ ?_
    · exact Rat.le_of_mul_le_mul_right lo' hp
    · exact Rat.lt_of_mul_lt_mul_right hi' (Rat.le_of_lt hp)
  · simp only [sg, if_true] at hv
    have z : (m : Rat) * 2 ^ e = 0 := by grind
    have hm : m = 0 := by
      refine Classical.byContradiction fun hm => ?_
      have : (0 : Rat) < m := by exact_mod_cast Nat.pos_of_ne_zero hm
      have := Rat.mul_pos this (p2_pos e)
      grind
    subst hm
    have hv0 : val x = 0 := by rw [hv, z]; rfl
    rw [hv0, hr]
    unfold Ieee.Datum.toInt Ieee.Datum.integral Ieee.Toward.cut
    simp [Ieee.signed]
    decide +kernel
end Go.Proofs.Ytagehemimlakpaa.Fl

namespace Go.Proofs.Ytagehemimlakpaa.Fl

def w8 : Nat := 4620693217682128896
theorem num_w8 : Num w8 := ⟨false, 4503599627370496, -49, by decide +kernel⟩
theorem val_w8 : val w8 = 8 := by decide +kernel
/-- Eight times a number from 0 on and below 1 needs no rounding. -/
theorem eight_ex {c : Nat} (hc : Num c) (c0 : 0 ≤ val c) (c1 : val c < 1) : Num (fmul w8 c) ∧ val (fmul w8 c) = 8 * val c := by
  have hx : Ex (val w8 * val c) := by
    obtain ⟨s, m, e, hr⟩ := hc
    have hv : val c = sg s ((m : Rat) * 2 ^ e) := by unfold val; rw [hr, dval_number]
    obtain ⟨b1, b2⟩ := number_bounds hr
    have b3 := read_low hr
    rw [val_w8, hv]
    by_cases hm : m = 0
    · subst hm
      refine ⟨s, 0, 0, by decide, by decide, by decide, ?_⟩
      rw [dval_number]
      have z : ∀ x : Rat, ((0 : Nat) : Rat) * x = 0 := fun x => Rat.zero_mul _
      rw [z, z]
      cases s <;> simp [sg]
    · have he : e ≤ 0 := by
        rcases Int.lt_or_le 0 e with k | k
        · exfalso
          have l1 := p2_le (show (1 : Int) ≤ e by omega)
          have z : (2 : Rat) ^ (1 : Int) = 2 := by decide +kernel
          rw [z] at l1
          have l2 : (1 : Rat) ≤ m := by exact_mod_cast Nat.pos_of_ne_zero hm
          have l3 := Rat.mul_nonneg (show (0 : Rat) ≤ m - 1 by grind) (show (0 : Rat) ≤ 2 ^ e by grind)
          cases s
          · simp only [sg, Bool.false_eq_true, if_false] at hv
            grind
          · simp only [sg, if_true] at hv
            have := Rat.mul_pos (show (0 : Rat) < m by grind) (p2_pos e)
            grind
        · exact k
      refine ⟨s, m, e + 3, by omega, by omega, by omega, ?_⟩
      rw [dval_number, p2_add]
      have z : (2 : Rat) ^ (3 : Int) = 8 := by decide +kernel
      rw [z]
      cases s <;> simp only [sg, if_true, Bool.false_eq_true, if_false] <;> grind
  obtain ⟨n, v⟩ := mul_ex num_w8 hc hx
  rw [val_w8] at v
  exact ⟨n, v⟩
/-- The sector of a clean draw. -/
def secK (c : Nat) : Nat := (val (fmul w8 c)).floor.toNat
theorem sec_k {c : Nat} (hc : Num c) (c0 : 0 ≤ val c) (c1 : val c < 1) : truncF (fmul w8 c) = (secK c : Int) ∧ secK c ≤ 7 ∧ (secK c : Rat) ≤ val (fmul w8 c) ∧ val (fmul w8 c) < (secK c : Rat) + 1 := by
  obtain ⟨n, v⟩ := eight_ex hc c0 c1
  have z0 : 0 ≤ val (fmul w8 c) := by rw [v]; grind
  have z8 : val (fmul w8 c) < 8 := by rw [v]; grind
  have f0 : 0 ≤ (val (fmul w8 c)).floor := Rat.le_floor_iff.2 (by exact_mod_cast z0)
  have f1 := Rat.floor_le (val (fmul w8 c))
  have f2 : val (fmul w8 c) < (((val (fmul w8 c)).floor + 1 : Int) : Rat) := by
    by_cases h : val (fmul w8 c) < (((val (fmul w8 c)).floor + 1 : Int) : Rat)
    · exact h
    · exfalso
      have := Rat.le_floor_iff.2 (show (((val (fmul w8 c)).floor + 1 : Int) : Rat) ≤ val (fmul w8 c) by grind)
      omega
  have e : ((secK c : Nat) : Int) = (val (fmul w8 c)).floor := by unfold secK; omega
  have e2 : ((secK c : Nat) : Rat) = (((val (fmul w8 c)).floor : Int) : Rat) := by rw [← e, Rat.intCast_natCast]
  have f3 : (((val (fmul w8 c)).floor + 1 : Int) : Rat) = (secK c : Rat) + 1 := by rw [Rat.intCast_add, e2]; rfl
  rw [f3] at f2
  rw [← e2] at f1
  refine ⟨?_, ?_, f1, f2⟩
  · unfold truncF
    rw [trunc_floor n z0]
    exact e.symm
  · have : (secK c : Rat) < ((8 : Nat) : Rat) := by
      have : ((8 : Nat) : Rat) = 8 := rfl
      grind
    have : secK c < 8 := by exact_mod_cast this
    omega
/-- How far into it. -/
def secF (c : Nat) : Nat := fsub (fmul w8 c) (floatOfInt .f64 (secK c))
theorem sec_f {c : Nat} (hc : Num c) (c0 : 0 ≤ val c) (c1 : val c < 1) : Num (secF c) ∧ 0 ≤ val (secF c) ∧ val (secF c) ≤ 1 := by
  obtain ⟨n, v⟩ := eight_ex hc c0 c1
  obtain ⟨_, k7, k0, k1⟩ := sec_k hc c0 c1
  obtain ⟨nk, vk⟩ := ofint_val (n := (secK c : Int)) (by omega) (by omega)
  rw [Rat.intCast_natCast] at vk
  obtain ⟨hn, _⟩ := sub_ab n nk (by rw [vk]; unfold Ab; constructor <;> grind)
  obtain ⟨s, m, e, hf, hv⟩ := sub_near n nk
  rw [vk] at hv
  unfold secF
  rw [hf] at hn ⊢
  exact ⟨hn, near_lo n_zero (nearest_zero false 0).2 (by decide +kernel) (by rw [hv]; grind) hn, near_hi n_one (by decide +kernel) (by decide +kernel) (by rw [hv]; grind) hn⟩
/-- The reference's test of the next sector. -/
theorem sec_next {c : Nat} (hc : Num c) (c0 : 0 ≤ val c) (c1 : val c < 1) {j : Nat} (hj : j ≤ 8) : leB (floatOfInt .f64 (j : Int)) (fmul w8 c) = decide (j ≤ secK c) := by
  obtain ⟨n, v⟩ := eight_ex hc c0 c1
  obtain ⟨_, k7, k0, k1⟩ := sec_k hc c0 c1
  obtain ⟨nk, vk⟩ := ofint_val (n := (j : Int)) (by omega) (by omega)
  rw [Rat.intCast_natCast] at vk
  rw [leB_val nk n, vk]
  by_cases h : j ≤ secK c
  · rw [decide_eq_true h]
    have : (j : Rat) ≤ (secK c : Rat) := by exact_mod_cast h
    exact decide_eq_true (by grind)
  · rw [decide_eq_false h]
    have : ((secK c + 1 : Nat) : Rat) ≤ (j : Rat) := by exact_mod_cast (show secK c + 1 ≤ j by omega)
    rw [Rat.natCast_add] at this
    have z : ((1 : Nat) : Rat) = 1 := rfl
    exact decide_eq_false (by grind)
end Go.Proofs.Ytagehemimlakpaa.Fl

namespace Go.Proofs.Ytagehemimlakpaa.Fl

def q40 : Nat := 4427038433705197568
def m40 : Nat := 13650410470559973376
def o40 : Nat := 4607182418800021504
theorem num_q40 : Num q40 := ⟨false, 4503599627370496, -92, by decide +kernel⟩
theorem num_m40 : Num m40 := ⟨true, 4503599627370496, -92, by decide +kernel⟩
theorem num_o40 : Num o40 := ⟨false, 4503599627374592, -52, by decide +kernel⟩
theorem val_q40 : val q40 = 64 * dl := by decide +kernel
theorem val_m40 : val m40 = -(64 * dl) := by decide +kernel
theorem val_o40 : val o40 = 1 + 64 * dl := by decide +kernel
theorem near40 {a b : Nat} (ha : Num a) (hb : Num b) (h : Ab (val a - val b) (62 * dl)) : leB (fsub a b) q40 = true ∧ leB m40 (fsub a b) = true := by
  have hd := dl_le
  have hd0 := dl_ge
  obtain ⟨n, e⟩ := sub_ab ha hb (h.mono (by grind))
  rw [leB_val n num_q40, leB_val num_m40 n, val_q40, val_m40]
  unfold Ab at *
  exact ⟨decide_eq_true (by grind), decide_eq_true (by grind)⟩
theorem neg_val {x : Nat} (hx : Num x) : Num (fsub 0 x) ∧ val (fsub 0 x) = -val x := by
  have hx0 := hx
  have h : Ex (val 0 - val x) := by
    obtain ⟨s, m, e, hr⟩ := hx
    obtain ⟨b1, b2⟩ := number_bounds hr
    refine ⟨!s, m, e, by omega, read_low hr, b2, ?_⟩
    have hv : val x = sg s ((m : Rat) * 2 ^ e) := by unfold val; rw [hr, dval_number]
    rw [val_zero, hv, dval_number]
    cases s <;> simp only [sg, Bool.not_true, Bool.not_false, if_true, Bool.false_eq_true, if_false] <;> grind
  obtain ⟨n, v⟩ := sub_ex num_zero hx0 h
  exact ⟨n, by rw [v, val_zero]; grind⟩
theorem Unit2.negx {x y : Nat} (h : Unit2 x y) : Unit2 (fsub 0 x) y := by
  obtain ⟨n, v⟩ := neg_val h.nx
  have a := h.ax
  have l := h.len
  refine ⟨n, h.ny, ?_, h.ay, ?_⟩
  · rw [v]; unfold Ab at *; constructor <;> grind
  · rw [v]; unfold Ab at *; constructor <;> grind
theorem Unit2.negy {x y : Nat} (h : Unit2 x y) : Unit2 x (fsub 0 y) := h.swap.negx.swap
/-- The square of the length of a pair that is nearly of length 1. -/
theorem Unit2.near {x y : Nat} (h : Unit2 x y) : Num (fadd (fmul x x) (fmul y y)) ∧ Ab (val (fadd (fmul x x) (fmul y y)) - 1) (28 * dl) := by
  have hd := dl_le
  have hd0 := dl_ge
  have xx := h.ax.mul h.ax
  have yy := h.ay.mul h.ay
  have l := h.len
  obtain ⟨n1, e1⟩ := mul_ab h.nx h.nx (xx.mono (by grind))
  obtain ⟨n2, e2⟩ := mul_ab h.ny h.ny (yy.mono (by grind))
  obtain ⟨n3, e3⟩ := add_ab n1 n2 (by unfold Ab at *; constructor <;> grind)
  refine ⟨n3, ?_⟩
  unfold Ab at *
  constructor <;> grind
end Go.Proofs.Ytagehemimlakpaa.Fl

namespace Go.Proofs.Ytagehemimlakpaa.Fl

/-- Two numbers, each times r, divided by each other: what both tell themselves. -/
theorem quot_prod {s c r : Nat} (hs : Num s) (hc : Num c) (hr : Num r) (s0 : 0 ≤ val s) (s1 : val s ≤ 9 / 8) (c0 : 5 / 8 ≤ val c) (c1 : val c ≤ 9 / 8) (r0 : (2 : Rat) ^ (-538 : Int) ≤ val r) (r1 : val r ≤ 1) :
    (Num (fmul s r) ∧ Num (fmul c r) ∧ 0 < val (fmul c r)) ∧ Num (fdiv (fmul s r) (fmul c r)) ∧ Ab (val (fdiv (fmul s r) (fmul c r)) * val c - val s) (5 * dl) := by
  have t0 : (0 : Rat) < 2 ^ (-538 : Int) := p2_pos _
  have eet : et = 2 ^ (-537 : Int) * 2 ^ (-538 : Int) := by unfold et; rw [← p2_add, show (-537 : Int) + -538 = -1075 by decide]
  have e538 : (2 : Rat) ^ (-537 : Int) ≤ 1 / 1152921504606846976 := by
    have h := p2_le (show (-537 : Int) ≤ -60 by omega)
    have e : (2 : Rat) ^ (-60 : Int) = 1 / 1152921504606846976 := by decide +kernel
    rw [e] at h
    exact h
  have p538 : (0 : Rat) < 2 ^ (-537 : Int) := p2_pos _
  generalize (2 : Rat) ^ (-537 : Int) = u at *
  generalize (2 : Rat) ^ (-538 : Int) = t at *
  have rp : 0 < val r := by grind
  have hA0 := Rat.mul_nonneg (show 0 ≤ val c - 5 / 8 by grind) (show 0 ≤ val r by grind)
  have hA1 := Rat.mul_nonneg (show 0 ≤ 9 / 8 - val c by grind) (show 0 ≤ val r by grind)
  have hB0 := Rat.mul_nonneg s0 (show 0 ≤ val r by grind)
  have hB1 := Rat.mul_nonneg (show 0 ≤ 9 / 8 - val s by grind) (show 0 ≤ val r by grind)
  have hut := Rat.mul_nonneg (show 0 ≤ 1 / 1152921504606846976 - u by grind) (show 0 ≤ t by grind)
  have nA := fmul_num hc hr (by grind) (by grind)
  have nB := fmul_num hs hr (by grind) (by grind)
  have hA := fmul_val hc hr nA
  have hB := fmul_val hs hr nB
  have a1 := hA.lo (val c * val r) (by grind) (by grind)
  have a2 := hA.hi (val c * val r) (by grind) (by grind)
  have b1 := hB.lo (2 * (val c * val r)) (by grind) (by grind)
  have b2 := hB.hi (2 * (val c * val r)) (by grind) (by grind)
  rw [eu_eq, eet] at a1 a2 b1 b2
  have ha : Ab (val c * val r - val (fmul c r)) (2 / 9007199254740992 * (val c * val r)) := by unfold Ab; constructor <;> grind
  have hb : Ab (val (fmul s r) - val s * val r) (3 / 9007199254740992 * (val c * val r)) := by unfold Ab; constructor <;> grind
  clear a1 a2 b1 b2 hA hB hut eet e538 p538
  have hAp : 0 < val c * val r := by grind
  have hap : 0 < val (fmul c r) := by unfold Ab at ha; grind
  obtain ⟨neg, mag, place, e, hq⟩ := div_near nB nA (by grind)
  obtain ⟨q1, q2⟩ := hq (3 * (val c * val r)) (by unfold Ab at hb; grind) (by unfold Ab at hb; grind)
  rw [ev_eq] at q1 q2
  have hQ : Ab (dval (.number neg mag place)) 8 := by
    generalize dval (.number neg mag place) = p at *
    constructor
    · rcases Rat.le_total (a := (-8)) (b := p) with k | k
      · exact k
      · have := Rat.mul_nonneg (show 0 ≤ -8 - p by grind) (Rat.le_of_lt hap)
        unfold Ab at ha hb
        grind
    · rcases Rat.le_total (a := p) (b := 8) with k | k
      · exact k
      · have := Rat.mul_nonneg (show 0 ≤ p - 8 by grind) (Rat.le_of_lt hap)
        unfold Ab at ha hb
        grind
  have hn : Num (fdiv (fmul s r) (fmul c r)) := by rw [e]; exact write_num _ _ _ (hQ.mono (show (8 : Rat) ≤ 64 by grind)).1 (hQ.mono (show (8 : Rat) ≤ 64 by grind)).2
  refine ⟨⟨nB, nA, hap⟩, hn, ?_⟩
  rw [e] at hn ⊢
  have h1 := (write_val _ _ _ hn).ab (hQ.mono (by grind))
  have hca : Ab (val c) (9 / 8) := by unfold Ab; constructor <;> grind
  have h2 := h1.mul hca
  have h3 := hQ.mul ha
  have hd0 := dl_ge
  have hdl : dl = 1 / 70368744177664 := rfl
  clear hq e hn nA nB h1
  generalize dval (.number neg mag place) = p at *
  generalize val (F64.nearest neg mag place) = v at *
  generalize val (fmul s r) = b at *
  generalize val (fmul c r) = a at *
  generalize val c = C at *
  generalize val s = S at *
  generalize val r = R at *
  have e1 : (v - p) * C = v * C - p * C := by grind
  have e2 : p * (C * R - a) = p * C * R - p * a := by grind
  rw [e1] at h2
  rw [e2] at h3
  have h4 : Ab ((p * C - S) * R) (24 / 9007199254740992 * R) := by
    unfold Ab at *
    constructor <;> grind
  have h5 : Ab (p * C - S) (24 / 9007199254740992) := by
    unfold Ab at h4
    constructor
    · apply Rat.not_lt.1
      intro k
      have := Rat.mul_pos (show 0 < -(24 / 9007199254740992) - (p * C - S) by grind) rp
      grind
    · apply Rat.not_lt.1
      intro k
      have := Rat.mul_pos (show 0 < (p * C - S) - 24 / 9007199254740992 by grind) rp
      grind
  rw [hdl] at *
  unfold Ab at *
  constructor <;> grind

/-- What is nearly S divided by C, tells f again. -/
theorem sec_near {f : Nat} (h : Sec f) (f0 : 0 ≤ val f) (f1 : val f ≤ 1) {g : Rat} (e : Ab (g * val (secC f) - val (secS f)) (5 * dl)) : Ab (g - val f) (20 * dl) := by
  have hd := dl_le
  have hd0 := dl_ge
  have c0 := h.c0
  have c1 := h.c1
  have len := h.len
  have D0 := h.d0
  have D1 := h.d1
  have ec := h.cd
  have es := h.sd
  generalize val (secS f) = S at *
  generalize val (secC f) = C at *
  generalize val (secD f) = D at *
  generalize val f = F at *
  have Da : Ab D (3 / 2) := by unfold Ab; constructor <;> grind
  have k1 := e.mul Da
  have e1 : (g * C - S) * D = g * (C * D) - S * D := by grind
  rw [e1] at k1
  have k2 : Ab (g * (C * D) - F) (13 * dl) := by unfold Ab at *; constructor <;> grind
  have ga : Ab g (17 / 16) := by
    have hh : Ab (g * (C * D)) (1 + 13 * dl) := by unfold Ab at *; constructor <;> grind
    exact ab_div (g := C * D) (B := 1 + 13 * dl) (by unfold Ab at ec; grind) hh (by grind) (by grind)
  have k3 := ga.mul ec
  have e3 : g * (C * D - 1) = g * (C * D) - g := by grind
  rw [e3] at k3
  unfold Ab at *
  constructor <;> grind
/-- The density that both parts tell again, each times r. -/
theorem dens_prod {f r : Nat} (hf : Num f) (f0 : 0 ≤ val f) (f1 : val f ≤ 1) (s0 : 0 ≤ val (secS f)) (hr : Num r) (r0 : (2 : Rat) ^ (-538 : Int) ≤ val r) (r1 : val r ≤ 1) :
    (Num (fmul (secS f) r) ∧ Num (fmul (secC f) r) ∧ 0 < val (fmul (secC f) r)) ∧ Num (densF (fdiv (fmul (secS f) r) (fmul (secC f) r))) ∧ Num (densF f) ∧ Ab (val (densF (fdiv (fmul (secS f) r) (fmul (secC f) r))) - val (densF f)) (12 * dl) := by
  have hd := dl_le
  have hd0 := dl_ge
  have h := sec_vals hf f0 f1
  have c0 := h.c0
  have len := h.len
  have s1 : val (secS f) ≤ 9 / 8 := by
    have cc := Rat.mul_nonneg (show 0 ≤ val (secC f) - 5 / 8 by grind) (show 0 ≤ val (secC f) + 5 / 8 by grind)
    have sa : Ab (val (secS f)) (7 / 8) := Ab.of_sq (by grind) (by unfold Ab at len; grind)
    unfold Ab at sa
    grind
  obtain ⟨nn, n, e⟩ := quot_prod h.ns h.nc hr s0 s1 c0 h.c1 r0 r1
  have e := sec_near h f0 f1 e
  obtain ⟨n1, e1⟩ := dens_ab n e (by grind) f0 f1
  obtain ⟨n2, e2⟩ := dens_ab hf (F := val f) (B := 0) (by unfold Ab; constructor <;> grind) (by grind) f0 f1
  refine ⟨nn, n1, n2, ?_⟩
  unfold Ab at *
  constructor <;> grind
def two2 : Nat := 4611686018427387904
theorem num_two2 : Num two2 := ⟨false, 4503599627370496, -51, by decide +kernel⟩
theorem val_two2 : val two2 = 2 := by decide +kernel
/-- Two densities, each doubled and times one z, are as near as numbers are. -/
theorem dens_twice {d e z : Nat} (hd : Num d) (he : Num e) (hz : Num z) (z0 : 0 ≤ val z) (z1 : val z ≤ 1) (d0 : Ab (val d) 1) (e0 : Ab (val e) 1) (h : Ab (val d - val e) (12 * dl)) :
    Num (fmul (fmul two2 d) z) ∧ Num (fmul (fmul e two2) z) ∧ Ab (val (fmul (fmul two2 d) z) - val (fmul (fmul e two2) z)) (62 * dl) := by
  have hl := dl_le
  have hl0 := dl_ge
  have za : Ab (val z) 1 := by unfold Ab; constructor <;> grind
  have v2 : val two2 = 2 := val_two2
  obtain ⟨n1, p1⟩ := mul_ab num_two2 hd (by rw [v2]; unfold Ab at *; constructor <;> grind)
  obtain ⟨n2, p2⟩ := mul_ab he num_two2 (by rw [v2]; unfold Ab at *; constructor <;> grind)
  rw [v2] at p1 p2
  have q1 : Ab (val (fmul two2 d)) 3 := by unfold Ab at *; constructor <;> grind
  have q2 : Ab (val (fmul e two2)) 3 := by unfold Ab at *; constructor <;> grind
  obtain ⟨n3, p3⟩ := mul_ab n1 hz ((q1.mul za).mono (by grind))
  obtain ⟨n4, p4⟩ := mul_ab n2 hz ((q2.mul za).mono (by grind))
  refine ⟨n3, n4, ?_⟩
  have q3 : Ab (val (fmul two2 d) - val (fmul e two2)) (26 * dl) := by unfold Ab at *; constructor <;> grind
  have q4 := q3.mul za
  generalize val (fmul two2 d) = a at *
  generalize val (fmul e two2) = b at *
  have e1 : (a - b) * val z = a * val z - b * val z := by grind
  rw [e1] at q4
  unfold Ab at *
  constructor <;> grind
end Go.Proofs.Ytagehemimlakpaa.Fl

namespace Go.Proofs.Ytagehemimlakpaa.Fl

/-- What an operation of the loose kind leaves: a value of V, in a world of C. -/
def looseUpon (P : Program) (C : World → Prop) (V : Value → Prop) : Result Next → Prop
  | .ok (.value u) w' => V u ∧ C w'
  | .ok (.enter f args) w' => Calls P f args w' fun e w'' => ∃ v, e = .returned v ∧ V v ∧ C w''
  | _ => False

theorem looseUpon.some {P : Program} {C : World → Prop} {V : Value → Prop} {r : Result Next} (h : looseUpon P C V r) : ∃ v, V v := by
  unfold looseUpon at h
  split at h
  · exact ⟨_, h.1⟩
  · obtain ⟨_, _, _, ⟨v, _, hv, _⟩, _⟩ := h []
    exact ⟨v, hv⟩
  · exact h.elim

section
variable {P : Program} {ops : Array Oper} {C : World → Prop} {md : Region.Mode} {Q : Exit → Act → World → Prop}

/-- The values that an operation may leave in its slot, in every world of C: one, the world being as it was (kind none); those of V, the world being of C (kind 'some V'). -/
def Gives (P : Program) (ops : Array Oper) (C : World → Prop) (kd : Option (Value → Prop)) (o : Oper) (a : Act) (S : Value → Prop) : Prop :=
  if Region.wanted o (yielded ops a.tmps) = true then
    match kd with
    | none => ∃ v, S = (fun u => u = v) ∧ ∀ w, C w → (execOp a.eval o).run P w = .ok (.value v) w
    | some V => S = V ∧ ∀ w, C w → looseUpon P C V ((execOp a.eval o).run P w)
  else S = fun u => u = undef

theorem Gives.move {kd : Option (Value → Prop)} {o : Oper} {a a' : Act} {S : Value → Prop} (h : Gives P ops C kd o a S) (he : execOp a'.eval o = execOp a.eval o)
    (hw : Region.wanted o (yielded ops a'.tmps) = Region.wanted o (yielded ops a.tmps)) : Gives P ops C kd o a' S := by
  unfold Gives at *
  rw [he, hw]
  exact h

theorem Gives.one {kd : Option (Value → Prop)} {o : Oper} {a : Act} {S T : Value → Prop} {w : World} (hC : C w) (h : Gives P ops C kd o a S) (k : Gives P ops C kd o a T) : S = T := by
  unfold Gives at *
  split at h
  · rename_i hw
    rw [if_pos hw] at k
    cases kd with
    | none =>
      obtain ⟨v, rfl, hv⟩ := h
      obtain ⟨u, rfl, hu⟩ := k
      have e := (hv w hC).symm.trans (hu w hC)
      injection e with e1 _
      injection e1 with e2
      rw [e2]
    | some V => exact h.1.trans k.1.symm
  · rename_i hw
    rw [if_neg hw] at k
    exact h.trans k.symm

theorem Gives.ex {kd : Option (Value → Prop)} {o : Oper} {a : Act} {S : Value → Prop} {w : World} (hC : C w) (h : Gives P ops C kd o a S) : ∃ v, S v := by
  unfold Gives at h
  split at h
  · cases kd with
    | none => obtain ⟨v, rfl, _⟩ := h; exact ⟨v, rfl⟩
    | some V => obtain ⟨rfl, hv⟩ := h; exact (hv w hC).some
  · exact ⟨undef, by rw [h]⟩

/-- One operation. -/
def lStep (P : Program) (ops : Array Oper) (C : World → Prop) (kd : Option (Value → Prop)) (o : Oper) (K : Act → Prop) (a : Act) : Prop :=
  ∃ S, Gives P ops C kd o a S ∧ ∀ v, S v → K (a.put o.dst v)

theorem wpOp_of_lStep {kd : Option (Value → Prop)} {o : Oper} {K : Act → Prop} {a : Act} {i : Nat} {w : World} {K' : Act → World → Prop} (hi : ops[i]? = some o) (hC : C w)
    (hK : ∀ a' w', C w' → K a' → K' a' w') (h : lStep P ops C kd o K a) : wpOp P ops Q i K' a w := by
  obtain ⟨S, hS, hn⟩ := h
  unfold Gives at hS
  unfold wpOp
  rw [hi]
  dsimp only
  split at hS
  · rename_i hw
    rw [if_pos hw]
    refine .inl ?_
    unfold Oper.wp
    cases kd with
    | none =>
      obtain ⟨v, rfl, hv⟩ := hS
      rw [hv w hC]
      exact hK _ _ hC (hn v rfl)
    | some V =>
      obtain ⟨rfl, hv⟩ := hS
      have h1 := hv w hC
      generalize (execOp a.eval o).run P w = r at h1
      unfold looseUpon at h1
      split at h1
      · exact hK _ _ h1.2 (hn _ h1.1)
      · refine Calls.mono h1 fun e w'' ⟨v, he, hV, hc⟩ => ?_
        subst he
        exact hK _ _ hc (hn _ hV)
      · exact h1.elim
  · rename_i hw
    rw [if_neg hw]
    exact hK _ _ hC (hn undef (by rw [hS]))

/-- Whatever order is picked, till only the last operation (number m) is left; then F. -/
def wpAnyL (P : Program) (md : Region.Mode) (ops : Array Oper) (C : World → Prop) (kinds : Nat → Option (Value → Prop)) (m : Nat) (F : Act → Prop) : Nat → Array Bool → Act → Prop
  | 0, listed, a => (∀ k, k < m → listed.getD k true = true) ∧ m ∈ Region.ready md ops listed ∧ F a
  | fuel + 1, listed, a => Region.ready md ops listed ≠ [] ∧ ∀ i ∈ Region.ready md ops listed, ∃ o, ops[i]? = some o ∧ lStep P ops C (kinds i) o (wpAnyL P md ops C kinds m F fuel (listed.setIfInBounds i true)) a

/-- The last operation waits for all others. -/
def lastWaits (md : Region.Mode) (ops : Array Oper) (m : Nat) : Bool :=
  ops.size == m + 1 && match ops[m]? with
    | some o => (List.range m).all fun k => o.after.any fun e => Region.binds md e && e.on == k
    | none => false

theorem lastWaits_spec {m : Nat} (h : lastWaits md ops m = true) {listed : Array Bool} (hr : m ∈ Region.ready md ops listed) : ∀ k, k < m → listed.getD k false = true := by
  intro k hk
  simp only [lastWaits, Bool.and_eq_true] at h
  obtain ⟨_, o, ho, hall⟩ := mem_ready.1 hr
  rw [ho] at h
  have h2 := List.all_eq_true.1 h.2 k (List.mem_range.2 hk)
  obtain ⟨e, he, hb⟩ := Array.any_eq_true'.1 h2
  simp only [Bool.and_eq_true, beq_iff_eq] at hb
  have := hall e he hb.1
  rw [hb.2] at this
  exact this

theorem lt_of_ready {i : Nat} {listed : Array Bool} (h : i ∈ Region.ready md ops listed) : i < ops.size := by
  obtain ⟨_, o, ho, _⟩ := mem_ready.1 h
  exact (Array.getElem?_eq_some_iff.1 ho).1

theorem getD_true_of {listed : Array Bool} {k : Nat} (h : listed.getD k false = true) : listed.getD k true = true := by
  rcases Nat.lt_or_ge k listed.size with h' | h'
  · simp [h'] at h ⊢; exact h
  · simp [Array.getElem?_eq_none h']

/-- An operation that may come up now may be taken first. -/
theorem wpAnyL_first {kinds : Nat → Option (Value → Prop)} {m : Nat} {F : Act → Prop} {w0 : World} (hC : C w0) (hL : lastWaits md ops m = true) {i : Nat} (him : i < m) {oi : Oper} (hi : ops[i]? = some oi)
    (hsel : ∀ (j : Nat) (o : Oper) cs b, ops[j]? = some o → o.op ≠ .select cs b) {S : Value → Prop} :
    ∀ (fuel : Nat) (listed : Array Bool) (a : Act),
      (∀ j oj, ops[j]? = some oj → j ≠ i → listed.getD j true = false → (∀ e ∈ oj.after, Region.binds md e = true → e.on ≠ i) → oi.apart ops oj = true) →
      i ∈ Region.ready md ops listed → Gives P ops C (kinds i) oi a S →
      (∀ v, S v → wpAnyL P md ops C kinds m F fuel (listed.setIfInBounds i true) (a.put oi.dst v)) → wpAnyL P md ops C kinds m F (fuel + 1) listed a := by
  have small : ∀ (listed : Array Bool) (j : Nat), i ∈ Region.ready md ops listed → j ∈ Region.ready md ops listed → j < m := by
    intro listed j hr hj
    have h1 := lt_of_ready hj
    have h2 : ops.size = m + 1 := by simp only [lastWaits, Bool.and_eq_true, beq_iff_eq] at hL; exact hL.1
    rcases Nat.lt_or_ge j m with h | h
    · exact h
    · obtain rfl : j = m := by omega
      have h3 := getD_true_of (lastWaits_spec hL hj i him)
      rw [(mem_ready.1 hr).1] at h3
      cases h3
  intro fuel
  induction fuel with
  | zero =>
    intro listed a _ hr hG H
    refine ⟨fun h => (by rw [h] at hr; cases hr), fun j hj => ?_⟩
    by_cases hji : j = i
    · subst hji; exact ⟨oi, hi, S, hG, H⟩
    · obtain ⟨v, hv⟩ := hG.ex hC
      have h1 := (H v hv).1 j (small listed j hr hj)
      rw [getD_set_ne true (Ne.symm hji), (mem_ready.1 hj).1] at h1
      cases h1
  | succ fuel ih =>
    intro listed a hfree hr hG H
    refine ⟨fun h => (by rw [h] at hr; cases hr), fun j hj => ?_⟩
    by_cases hji : j = i
    · subst hji; exact ⟨oi, hi, S, hG, H⟩
    · obtain ⟨hjun, oj, hoj, hall⟩ := mem_ready.1 hj
      have hnot : ∀ e ∈ oj.after, Region.binds md e = true → e.on ≠ i := by
        intro e he hb heq
        have h1 := getD_true_of (hall e he hb)
        rw [heq, (mem_ready.1 hr).1] at h1
        cases h1
      obtain ⟨h1, h2, h3⟩ := Oper.apart_spec (hfree j oj hoj hji hjun hnot)
      have hsi := fun cs b => hsel i oi cs b hi
      have hsj := fun cs b => hsel j oj cs b hoj
      -- what j gives does not hang on i's value
      have got : ∀ v, S v → ∃ T, Gives P ops C (kinds j) oj a T ∧ ∀ u, T u → wpAnyL P md ops C kinds m F fuel ((listed.setIfInBounds i true).setIfInBounds j true) ((a.put oi.dst v).put oj.dst u) := by
        intro v hv
        obtain ⟨o', ho', T, hT, hn⟩ := (H v hv).2 j (ready_mono hj hji)
        rw [hoj] at ho'
        cases ho'
        exact ⟨T, hT.move (execOp_put oj hsj a oi.dst v h1).symm (wanted_put oj a oi.dst v h1).symm, hn⟩
      obtain ⟨v0, hv0⟩ := hG.ex hC
      obtain ⟨T, hT, _⟩ := got v0 hv0
      refine ⟨oj, hoj, T, hT, fun u hu => ih (listed.setIfInBounds j true) (a.put oj.dst u) ?_ (ready_mono hr (Ne.symm hji)) (hG.move (execOp_put oi hsi a oj.dst u h3) (wanted_put oi a oj.dst u h3)) fun v hv => ?_⟩
      · intro k ok hk hki hun hno
        refine hfree k ok hk hki ?_ hno
        by_cases hjk : j = k
        · subst hjk; exact hjun
        · rw [getD_set_ne true hjk] at hun; exact hun
      · obtain ⟨T', hT', hn⟩ := got v hv
        have e := Gives.one hC hT hT'
        subst e
        have := hn u hu
        rw [Array.setIfInBounds_comm _ _ (Ne.symm hji)] at this
        rw [← Act.put_comm a v u h2]
        exact this

theorem wpAny_of_L {kinds : Nat → Option (Value → Prop)} {m : Nat} {last : Oper} (hL : lastWaits md ops m = true) (hm : ops[m]? = some last) :
    ∀ (fuel : Nat) (listed : Array Bool) (a : Act) (w : World), C w → wpAnyL P md ops C kinds m (fun a => ∀ w, C w → wpList P ops Q [last] a w) fuel listed a → wpAny P md ops Q (fuel + 1) listed a w := by
  have hsz : ops.size = m + 1 := by simp only [lastWaits, Bool.and_eq_true, beq_iff_eq] at hL; exact hL.1
  intro fuel
  induction fuel with
  | zero =>
    intro listed a w hw h
    obtain ⟨hall, hr, hF⟩ := h
    refine ⟨fun h0 => (by rw [h0] at hr; cases hr), fun i hi => ?_⟩
    have hlt := lt_of_ready hi
    obtain rfl : i = m := by
      rcases Nat.lt_or_ge i m with h' | h'
      · have := hall i h'; rw [(mem_ready.1 hi).1] at this; cases this
      · omega
    have hend : Region.ready md ops (listed.setIfInBounds i true) = [] := by
      refine List.eq_nil_iff_forall_not_mem.2 fun j hj => ?_
      have hjl := lt_of_ready hj
      have h0 := (mem_ready.1 hj).1
      by_cases hji : j = i
      · subst hji
        rcases Nat.lt_or_ge j listed.size with h' | h'
        · simp [h'] at h0
        · simp [h'] at h0
      · rw [getD_set_ne true (Ne.symm hji), hall j (by omega)] at h0
        cases h0
    have h1 := hF w hw
    unfold wpList at h1
    unfold wpOp
    rw [hm]
    dsimp only
    split at h1
    · rename_i hwd
      rw [if_pos hwd]
      exact h1.imp (Oper.wp_mono fun a' w' h' => ⟨hend, h'⟩) id
    · rename_i hwd
      rw [if_neg hwd]
      exact ⟨hend, h1⟩
  | succ fuel ih =>
    intro listed a w hw h
    refine ⟨fun h0 => absurd h0 h.1, fun i hi => ?_⟩
    obtain ⟨o, ho, hs⟩ := h.2 i hi
    exact wpOp_of_lStep ho hw (fun a' w' hw' hk => ih _ a' w' hw' hk) hs

/-- The walk in the order of the text, a kind beside each operation; the last operation is left to the plain walk. -/
def wpLoose (P : Program) (ops : Array Oper) (C : World → Prop) (Q : Exit → Act → World → Prop) : List (Option (Value → Prop)) → List Oper → Act → Prop
  | _, [], _ => False
  | _, [o], a => ∀ w, C w → wpList P ops Q [o] a w
  | kds, o :: o2 :: rest, a => lStep P ops C (kds.headD none) o (wpLoose P ops C Q kds.tail (o2 :: rest)) a

theorem wpAnyL_lex {m : Nat} {w0 : World} (hC : C w0) (hs : Region.noSelect ops = true) (hL : lastWaits md ops m = true) {last : Oper} (hlast : ops[m]? = some last) {kinds : Nat → Option (Value → Prop)} :
    ∀ (l : List Oper) (kds : List (Option (Value → Prop))) (k : Nat) (listed : Array Bool) (a : Act), (∀ j, l[j]? = ops[k + j]?) → (∀ j, kinds (k + j) = kds.getD j none) → k + l.length = m + 1 →
      (∀ j, j < k → listed.getD j true = true) → Region.lexFrom md ops l.length k listed = true → wpLoose P ops C Q kds l a →
      wpAnyL P md ops C kinds m (fun a => ∀ w, C w → wpList P ops Q [last] a w) (l.length - 1) listed a
  | [], _, _, _, _, _, _, _, _, _, h => h.elim
  | [o], kds, k, listed, a, hl, hk, hn, hd, hB, h => by
    have h0 : ops[k]? = some o := by simpa using (hl 0).symm
    have hkm : k = m := by simp at hn; omega
    subst hkm
    rw [hlast] at h0
    cases h0
    simp only [List.length_cons, List.length_nil, Region.lexFrom, Bool.and_eq_true] at hB
    exact ⟨hd, by simpa using hB.1.1, h⟩
  | o :: o2 :: l, kds, k, listed, a, hl, hk, hn, hd, hB, h => by
    have h0 : ops[k]? = some o := by simpa using (hl 0).symm
    have hkm : k < m := by simp at hn; omega
    simp only [List.length_cons, Region.lexFrom, Bool.and_eq_true] at hB
    obtain ⟨⟨hr, hf⟩, hB'⟩ := hB
    obtain ⟨S, hS, hK⟩ := h
    have e0 : kinds k = kds.headD none := by have := hk 0; cases kds <;> simpa using this
    rw [← e0] at hS
    have hr' : k ∈ Region.ready md ops listed := by simpa using hr
    have hsz := lt_of_ready hr'
    refine wpAnyL_first hC hL hkm h0 (Region.noSelect_spec hs) _ listed a (Region.free_spec h0 hf) hr' hS fun v hv => ?_
    refine wpAnyL_lex hC hs hL hlast (o2 :: l) kds.tail (k + 1) _ _ (fun j => ?_) (fun j => ?_) (by simp at hn ⊢; omega) (fun j hj => ?_) (by simpa [Region.lexFrom] using hB') (hK v hv)
    · have := hl (j + 1); simpa [Nat.add_assoc, Nat.add_comm 1 j] using this
    · have := hk (j + 1)
      rw [Nat.add_assoc, Nat.add_comm 1 j, this]
      cases kds <;> simp
    · by_cases hjk : j = k
      · subst hjk
        have h1 := (mem_ready.1 hr').1
        rcases Nat.lt_or_ge j listed.size with h' | h'
        · simp [h']
        · simp [h']
      · rw [getD_set_ne true (Ne.symm hjk)]
        exact hd j (by omega)

/-- The law: a region that draws, written out. 'm': its last operation's number. -/
theorem wp_region_loose {id : Nat} {a : Act} {w : World} {l : List Oper} (C : World → Prop) (kds : List (Option (Value → Prop))) (m : Nat) (hm : P.follows .mixedOrders = true) (hB : Region.lexB .any l.toArray = true)
    (hL : lastWaits .any l.toArray m = true) (hC : C w.drew) (h : wpLoose P l.toArray C Q kds l a) : (Code.region id l.toArray true).wp P Q a w := by
  simp only [Region.lexB, Bool.and_eq_true] at hB
  have hsz : l.length = m + 1 := by have := hL; simp only [lastWaits, Bool.and_eq_true, beq_iff_eq] at this; simpa using this.1
  obtain ⟨last, hlast⟩ : ∃ o, l.toArray[m]? = some o := ⟨l[m]'(by omega), by simp⟩
  refine wp_region_any hm ?_
  have h1 := wpAnyL_lex (P := P) (Q := Q) (kinds := fun j => kds.getD j none) hC hB.1 hL hlast l kds 0 (Array.replicate l.toArray.size false) a (by simp) (by simp) (by omega) (by simp) (by simpa using hB.2) h
  have h2 := wpAny_of_L hL hlast _ _ _ _ hC h1
  have e : l.length - 1 + 1 = l.toArray.size := by simp; omega
  rw [e] at h2
  exact h2

/-! The steps -/
theorem loose_step {kds : List (Option (Value → Prop))} {o o2 : Oper} {rest : List Oper} {a : Act} (h : ∀ K : Act → Prop, (∀ a, wpLoose P ops C Q kds.tail (o2 :: rest) a → K a) → lStep P ops C (kds.headD none) o K a) :
    wpLoose P ops C Q kds (o :: o2 :: rest) a := h _ fun _ h => h
theorem lStep_one {o : Oper} {a : Act} {K : Act → Prop} (hw : Region.wanted o (yielded ops a.tmps) = true) (v : Value) (h : ∀ w, C w → (execOp a.eval o).run P w = .ok (.value v) w) (hK : K (a.put o.dst v)) : lStep P ops C none o K a :=
  ⟨fun u => u = v, by unfold Gives; rw [if_pos hw]; exact ⟨v, rfl, h⟩, fun u hu => by subst hu; exact hK⟩
theorem lStep_any {o : Oper} {a : Act} {K : Act → Prop} {V : Value → Prop} (hw : Region.wanted o (yielded ops a.tmps) = true) (h : ∀ w, C w → looseUpon P C V ((execOp a.eval o).run P w)) (hK : ∀ v, V v → K (a.put o.dst v)) : lStep P ops C (some V) o K a :=
  ⟨V, by unfold Gives; rw [if_pos hw]; exact ⟨rfl, h⟩, hK⟩
theorem lStep_skip {kd : Option (Value → Prop)} {o : Oper} {a : Act} {K : Act → Prop} (hw : Region.wanted o (yielded ops a.tmps) = false) (hK : K (a.put o.dst undef)) : lStep P ops C kd o K a :=
  ⟨fun u => u = undef, by unfold Gives; rw [if_neg (by rw [hw]; exact Bool.false_ne_true)], fun u hu => by subst hu; exact hK⟩
end
end Go.Proofs.Ytagehemimlakpaa.Fl

namespace Go.Proofs.Ytagehemimlakpaa.Fl
open Go.RowKit

theorem Sm.of_eq {x y : Nat} (h : x = y) : Sm x y := h ▸ Sm.refl x
theorem _root_.Go.Proofs.Ytagehemimlakpaa.hid {p : Prop} (h : p) : Hid p := h
/-- A float, up to which NaN. -/
def isF (z : Nat) (v : Value) : Prop := ∃ r, v = .float .f64 r ∧ Eqv r z
/-- A vector, likewise. -/
def isV (x y z : Nat) (v : Value) : Prop := ∃ a b c, v = .agg #[.float .f64 a, .float .f64 b, .float .f64 c] ∧ Eqv a x ∧ Eqv b y ∧ Eqv c z

theorem isV.to {x y z x' y' z' : Nat} (hx : x = x') (hy : y = y') (hz : z = z') : ∀ v, isV x y z v → isV x' y' z' v := by
  subst hx; subst hy; subst hz; exact fun _ h => h

theorem below_dr {B : Nat} {a w : World} (h : Below B a w) (n : Nat) : Below B a (w.drewN n) := ⟨h.os, h.tape, h.output, h.size, h.block⟩

/-- The call returns a value of V; nothing that was there is turned. -/
def Ret (P : Program) (f : FuncId) (args : Array Value) (w : World) (V : Value → Prop) : Prop :=
  Calls P f args w fun e w' => ∃ v, e = .returned v ∧ V v ∧ Below w.heap.size w w'

theorem Ret.mono {P : Program} {f : FuncId} {args : Array Value} {w : World} {V V' : Value → Prop} (h : Ret P f args w V) (hv : ∀ v, V v → V' v) : Ret P f args w V' :=
  Calls.mono h fun _ _ ⟨v, he, hV, hb⟩ => ⟨v, he, hv v hV, hb⟩

section
variable {P : Program}
/-- The walk's law at an operation on floats. -/
theorem upon_fbin {o : Oper} {a : Act} {K : Act → World → Prop} {Q : Exit → Act → World → Prop} {op : BinOp} {t : TypeId} {x y : Nat} {w : World} (hop : op = .add ∨ op = .sub ∨ op = .mul ∨ op = .quo)
    (h : ∀ r n, Eqv r (fbin op x y) → Oper.upon P o a K Q (.ok (.value (.float .f64 r)) (w.drewN n))) :
    Oper.upon P o a K Q ((Sem.run P (binOp op t (.float .f64 x) (.float .f64 y)) w).andThen fun a w' => Result.ok (Next.value a) w') := by
  obtain ⟨r, n, e, hr⟩ := run_fbin (P := P) op hop t x y w
  rw [e]
  exact h r n hr
theorem upon_add {o : Oper} {a : Act} {K : Act → World → Prop} {Q : Exit → Act → World → Prop} {t : TypeId} {x y X Y : Nat} {w : World} (hx : Sm x X) (hy : Sm y Y)
    (h : ∀ r n, Eqv r (fadd X Y) → Oper.upon P o a K Q (.ok (.value (.float .f64 r)) (w.drewN n))) :
    Oper.upon P o a K Q ((Sem.run P (binOp .add t (.float .f64 x) (.float .f64 y)) w).andThen fun a w' => Result.ok (Next.value a) w') :=
  upon_fbin (.inl rfl) fun r n hr => h r n (hr.to (Sm.of_eq (fadd_congr hx hy)))
theorem upon_sub {o : Oper} {a : Act} {K : Act → World → Prop} {Q : Exit → Act → World → Prop} {t : TypeId} {x y X Y : Nat} {w : World} (hx : Sm x X) (hy : Sm y Y)
    (h : ∀ r n, Eqv r (fsub X Y) → Oper.upon P o a K Q (.ok (.value (.float .f64 r)) (w.drewN n))) :
    Oper.upon P o a K Q ((Sem.run P (binOp .sub t (.float .f64 x) (.float .f64 y)) w).andThen fun a w' => Result.ok (Next.value a) w') :=
  upon_fbin (.inr (.inl rfl)) fun r n hr => h r n (hr.to (Sm.of_eq (fsub_congr hx hy)))
theorem upon_mul {o : Oper} {a : Act} {K : Act → World → Prop} {Q : Exit → Act → World → Prop} {t : TypeId} {x y X Y : Nat} {w : World} (hx : Sm x X) (hy : Sm y Y)
    (h : ∀ r n, Eqv r (fmul X Y) → Oper.upon P o a K Q (.ok (.value (.float .f64 r)) (w.drewN n))) :
    Oper.upon P o a K Q ((Sem.run P (binOp .mul t (.float .f64 x) (.float .f64 y)) w).andThen fun a w' => Result.ok (Next.value a) w') :=
  upon_fbin (.inr (.inr (.inl rfl))) fun r n hr => h r n (hr.to (Sm.of_eq (fmul_congr hx hy)))
theorem upon_div {o : Oper} {a : Act} {K : Act → World → Prop} {Q : Exit → Act → World → Prop} {t : TypeId} {x y X Y : Nat} {w : World} (hx : Sm x X) (hy : Sm y Y)
    (h : ∀ r n, Eqv r (fdiv X Y) → Oper.upon P o a K Q (.ok (.value (.float .f64 r)) (w.drewN n))) :
    Oper.upon P o a K Q ((Sem.run P (binOp .quo t (.float .f64 x) (.float .f64 y)) w).andThen fun a w' => Result.ok (Next.value a) w') :=
  upon_fbin (.inr (.inr (.inr rfl))) fun r n hr => h r n (hr.to (Sm.of_eq (fdiv_congr hx hy)))

theorem loose_fbin {C : World → Prop} {V : Value → Prop} {op : BinOp} {t : TypeId} {x y : Nat} {w : World} (hop : op = .add ∨ op = .sub ∨ op = .mul ∨ op = .quo)
    (hC : ∀ n, C (w.drewN n)) (h : ∀ r, Eqv r (fbin op x y) → V (.float .f64 r)) :
    looseUpon P C V ((Sem.run P (binOp op t (.float .f64 x) (.float .f64 y)) w).andThen fun a w' => Result.ok (Next.value a) w') := by
  obtain ⟨r, n, e, hr⟩ := run_fbin (P := P) op hop t x y w
  rw [e]
  exact ⟨h r hr, hC n⟩
theorem loose_add {C : World → Prop} {t : TypeId} {x y X Y : Nat} {w : World} (hx : Sm x X) (hy : Sm y Y) (hC : ∀ n, C (w.drewN n)) :
    looseUpon P C (isF (fadd X Y)) ((Sem.run P (binOp .add t (.float .f64 x) (.float .f64 y)) w).andThen fun a w' => Result.ok (Next.value a) w') :=
  loose_fbin (.inl rfl) hC fun r hr => ⟨r, rfl, hr.to (Sm.of_eq (fadd_congr hx hy))⟩
theorem loose_sub {C : World → Prop} {t : TypeId} {x y X Y : Nat} {w : World} (hx : Sm x X) (hy : Sm y Y) (hC : ∀ n, C (w.drewN n)) :
    looseUpon P C (isF (fsub X Y)) ((Sem.run P (binOp .sub t (.float .f64 x) (.float .f64 y)) w).andThen fun a w' => Result.ok (Next.value a) w') :=
  loose_fbin (.inr (.inl rfl)) hC fun r hr => ⟨r, rfl, hr.to (Sm.of_eq (fsub_congr hx hy))⟩
theorem loose_mul {C : World → Prop} {t : TypeId} {x y X Y : Nat} {w : World} (hx : Sm x X) (hy : Sm y Y) (hC : ∀ n, C (w.drewN n)) :
    looseUpon P C (isF (fmul X Y)) ((Sem.run P (binOp .mul t (.float .f64 x) (.float .f64 y)) w).andThen fun a w' => Result.ok (Next.value a) w') :=
  loose_fbin (.inr (.inr (.inl rfl))) hC fun r hr => ⟨r, rfl, hr.to (Sm.of_eq (fmul_congr hx hy))⟩
theorem loose_div {C : World → Prop} {t : TypeId} {x y X Y : Nat} {w : World} (hx : Sm x X) (hy : Sm y Y) (hC : ∀ n, C (w.drewN n)) :
    looseUpon P C (isF (fdiv X Y)) ((Sem.run P (binOp .quo t (.float .f64 x) (.float .f64 y)) w).andThen fun a w' => Result.ok (Next.value a) w') :=
  loose_fbin (.inr (.inr (.inr rfl))) hC fun r hr => ⟨r, rfl, hr.to (Sm.of_eq (fdiv_congr hx hy))⟩

/-- The class of worlds of a region: what stood at its head is as it was. -/
def Cl (W : World) : World → Prop := fun w' => Below W.heap.size W w'
theorem Cl.drew (W : World) : Cl W W.drew := (Below.refl _ _).drew
theorem Cl.drewN {W w : World} (h : Cl W w) (n : Nat) : Cl W (w.drewN n) := below_dr h n
theorem Cl.call {W w w' : World} (h : Cl W w) (hb : Below w.heap.size w w') : Cl W w' := Below.trans h (hb.mono h.size)

theorem Cl.alloc {W w : World} (h : Cl W w) (o : Obj) : Cl W (w.alloc o) := Below.alloc h h.size o
theorem Cl.setCell {W w : World} (h : Cl W w) {p : Addr} (hp : W.heap.size ≤ p.block) (u : Value) : Cl W (w.setCell p u) := Below.setCell h hp u
theorem Cl.out1 {w w' : World} {o1 : Obj} (h : Cl (w.alloc o1) w') : Below w.heap.size w w' :=
  ((Below.refl _ _).alloc (Nat.le_refl _) _).trans (Below.mono h (by simp))
theorem Cl.out2 {w w' : World} {o1 o2 : Obj} (h : Cl ((w.alloc o1).alloc o2) w') : Below w.heap.size w w' :=
  (((Below.refl _ _).alloc (Nat.le_refl _) _).alloc (by simp) _).trans (Below.mono h (by simp; omega))
theorem Cl.out3 {w w' : World} {o1 o2 o3 : Obj} (h : Cl (((w.alloc o1).alloc o2).alloc o3) w') : Below w.heap.size w w' :=
  ((((Below.refl _ _).alloc (Nat.le_refl _) _).alloc (by simp) _).alloc (by simp; omega) _).trans (Below.mono h (by simp; omega))

theorem loose_ret {f : FuncId} {args : Array Value} {V : Value → Prop} {W w : World} (h : Ret P f args w V) (hw : Cl W w) : looseUpon P (Cl W) V (.ok (.enter f args) w) :=
  Calls.mono h fun _ _ ⟨v, he, hV, hb⟩ => ⟨v, he, hV, hw.call hb⟩

/-- A step whose value is told up to V. -/
theorem loose_any {ops : Array Oper} {C : World → Prop} {Q : Exit → Act → World → Prop} {V : Value → Prop} {kds : List (Option (Value → Prop))} {o o2 : Oper} {rest : List Oper} {a : Act} (hw : Region.wanted o (yielded ops a.tmps) = true)
    (h : ∀ w, C w → looseUpon P C V ((execOp a.eval o).run P w)) (hK : ∀ K : Act → Prop, (∀ a, wpLoose P ops C Q kds (o2 :: rest) a → K a) → ∀ v, V v → K (a.put o.dst v)) : wpLoose P ops C Q (some V :: kds) (o :: o2 :: rest) a :=
  loose_step fun K hk => lStep_any hw h (hK K hk)
/-- A step that gives one value. -/
theorem loose_one {ops : Array Oper} {C : World → Prop} {Q : Exit → Act → World → Prop} {kds : List (Option (Value → Prop))} {o o2 : Oper} {rest : List Oper} {a : Act} (v : Value) (hw : Region.wanted o (yielded ops a.tmps) = true)
    (h : ∀ w, C w → (execOp a.eval o).run P w = .ok (.value v) w) (hK : ∀ K : Act → Prop, (∀ a, wpLoose P ops C Q kds (o2 :: rest) a → K a) → K (a.put o.dst v)) : wpLoose P ops C Q (none :: kds) (o :: o2 :: rest) a :=
  loose_step fun K hk => lStep_one hw v h (hK K hk)

@[go_sem] theorem run_store_float (w : World) (a : Addr) (k : FloatKind) (x : Nat) (m : Mode) : (store a (.float k x) m).run P w = stored P w a (.float k x) m := run_store P w a _ m rfl

@[go_sem] theorem run_equalIn_float (w : World) (d : Nat) (t : TypeId) (k k' : FloatKind) (a b : Nat) (h : P.underlying t = some (.float k')) : (Op.equalIn (d + 1) t (.float k a) (.float k b)).run P w = .ok (Op.floatEq k a b) w := by
  simp [Op.equalIn, run_underlying h]
/-- Three comparisons, one behind the other. -/
theorem ite_three (a b c : Bool) (w : World) : (if a = false then Result.ok (Next.value (.bool false)) w else if b = false then .ok (.value (.bool false)) w else if c = false then .ok (.value (.bool false)) w else .ok (.value (.bool true)) w) = .ok (.value (.bool (a && b && c))) w := by
  cases a <;> cases b <;> cases c <;> rfl

/-- Three cells of a block. -/
theorem Cl.three {W w' : World} (h : Cl W w') {b : Nat} {x y z : Value} (hx : W.cell? ⟨b, 0, none⟩ = some x) (hy : W.cell? ⟨b, 1, none⟩ = some y) (hz : W.cell? ⟨b, 2, none⟩ = some z) (hb : b < W.heap.size) :
    w'.cell? ⟨b, 0, none⟩ = some x ∧ w'.cell? ⟨b, 1, none⟩ = some y ∧ w'.cell? ⟨b, 2, none⟩ = some z :=
  ⟨(h.cell (p := ⟨b, 0, none⟩) hb).trans hx, (h.cell (p := ⟨b, 1, none⟩) hb).trans hy, (h.cell (p := ⟨b, 2, none⟩) hb).trans hz⟩
theorem Cl.next3 {W w' : World} (h : Cl W w') {b : Nat} {x y z : Value} (hx : W.cell? ⟨b, 3, none⟩ = some x) (hy : W.cell? ⟨b, 4, none⟩ = some y) (hz : W.cell? ⟨b, 5, none⟩ = some z) (hb : b < W.heap.size) :
    w'.cell? ⟨b, 3, none⟩ = some x ∧ w'.cell? ⟨b, 4, none⟩ = some y ∧ w'.cell? ⟨b, 5, none⟩ = some z :=
  ⟨(h.cell (p := ⟨b, 3, none⟩) hb).trans hx, (h.cell (p := ⟨b, 4, none⟩) hb).trans hy, (h.cell (p := ⟨b, 5, none⟩) hb).trans hz⟩
theorem Cl.frz {W w' : World} (h : Cl W w') {b : Nat} (f0 : W.frozen? ⟨b, 0, none⟩ = false) (f1 : W.frozen? ⟨b, 1, none⟩ = false) (f2 : W.frozen? ⟨b, 2, none⟩ = false) (hb : b < W.heap.size) :
    w'.frozen? ⟨b, 0, none⟩ = false ∧ w'.frozen? ⟨b, 1, none⟩ = false ∧ w'.frozen? ⟨b, 2, none⟩ = false :=
  ⟨(h.frozen (p := ⟨b, 0, none⟩) hb).trans f0, (h.frozen (p := ⟨b, 1, none⟩) hb).trans f1, (h.frozen (p := ⟨b, 2, none⟩) hb).trans f2⟩
end
end Go.Proofs.Ytagehemimlakpaa.Fl

namespace Go.Proofs.Ytagehemimlakpaa.Fl

theorem add_some {x y : Nat} (hx : Num x) (hy : Num y) : F64.add x y = some (fadd x y) := by
  obtain ⟨s, m, i, hx⟩ := hx
  obtain ⟨t, n, j, hy⟩ := hy
  obtain ⟨a, b, c, h, _⟩ := sum_val s t m n i j
  unfold fadd Ieee.Format.add
  rw [hx, hy, h]
  rfl
theorem sub_some {x y : Nat} (hx : Num x) (hy : Num y) : F64.sub x y = some (fsub x y) := by
  obtain ⟨s, m, i, hx⟩ := hx
  obtain ⟨t, n, j, hy⟩ := hy
  unfold fsub Ieee.Format.sub
  obtain ⟨a, b, c, h, _⟩ := sum_val s (!t) m n i j
  rw [hx, hy, Ieee.Datum.opposite, h]
  rfl
theorem sqrt_num {x : Nat} (hx : Num x) (h0 : 0 ≤ val x) : F64.sqrt x = some (fsqrt x) := by
  obtain ⟨s, m, i, hr⟩ := hx
  have hvx : val x = sg s ((m : Rat) * 2 ^ i) := by unfold val; rw [hr, dval_number]
  unfold fsqrt Ieee.Format.sqrt
  rw [hr]
  by_cases hm : m = 0
  · subst hm
    simp [Ieee.Datum.root]
  · have hs : s = false := by
      cases s
      · rfl
      · exfalso
        have h2 : (0 : Rat) < m := by exact_mod_cast Nat.pos_of_ne_zero hm
        have h3 := Rat.mul_pos h2 (p2_pos i)
        rw [hvx] at h0
        simp only [sg, if_true] at h0
        grind
    subst hs
    simp [Ieee.Datum.root, hm]
section
variable {P : Program} (w : World)
theorem run_add_num (t : TypeId) {x y : Nat} (hx : Num x) (hy : Num y) : (binOp .add t (.float .f64 x) (.float .f64 y)).run P w = .ok (.float .f64 (fadd x y)) w :=
  run_float_arith w .add t .f64 x y _ (add_some hx hy)
theorem run_sub_num (t : TypeId) {x y : Nat} (hx : Num x) (hy : Num y) : (binOp .sub t (.float .f64 x) (.float .f64 y)).run P w = .ok (.float .f64 (fsub x y)) w :=
  run_float_arith w .sub t .f64 x y _ (sub_some hx hy)
theorem run_sqrt_num {x : Nat} (hx : Num x) (h0 : 0 ≤ val x) : (Extern.MathSqrt.sqrt #[.float .f64 x]).run P w = .ok (.float .f64 (fsqrt x)) w := by
  rw [sqrt_some (sqrt_num hx h0)]
  rfl
/-- A quotient by what is not 0. -/
theorem run_quo_num (t : TypeId) {x y : Nat} (hx : Num x) (hy : Num y) (hz : val y ≠ 0) : (binOp .quo t (.float .f64 x) (.float .f64 y)).run P w = .ok (.float .f64 (fdiv x y)) w := by
  obtain ⟨s, m, i, hr⟩ := hy
  refine run_div_num w t hx hr ?_
  rintro rfl
  apply hz
  unfold val
  rw [hr, dval_number]
  have z : ((0 : Nat) : Rat) * 2 ^ i = 0 := Rat.zero_mul _
  rw [z]
  cases s <;> simp [sg]
end
end Go.Proofs.Ytagehemimlakpaa.Fl
