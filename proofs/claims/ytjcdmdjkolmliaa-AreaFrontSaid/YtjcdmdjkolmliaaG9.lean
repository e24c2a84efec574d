/- Package warp: the eight directions; a point that is turned; a draw's sector. Package warp: the sector of a draw (around, Sector). The greater and the lesser of two floats. Numbers that read alike; what rounding gives of equal ones. Package warp: Sector, Disk, Hemi, Ball. Package warp: Bary, Tent. A region that draws its order and stores a result while others are told: Lw over worlds that may turn one block, to what it is told to hold. -/
import Derived.Deep.QuietTactic
import Derived.BigQuiet
import Derived.Test.YtjcdmdjkolmliaaG8
import Derived.Test.YtjcdmdjkolmliaaG6
import Derived.Test.YtjcdmdjkolmliaaG7
namespace Go.Proofs.Ytjcdmdjkolmliaa
open Go.RowKit Fl

/-- The direction of a sector. -/
def dirX (c s : Nat) : Nat → Nat
  | 0 => c | 1 => s | 2 => fsub 0 s | 3 => fsub 0 c | 4 => fsub 0 c | 5 => fsub 0 s | 6 => s | _ => c
def dirY (c s : Nat) : Nat → Nat
  | 0 => s | 1 => c | 2 => c | 3 => s | 4 => fsub 0 s | 5 => fsub 0 c | 6 => fsub 0 c | _ => fsub 0 s
abbrev dirs (c s mc ms : Nat) : Value := .agg #[.float .f64 c, .float .f64 s, .float .f64 s, .float .f64 c, .float .f64 ms, .float .f64 c, .float .f64 mc, .float .f64 s, .float .f64 mc, .float .f64 ms, .float .f64 ms, .float .f64 mc, .float .f64 s, .float .f64 mc, .float .f64 c, .float .f64 ms]

end Go.Proofs.Ytjcdmdjkolmliaa

namespace Go.Proofs.Ytjcdmdjkolmliaa
open Go.RowKit Fl

theorem conv_small8 {p : Nat} {k : Nat} (hk : k ≤ 7) (h : truncF p = (k : Int)) (hn : Num p) (h0 : 0 ≤ val p) : floatToIntVal .f64 p .i64 = some (k : Int) := by
  have e := trunc_floor hn h0
  have e' : truncF p = (val p).floor := by unfold truncF; rw [e]; rfl
  unfold floatToIntVal
  rw [show (FloatKind.f64.decode p).toInt .zero = some (val p).floor from e, ← e', h]
  have lo : IntKind.i64.min = -9223372036854775808 := by decide +kernel
  have hi : IntKind.i64.max = 9223372036854775807 := by decide +kernel
  dsimp only
  rw [lo, hi, if_pos ⟨by omega, by omega⟩]
theorem convI {m : Nat} {z : Int} (h : floatToIntVal .f64 m .i64 = some z) (w : World) : (convert 22 3 (.float .f64 m)).run Try.prog w = .ok (.int .i64 z) w :=
  run_convert_float_int (w := w) _ _ _ _ _ _ (by rw [Try.underlying22]; rfl) Try.underlying3 h

/-- All that is known of a clean draw's sector. -/
structure Sect (c : Nat) : Prop where
  k7 : secK c ≤ 7
  n8 : Num (fmul w8 c)
  conv : floatToIntVal .f64 (fmul w8 c) .i64 = some (secK c : Int)
  nk : Num (floatOfInt .f64 (secK c : Int))
  nf : Num (secF c)
  f0 : 0 ≤ val (secF c)
  f1 : val (secF c) ≤ 1
  nff : Num (fmul (secF c) (secF c))
  sec : Sec (secF c)
theorem sect {c : Nat} (hc : Num c) (c0 : 0 ≤ val c) (c1 : val c < 1) : Sect c := by
  obtain ⟨n8, v8⟩ := eight_ex hc c0 c1
  obtain ⟨t, k7, _, _⟩ := sec_k hc c0 c1
  obtain ⟨nk, _⟩ := ofint_val (n := (secK c : Int)) (by omega) (by omega)
  obtain ⟨nf, f0, f1⟩ := sec_f hc c0 c1
  exact ⟨k7, n8, conv_small8 k7 t n8 (by rw [v8]; grind), nk, nf, f0, f1, (unit_mul nf nf f0 f1 f0 f1).1, sec_vals nf f0 f1⟩

abbrev secX (c : Nat) : Nat := dirX (secC (secF c)) (secS (secF c)) (secK c)
abbrev secY (c : Nat) : Nat := dirY (secC (secF c)) (secS (secF c)) (secK c)
theorem dir_unit {c s : Nat} (h : Unit2 c s) (k : Nat) : Unit2 (dirX c s k) (dirY c s k) := by
  unfold dirX dirY
  split
  · exact h
  · exact h.swap
  · exact h.swap.negx
  · exact h.negx
  · exact h.negx.negy
  · exact h.swap.negx.negy
  · exact h.swap.negy
  · exact h.negy
theorem Sect.unit {c : Nat} (h : Sect c) : Unit2 (secX c) (secY c) := dir_unit h.sec.unit _

end Go.Proofs.Ytjcdmdjkolmliaa

namespace Go.Proofs.Ytjcdmdjkolmliaa.Fl
open Go.RowKit

def maxF (x y : Nat) : Nat := match ford x y with
  | none => qnan
  | some .lt => y
  | some .gt => x
  | some .eq => if (FloatKind.f64.decode x).neg then y else x
def minF (x y : Nat) : Nat := match ford x y with
  | none => qnan
  | some .lt => x
  | some .gt => y
  | some .eq => if (FloatKind.f64.decode x).neg then x else y
theorem isN_cut2 (b : Bool) (x y t : Nat) : isN (Question.cut (.nanMinMax .f64 b x y) t) = true := isN_cut x y t
theorem ord_none {x y : Nat} (h : ford x y = none) : isN x = true ∨ isN y = true := by
  cases hx : isN x
  · cases hy : isN y
    · obtain ⟨o, e⟩ := ford_some hx hy
      rw [e] at h
      cases h
    · exact .inr rfl
  · exact .inl rfl
section
variable {P : Program}
theorem max_pair (ts : Array TypeId) (t : TypeId) (x y : Nat) : Builtin.max_ ts t #[.float .f64 x, .float .f64 y] = Builtin.max2 (.float .f64 x) (.float .f64 y) := by
  simp [Builtin.max_]
theorem min_pair (ts : Array TypeId) (t : TypeId) (x y : Nat) : Builtin.min_ ts t #[.float .f64 x, .float .f64 y] = Builtin.min2 (.float .f64 x) (.float .f64 y) := by
  simp [Builtin.min_]
theorem run_max_ord (ts : Array TypeId) (t : TypeId) {x y : Nat} {o : Ordering} (h : ford x y = some o) (w : World) : (Builtin.max_ ts t #[.float .f64 x, .float .f64 y]).run P w = .ok (.float .f64 (maxF x y)) w := by
  rw [max_pair]
  unfold maxF Builtin.max2
  have h' : FloatKind.f64.format.order x y = some o := h
  rw [h]
  simp only [h']
  cases o <;> rfl
theorem run_min_ord (ts : Array TypeId) (t : TypeId) {x y : Nat} {o : Ordering} (h : ford x y = some o) (w : World) : (Builtin.min_ ts t #[.float .f64 x, .float .f64 y]).run P w = .ok (.float .f64 (minF x y)) w := by
  rw [min_pair]
  unfold minF Builtin.min2
  have h' : FloatKind.f64.format.order x y = some o := h
  rw [h]
  simp only [h']
  cases o <;> rfl
theorem run_max_nan (ts : Array TypeId) (t : TypeId) {x y : Nat} (h : ford x y = none) (w : World) : ∃ r n, (Builtin.max_ ts t #[.float .f64 x, .float .f64 y]).run P w = .ok (.float .f64 r) (w.drewN n) ∧ isN r = true := by
  have h' : FloatKind.f64.format.order x y = none := h
  refine ⟨Question.cut (.nanMinMax .f64 true x y) (w.tape w.drawn (.nanMinMax .f64 true x y)), 1, ?_, isN_cut2 _ _ _ _⟩
  rw [max_pair]
  unfold Builtin.max2
  simp only [h']
  simp [Question.forced]
  rfl
end
end Go.Proofs.Ytjcdmdjkolmliaa.Fl

namespace Go.Proofs.Ytjcdmdjkolmliaa.Fl

theorem read_high {x : Nat} {s : Bool} {m : Nat} {e : Int} (h : F64.read x = .number s m e) : e = -1074 ∨ 4503599627370496 ≤ m := by
  unfold Ieee.Format.read at h
  simp only [sw, bn, ir, lp] at h
  generalize x % 9223372036854775808 = r at *
  split at h
  · injection h with _ _ h2; exact .inl h2.symm
  · split at h
    · injection h with _ h1 h2; exact .inr (by omega)
    · split at h <;> cases h
theorem place_uniq {m n : Nat} {i j : Int} (hm : m ≤ 9007199254740991) (hj : j = -1074 ∨ 4503599627370496 ≤ n) (hi : -1074 ≤ i) (hn : 0 < n) (h : (m : Rat) * 2 ^ i = n * 2 ^ j) : j ≤ i := by
  rcases Int.lt_or_le i j with k | k
  · exfalso
    have hn2 : 4503599627370496 ≤ n := by omega
    have e : (2 : Rat) ^ j = 2 ^ (j - i) * 2 ^ i := by rw [← p2_add]; congr 1; omega
    have p := p2_pos i
    have l := p2_le (show (1 : Int) ≤ j - i by omega)
    have z : (2 : Rat) ^ (1 : Int) = 2 := by decide +kernel
    rw [z] at l
    rw [e] at h
    have hm2 : (m : Rat) ≤ 9007199254740991 := by exact_mod_cast hm
    have hn3 : (4503599627370496 : Rat) ≤ n := by exact_mod_cast hn2
    generalize (2 : Rat) ^ (j - i) = q at *
    generalize (2 : Rat) ^ i = r at *
    have p1 := Rat.mul_nonneg (show (0 : Rat) ≤ n - 4503599627370496 by grind) (show (0 : Rat) ≤ q - 2 by grind)
    have p2 : (9007199254740992 : Rat) ≤ n * q := by grind
    have p3 := Rat.mul_pos (show (0 : Rat) < n * q - m by grind) p
    grind
  · exact k
theorem read_same {x y : Nat} (hx : Num x) (hy : Num y) (h : val x = val y) (h0 : val x ≠ 0) : F64.read x = F64.read y := by
  obtain ⟨s, m, i, rx⟩ := hx
  obtain ⟨t, n, j, ry⟩ := hy
  have vx : val x = sg s ((m : Rat) * 2 ^ i) := by unfold val; rw [rx, dval_number]
  have vy : val y = sg t ((n : Rat) * 2 ^ j) := by unfold val; rw [ry, dval_number]
  obtain ⟨bx, _⟩ := number_bounds rx
  obtain ⟨bY, _⟩ := number_bounds ry
  have lx := read_low rx
  have ly := read_low ry
  have ux := read_high rx
  have uy := read_high ry
  rw [vx] at h h0
  rw [vy] at h
  have m0 : m ≠ 0 := by
    rintro rfl
    apply h0
    have z : ((0 : Nat) : Rat) * 2 ^ i = 0 := Rat.zero_mul _
    rw [z]; cases s <;> simp [sg]
  have n0 : n ≠ 0 := by
    rintro rfl
    apply h0
    rw [h]
    have z : ((0 : Nat) : Rat) * 2 ^ j = 0 := Rat.zero_mul _
    rw [z]; cases t <;> simp [sg]
  have pm : (0 : Rat) < m * 2 ^ i := Rat.mul_pos (by exact_mod_cast Nat.pos_of_ne_zero m0) (p2_pos i)
  have pn : (0 : Rat) < n * 2 ^ j := Rat.mul_pos (by exact_mod_cast Nat.pos_of_ne_zero n0) (p2_pos j)
  have hs : s = t ∧ (m : Rat) * 2 ^ i = n * 2 ^ j := by
    cases s <;> cases t <;> simp only [sg, if_true, Bool.false_eq_true, if_false] at h
    · exact ⟨rfl, h⟩
    · exfalso; grind
    · exfalso; grind
    · exact ⟨rfl, by grind⟩
  obtain ⟨rfl, h2⟩ := hs
  have e1 := place_uniq bx uy lx (Nat.pos_of_ne_zero n0) h2
  have e2 := place_uniq bY ux ly (Nat.pos_of_ne_zero m0) h2.symm
  obtain rfl : i = j := by omega
  have e3 : (m : Rat) = n := by
    have p := p2_pos i
    have q : ((m : Rat) - n) * 2 ^ i = 0 := by grind
    rcases Rat.mul_eq_zero.1 q with a | a
    · grind
    · grind
  have e4 : m = n := by exact_mod_cast e3
  subst e4
  rw [rx, ry]
theorem fsqrt_read {x y : Nat} (h : F64.read x = F64.read y) : fsqrt x = fsqrt y := by unfold fsqrt Ieee.Format.sqrt; rw [h]
theorem fdiv_read {x y u v : Nat} (h : F64.read x = F64.read u) (k : F64.read y = F64.read v) : fdiv x y = fdiv u v := by unfold fdiv Ieee.Format.div; rw [h, k]
theorem fmul_read {x y u v : Nat} (h : F64.read x = F64.read u) (k : F64.read y = F64.read v) : fmul x y = fmul u v := by unfold fmul Ieee.Format.mul; rw [h, k]
theorem zero_read {x : Nat} (hx : Num x) (h : val x = 0) : ∃ s e, F64.read x = .number s 0 e := by
  obtain ⟨s, m, i, rx⟩ := hx
  by_cases m0 : m = 0
  · subst m0; exact ⟨s, i, rx⟩
  · exfalso
    have := num_sign rx m0
    cases s <;> simp only [if_true, Bool.false_eq_true, if_false] at this <;> grind
theorem sqrt_zero {x : Nat} (hx : Num x) (h : val x = 0) : Num (fsqrt x) ∧ val (fsqrt x) = 0 := by
  obtain ⟨s, e, hr⟩ := zero_read hx h
  have : fsqrt x = F64.nearest s 0 e := by
    unfold fsqrt Ieee.Format.sqrt
    rw [hr]
    simp [Ieee.Datum.root]
    rfl
  rw [this]
  exact nearest_zero s e
theorem sqrt_same {x y : Nat} (hx : Num x) (hy : Num y) (h0 : 0 ≤ val x) (h4 : val x ≤ 4) (h : val x = val y) : Num (fsqrt x) ∧ Num (fsqrt y) ∧ val (fsqrt x) = val (fsqrt y) := by
  by_cases hz : val x = 0
  · obtain ⟨a, b⟩ := sqrt_zero hx hz
    obtain ⟨c, d⟩ := sqrt_zero hy (by grind)
    exact ⟨a, c, by rw [b, d]⟩
  · have e := fsqrt_read (read_same hx hy h hz)
    obtain ⟨a, _⟩ := sqrt_ab hx h0 h4
    exact ⟨a, e ▸ a, by rw [e]⟩
theorem mul_same {x y u v : Nat} (hx : Num x) (hy : Num y) (hu : Num u) (hv : Num v) (h : val x * val y = val u * val v) (hn : Num (fmul u v)) : Num (fmul x y) ∧ val (fmul x y) = val (fmul u v) :=
  num_between hn (mul_mono hx hy hu hv (rat_le_of_eq h)) (mul_mono hu hv hx hy (rat_le_of_eq h.symm))
theorem sub_same {x y u v : Nat} (hx : Num x) (hy : Num y) (hu : Num u) (hv : Num v) (h : val x - val y = val u - val v) (hn : Num (fsub u v)) : Num (fsub x y) ∧ val (fsub x y) = val (fsub u v) :=
  num_between hn (sub_mono hx hy hu hv (rat_le_of_eq h)) (sub_mono hu hv hx hy (rat_le_of_eq h.symm))
theorem fmul_comm {x y : Nat} (hx : Num x) (hy : Num y) : fmul x y = fmul y x := by
  obtain ⟨s, m, i, rx⟩ := hx
  obtain ⟨t, n, j, ry⟩ := hy
  unfold fmul Ieee.Format.mul
  rw [rx, ry]
  simp only [Ieee.Datum.product]
  rw [Bool.xor_comm, Nat.mul_comm, Int.add_comm]
/-- A comparison that is true of equal numbers. -/
theorem eq_true' {x y : Nat} (hx : Num x) (hy : Num y) (h : val x = val y) : (FloatKind.f64.format.order x y == some .eq) = true := by
  have := ord_eq hx hy h
  unfold ford at this
  rw [this]; rfl
theorem eq_self {x : Nat} (h : Num x) : (FloatKind.f64.format.order x x == some .eq) = true := eq_true' h h rfl
end Go.Proofs.Ytjcdmdjkolmliaa.Fl

namespace Go.Proofs.Ytjcdmdjkolmliaa
open Go.RowKit Fl

/-- What a turned point is: a direction times how far. -/
theorem sect_u (u : Nat) : Sect (cleanF u) := sect (clean_num u).1 (clean_num u).2.1 (clean_num u).2.2

def two1 : Nat := 4611686018427387904
theorem num_two1 : Num two1 := ⟨false, 4503599627370496, -51, by decide +kernel⟩
theorem val_two1 : val two1 = 2 := by decide +kernel
def half1 : Nat := 4602678819172646912
theorem num_half1 : Num half1 := ⟨false, 4503599627370496, -53, by decide +kernel⟩
theorem val_half1 : val half1 = 1 / 2 := by decide +kernel
theorem Sect.np {c : Nat} (h : Sect c) : Num (densF (secF c)) ∧ 1 / 8 ≤ val (densF (secF c)) ∧ val (densF (secF c)) ≤ 1 / 4 := dens_range h.nf h.f0 h.f1
theorem root_c {c : Nat} (hc : Num c) (c0 : 0 ≤ val c) (c1 : val c < 1) : Num (fsqrt c) ∧ 0 ≤ val (fsqrt c) ∧ val (fsqrt c) ≤ 1 := by
  obtain ⟨a, b, _, _, d⟩ := sqrt_ab hc c0 (by grind)
  exact ⟨a, b, d (by grind)⟩

/-- Ball's height, and how far from the axis. -/
def ballZ (c : Nat) : Nat := fsub Fl.w1 (fmul two1 c)
def ballT (c : Nat) : Nat := fsub Fl.w1 (fmul (ballZ c) (ballZ c))
theorem ball_z {c : Nat} (hc : Num c) (c0 : 0 ≤ val c) (c1 : val c < 1) : Num (fmul two1 c) ∧ Num (ballZ c) ∧ Ab (val (ballZ c)) (1 + 4 * dl) ∧ Num (fmul (ballZ c) (ballZ c)) ∧ Num (ballT c) ∧ Ab (val (ballT c)) 3 := by
  have hd := dl_le
  have hd0 := dl_ge
  obtain ⟨n1, e1⟩ := mul_ab num_two1 hc (by rw [val_two1]; unfold Ab; constructor <;> grind)
  rw [val_two1] at e1
  obtain ⟨n2, e2⟩ := sub_ab num_w1 n1 (by rw [val_w1]; unfold Ab at *; constructor <;> grind)
  rw [val_w1] at e2
  have az : Ab (val (ballZ c)) (1 + 4 * dl) := by
    show Ab (val (fsub Fl.w1 (fmul two1 c))) _
    unfold Ab at *; constructor <;> grind
  have zz := az.mul az
  have hdd : dl * dl ≤ dl * (1 / 1048576) := Rat.mul_le_mul_of_nonneg_left hd hd0
  have zz2 : Ab (val (ballZ c) * val (ballZ c)) (3 / 2) := zz.mono (by grind)
  have n2' : Num (ballZ c) := n2
  obtain ⟨n3, e3⟩ := mul_ab n2' n2' (zz2.mono (by grind))
  obtain ⟨n4, e4⟩ := sub_ab num_w1 n3 (by rw [val_w1]; unfold Ab at *; constructor <;> grind)
  rw [val_w1] at e4
  refine ⟨n1, n2', az, n3, n4, ?_⟩
  show Ab (val (fsub Fl.w1 (fmul (ballZ c) (ballZ c)))) _
  unfold Ab at *; constructor <;> grind
theorem max_zero {q : Nat} (hq : Num q) (a : Ab (val q) 3) : (∃ o, ford q 0 = some o) ∧ Num (maxF q 0) ∧ 0 ≤ val (maxF q 0) ∧ val (maxF q 0) ≤ 4 ∧ val (maxF q 0) = val (if (ford q 0 == some .lt) = true then 0 else q) := by
  obtain ⟨o, ho⟩ := ford_some (not_nan_num hq) (not_nan_num num_zero)
  have hz := val_zero
  unfold Ab at a
  refine ⟨⟨o, ho⟩, ?_⟩
  have l := lt_val hq num_zero
  have g := gt_val hq num_zero
  rw [ho, hz] at l g
  unfold maxF
  rw [ho]
  cases o with
  | lt =>
    simp only [beq_self_eq_true, if_true]
    exact ⟨num_zero, by rw [hz]; exact Rat.le_refl, by rw [hz]; decide, trivial⟩
  | gt =>
    have g' := of_decide_eq_true g.symm
    simp only [reduceCtorEq, Option.some.injEq, beq_iff_eq, if_false]
    exact ⟨hq, by grind, by grind, (by first | trivial | rfl)⟩
  | eq =>
    have l' := of_decide_eq_false l.symm
    have g' := of_decide_eq_false g.symm
    have e : val q = 0 := by grind
    simp only [reduceCtorEq, Option.some.injEq, beq_iff_eq, if_false]
    split
    · exact ⟨num_zero, by rw [hz]; exact Rat.le_refl, by rw [hz]; decide, by rw [hz, e]⟩
    · exact ⟨hq, by grind, by grind, (by first | trivial | rfl)⟩
def ballR (c : Nat) : Nat := fsqrt (maxF (ballT c) 0)
theorem ball_r {c : Nat} (hc : Num c) (c0 : 0 ≤ val c) (c1 : val c < 1) : Num (ballR c) := by
  obtain ⟨_, _, _, _, n, a⟩ := ball_z hc c0 c1
  obtain ⟨_, m, m0, m4, _⟩ := max_zero n a
  exact (sqrt_ab m m0 m4).1

end Go.Proofs.Ytjcdmdjkolmliaa

namespace Go.Proofs.Ytjcdmdjkolmliaa
open Go.RowKit Fl

set_option maxRecDepth 100000 in
set_option maxHeartbeats 1000000 in
theorem bary_any (u v : Nat) (w : World) : Calls Try.prog 28 #[.float .f64 u, .float .f64 v] w fun e w' => e = .returned (.tuple #[.float .f64 (fsub Fl.w1 (fsqrt (cleanF u))), .float .f64 (fmul (fsqrt (cleanF u)) (fsub Fl.w1 (cleanF v))), .float .f64 (fmul (fsqrt (cleanF u)) (cleanF v))]) ∧ w' = w := by
  have HU := hid (clean_any u)
  have HV := hid (clean_any v)
  obtain ⟨nc, c0, c1⟩ := clean_num u
  obtain ⟨nd, d0, d1⟩ := clean_num v
  obtain ⟨nr, _, _⟩ := root_c nc c0 c1
  obtain ⟨ns, _, _⟩ := unit_sub nd d0 (by grind)
  have HR := hid (root_num nc c0)
  have h1 : ∀ w, (binOp .sub 22 (.float .f64 4607182418800017408) (.float .f64 (fsqrt (cleanF u)))).run Try.prog w = .ok (.float .f64 (fsub Fl.w1 (fsqrt (cleanF u)))) w := fun w => run_sub_num w 22 num_w1 nr
  have h2 : ∀ w, (binOp .sub 22 (.float .f64 4607182418800017408) (.float .f64 (cleanF v))).run Try.prog w = .ok (.float .f64 (fsub Fl.w1 (cleanF v))) w := fun w => run_sub_num w 22 num_w1 nd
  have HP := hid (prod_num nr ns)
  have HQ := hid (prod_num nr nd)
  clear nc c0 c1 nd d0 d1 nr ns
  generalize cleanF u = c at *
  generalize cleanF v = d at *
  generalize fsqrt c = r at *
  generalize fsub Fl.w1 r = a at *
  generalize fsub Fl.w1 d = s at *
  generalize fmul r s = x at *
  generalize fmul r d = y at *
  go_enter Try.func28, Try.ntmps28
  go_wp2_with fail
  refine Calls.mono (HU.out _) ?_
  rintro e w' ⟨rfl, hw⟩
  obtain rfl := hw.symm
  clear hw
  go_wp2_with fail
  refine Calls.mono (HR.out _) ?_
  rintro e w' ⟨rfl, hw⟩
  obtain rfl := hw.symm
  clear hw
  go_wp2_with fail
  refine Calls.mono (HV.out _) ?_
  rintro e w' ⟨rfl, hw⟩
  obtain rfl := hw.symm
  clear hw
  go_wp2_with fail
  refine Calls.mono (HP.out _) ?_
  rintro e w' ⟨rfl, hw⟩
  obtain rfl := hw.symm
  clear hw
  go_wp2_with fail
  refine Calls.mono (HQ.out _) ?_
  rintro e w' ⟨rfl, hw⟩
  obtain rfl := hw.symm
  clear hw
  go_wp2_with fail
  exact bodyPost_ret (v := .tuple #[.float .f64 a, .float .f64 x, .float .f64 y]) (by simp [results, go_sem]) rfl ⟨rfl, rfl⟩

/-- Tent, by twice the draw. -/
def tentB (w : Nat) : Bool := ford w 4607182418800017408 == some .lt
def tentF (w : Nat) : Nat := if tentB w then fsub (fsqrt w) Fl.w1 else fsub Fl.w1 (fsqrt (fsub two1 w))
/-- What is known of twice a draw. -/
theorem twice {c : Nat} (hc : Num c) (c0 : 0 ≤ val c) (c1 : val c < 1) : Num (fmul two1 c) ∧ val (fmul two1 c) = 2 * val c ∧ Num (fadd c c) ∧ val (fadd c c) = 2 * val c := by
  have hx : Ex (2 * val c) := by
    obtain ⟨s, m, e, hr⟩ := hc
    have hv : val c = sg s ((m : Rat) * 2 ^ e) := by unfold val; rw [hr, dval_number]
    obtain ⟨b1, b2⟩ := number_bounds hr
    have b3 := read_low hr
    rw [hv]
    by_cases hm : m = 0
    · subst hm
      refine ⟨s, 0, 0, by decide, by decide, by decide, ?_⟩
      rw [dval_number]
      have z : ∀ x : Rat, ((0 : Nat) : Rat) * x = 0 := fun x => Rat.zero_mul _
      rw [z, z]
      cases s <;> simp [sg]
    · have he : e ≤ 0 := by
        rcases Int.lt_or_le 0 e with k | k
        · exfalso
          have l1 := p2_le (show (1 : Int) ≤ e by omega)
          have z : (2 : Rat) ^ (1 : Int) = 2 := by decide +kernel
          rw [z] at l1
          have l2 : (1 : Rat) ≤ m := by exact_mod_cast Nat.pos_of_ne_zero hm
          have l3 := Rat.mul_nonneg (show (0 : Rat) ≤ m - 1 by grind) (show (0 : Rat) ≤ 2 ^ e by grind)
          cases s
          · simp only [sg, Bool.false_eq_true, if_false] at hv
            grind
          · simp only [sg, if_true] at hv
            have := Rat.mul_pos (show (0 : Rat) < m by grind) (p2_pos e)
            grind
        · exact k
      refine ⟨s, m, e + 1, by omega, by omega, by omega, ?_⟩
      rw [dval_number, p2_add]
      have z : (2 : Rat) ^ (1 : Int) = 2 := by decide +kernel
      rw [z]
      cases s <;> simp only [sg, if_true, Bool.false_eq_true, if_false] <;> grind
  obtain ⟨a, b⟩ := mul_ex num_two1 hc (by rw [val_two1]; exact hx)
  obtain ⟨d, e⟩ := add_ex hc hc (by rw [show val c + val c = 2 * val c by grind]; exact hx)
  rw [val_two1] at b
  exact ⟨a, b, d, by rw [e]; grind⟩
/-- What is known of the roots that Tent takes. -/
theorem tent_parts {w : Nat} (hw : Num w) (w0 : 0 ≤ val w) (w2 : val w < 2) : Num (fsqrt w) ∧ Num (fsub (fsqrt w) Fl.w1) ∧ Num (fsub two1 w) ∧ 0 ≤ val (fsub two1 w) ∧ Num (fsqrt (fsub two1 w)) ∧ Num (fsub Fl.w1 (fsqrt (fsub two1 w))) := by
  have hd := dl_le
  have hd0 := dl_ge
  obtain ⟨n1, r0, r3, _, _⟩ := sqrt_ab hw w0 (by grind)
  obtain ⟨n2, _⟩ := sub_ab n1 num_w1 (by rw [val_w1]; unfold Ab; constructor <;> grind)
  obtain ⟨n3, e3⟩ := sub_ab num_two1 hw (by rw [val_two1]; unfold Ab; constructor <;> grind)
  rw [val_two1] at e3
  have p3 : 0 ≤ val (fsub two1 w) := sub_ge0 num_two1 hw (by rw [val_two1]; grind) n3
  have p4 : val (fsub two1 w) ≤ 4 := by unfold Ab at e3; grind
  obtain ⟨n4, q0, q3, _, _⟩ := sqrt_ab n3 p3 p4
  obtain ⟨n5, _⟩ := sub_ab num_w1 n4 (by rw [val_w1]; unfold Ab; constructor <;> grind)
  exact ⟨n1, n2, n3, p3, n4, n5⟩

end Go.Proofs.Ytjcdmdjkolmliaa

namespace Go.Proofs.Ytjcdmdjkolmliaa.Ls
open Go.RowKit Fl Lp Lw

/-- All but block b is as it was; that is as it was, or new. -/
structure Sto (b : Nat) (new : Obj) (w w' : World) : Prop where
  os : w'.os = w.os
  tape : w'.tape = w.tape
  output : w'.output = w.output
  size : w.heap.size ≤ w'.heap.size
  block : ∀ k, k < w.heap.size → k ≠ b → w'.heap[k]? = w.heap[k]?
  at_ : ∀ o, w.heap[b]? = some o → w'.heap[b]? = some o ∨ w'.heap[b]? = some new
section
variable {b : Nat} {new : Obj} {w w' w'' : World}
theorem Sto.of (h : Below w.heap.size w w') : Sto b new w w' :=
  ⟨h.os, h.tape, h.output, h.size, fun k hk _ => h.block k hk, fun _ ho => .inl ((h.block b (Array.getElem?_eq_some_iff.1 ho).1).trans ho)⟩
theorem Sto.trans (h : Sto b new w w') (k : Sto b new w' w'') : Sto b new w w'' :=
  ⟨k.os.trans h.os, k.tape.trans h.tape, k.output.trans h.output, Nat.le_trans h.size k.size, fun i hi hn => (k.block i (Nat.lt_of_lt_of_le hi h.size) hn).trans (h.block i hi hn), fun o ho => by
    rcases h.at_ o ho with e | e
    · exact k.at_ o e
    · exact .inr (by rcases k.at_ _ e with e | e <;> exact e)⟩
theorem along (W : World) : Along (Sto b new) (Sto b new W) := fun _ _ hr h => h.trans hr
theorem along_new : Along (Sto b new) fun w => w.heap[b]? = some new := fun _ _ hr h => by rcases hr.at_ _ h with e | e <;> exact e
theorem Sto.keep {i : Nat} {vs : Array Value} {t : TypeId} (h : Sto b new w w') (hb : Bk w i vs t) (hn : i ≠ b) : Bk w' i vs t := (h.block i hb.lt hn).trans hb
theorem Sto.cl {W : World} (h : Sto b new w w') (k : Cl W w) (hb : W.heap.size ≤ b) : Cl W w' :=
  ⟨h.os.trans k.os, h.tape.trans k.tape, h.output.trans k.output, Nat.le_trans k.size h.size, fun i hi => (h.block i (Nat.lt_of_lt_of_le hi k.size) (by omega)).trans (k.block i hi)⟩
theorem Sto.refl (w : World) : Sto b new w w := Sto.of (Below.refl _ _)
/-- Block b, before or behind the store. -/
theorem Sto.old {vs ns : Array Value} {t : TypeId} (h : Sto b (.cells ns t) w w') (hb : Bk w b vs t) : Bk w' b vs t ∨ Bk w' b ns t := h.at_ _ hb
theorem same_set {w0 w : World} {b k i : Nat} {u : Value} (hk : k ≠ b) (h : w.heap[k]? = w0.heap[k]?) : (w.setCell ⟨b, i, none⟩ u).heap[k]? = w0.heap[k]? := (Below.heap_setCell w ⟨b, i, none⟩ u k hk).trans h
theorem stored {ns : Array Value} {t : TypeId} (ho : w'.os = w.os) (ht : w'.tape = w.tape) (hp : w'.output = w.output) (hs : w'.heap.size = w.heap.size) (hk : ∀ k, k ≠ b → w'.heap[k]? = w.heap[k]?) (hn : Bk w' b ns t) : Sto b (.cells ns t) w w' :=
  ⟨ho, ht, hp, by rw [hs]; exact Nat.le_refl _, fun k _ h => hk k h, fun _ _ => .inr hn⟩
end
section
variable {P : Program} {ops : Array Oper} {md : Region.Mode} {Q : Exit → Act → World → Prop}
theorem region {id : Nat} {a : Act} {w : World} {l : List Oper} (b : Nat) (new : Obj) (kds : List Kd) (m : Nat) (hm : P.follows .mixedOrders = true) (hB : Region.lexB .any l.toArray = true)
    (hL : tailWaits .any l.toArray m = true) (h : wpLoose P (Sto b new) .any l.toArray (Sto b new w) Q kds m 0 l a (fun _ _ => True)) : (Code.region id l.toArray true).wp P Q a w :=
  wp_region_loose (Sto b new) (Sto b new w) kds m hm hB hL (along w) (Sto.of (Below.drew (Below.refl _ _))) h
theorem ret {b : Nat} {new : Obj} {f : FuncId} {args : Array Value} {V : Value → Prop} {w : World} (h : Ret P f args w V) : Upon P (Sto b new) w (fun v _ => V v) (.ok (.enter f args) w) :=
  Calls.mono h fun _ _ ⟨v, he, hV, hb⟩ => ⟨v, he, hV, Sto.of hb⟩
end
end Go.Proofs.Ytjcdmdjkolmliaa.Ls
