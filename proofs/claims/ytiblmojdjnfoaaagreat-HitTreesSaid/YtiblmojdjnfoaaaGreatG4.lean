/- Floats that need no rounding; whole numbers as floats. A direction in the plane, (1, f) of length 1: how near its numbers are to what they are to be. Points in the disk and directions in space, of a direction in the plane of length 1: how near their lengths are to what they are to be. A direction's sector told back: the density of a draw's direction; a triangle's numbers; numbers that are more often near 0. Ranges that rounding keeps: a sector's density; a triangle's numbers; numbers that are more often near 0. Eight times a draw: the sector, and how far into it. Nearness within 2 to the -40; a number with its sign turned. Sums, differences and roots of numbers give a word, with no draw: exact steps of a walk. What a draw counts as; the reference's; a number from 0 on and below 1. The greater and the lesser of two floats. Package math, as far as it is called: IsNaN, Abs, IsInf, Sqrt; and vec.Number. The reference: Add, Sub, Scale, Dot, less, Same, Is, Number, Finite. math.Abs, IsNaN, IsInf; vec.Number; the reference's Number and abs; which of two is steep. -/
import Derived.Laws.Cover2
import Derived.Laws.FloatArith
import Derived.WalkKit
import Derived.WalkSpells
import Derived.Deep.LoopGhost
import Derived.Test.YtiblmojdjnfoaaaGreatG2
import Derived.Test.YtiblmojdjnfoaaaGreatG3
import Derived.Test.YtiblmojdjnfoaaaGreatRows
import Derived.Test.YtiblmojdjnfoaaaGreatG1
namespace Go.Proofs.YtiblmojdjnfoaaaGreat.Fl

/-- A number that needs no rounding. -/
def Ex (r : Rat) : Prop := ∃ (s : Bool) (m : Nat) (e : Int), m < 9007199254740992 ∧ -1074 ≤ e ∧ e ≤ 971 ∧ r = dval (.number s m e)

theorem nearest_small {s : Bool} {m : Nat} {e : Int} (l1 : m < 9007199254740992) (b3 : -1074 ≤ e) (b2 : e ≤ 971) : Num (F64.nearest s m e) ∧ val (F64.nearest s m e) = dval (.number s m e) := by
  rw [dval_number]
  by_cases hm : m = 0
  · subst hm
    obtain ⟨a, v⟩ := nearest_zero s e
    refine ⟨a, ?_⟩
    rw [v]
    have : ((0 : Nat) : Rat) * 2 ^ e = 0 := Rat.zero_mul _
    rw [this]
    cases s <;> simp [sg]
  · have l2 : m.log2 < 53 := (Nat.log2_lt hm).2 l1
    have hl : lastP m e ≤ e := by unfold lastP; omega
    have hd : (lastP m e - e).toNat = 0 := by omega
    have hk : kept s m e = m * 2 ^ (e - lastP m e).toNat := by
      unfold kept
      rw [hd, cut_none, Nat.shiftLeft_eq]
    have l3 : m < 2 ^ (m.log2 + 1) := Nat.lt_log2_self
    have hk2 : kept s m e < 9007199254740992 := by
      rw [hk]
      have e1 : m * 2 ^ (e - lastP m e).toNat < 2 ^ (m.log2 + 1) * 2 ^ (e - lastP m e).toNat := Nat.mul_lt_mul_of_pos_right l3 (Nat.two_pow_pos _)
      have e2 : 2 ^ (m.log2 + 1) * 2 ^ (e - lastP m e).toNat ≤ 2 ^ 53 := by
        rw [← Nat.pow_add]
        exact Nat.pow_le_pow_right (by decide) (by unfold lastP; omega)
      omega
    have hr : (lastP m e + 1074).toNat ≤ 2045 := by omega
    rcases nearest_is s (place := e) hm with ⟨_, a, v⟩ | ⟨o, _⟩
    · refine ⟨a, ?_⟩
      rw [v, hk]
      congr 1
      rw [Rat.natCast_mul, ← p2_nat, Rat.mul_assoc, ← p2_add]
      congr 2
      omega
    · exfalso
      unfold rungOf at o
      omega

theorem rat_le_of_eq {a b : Rat} (h : a = b) : a ≤ b := h ▸ Rat.le_refl
theorem num_between {x y : Nat} (hy : Num y) (h1 : leB x y = true) (h2 : leB y x = true) : Num x ∧ val x = val y := by
  have hx : Num x := by
    obtain ⟨s, m, e, hr⟩ := hy
    cases hx : F64.read x with
    | nan a b =>
      exfalso
      have : isN x = true := by unfold isN; rw [hx]; rfl
      have := (leB_not_nan h1).1
      simp_all
    | infinity a =>
      exfalso
      unfold leB ford Ieee.Format.order at h1 h2
      rw [hx, hr] at h1 h2
      cases a
      · cases h1
      · cases h2
    | number a b c => exact ⟨a, b, c, hx⟩
  refine ⟨hx, ?_⟩
  rw [leB_val hx hy] at h1
  rw [leB_val hy hx] at h2
  exact Rat.le_antisymm (of_decide_eq_true h1) (of_decide_eq_true h2)

/-- A word written of a number that needs no rounding. -/
theorem write_ex {s : Bool} {m : Nat} {e : Int} (h : Ex (dval (.number s m e))) : Num (F64.nearest s m e) ∧ val (F64.nearest s m e) = dval (.number s m e) := by
  obtain ⟨t, n, j, h0, h1, h2, h3⟩ := h
  obtain ⟨a, v⟩ := nearest_small (s := t) h0 h1 h2
  obtain ⟨a2, v2⟩ := num_between a (nearest_mono (rat_le_of_eq h3)) (nearest_mono (rat_le_of_eq h3.symm))
  exact ⟨a2, by rw [v2, v, ← h3]⟩
theorem mul_ex {x y : Nat} (hx : Num x) (hy : Num y) (h : Ex (val x * val y)) : Num (fmul x y) ∧ val (fmul x y) = val x * val y := by
  obtain ⟨s, m, e, hf, hv⟩ := mul_near hx hy
  rw [hf, ← hv]
  rw [← hv] at h
  exact write_ex h
theorem add_ex {x y : Nat} (hx : Num x) (hy : Num y) (h : Ex (val x + val y)) : Num (fadd x y) ∧ val (fadd x y) = val x + val y := by
  obtain ⟨s, m, e, hf, hv⟩ := add_near hx hy
  rw [hf, ← hv]
  rw [← hv] at h
  exact write_ex h
theorem sub_ex {x y : Nat} (hx : Num x) (hy : Num y) (h : Ex (val x - val y)) : Num (fsub x y) ∧ val (fsub x y) = val x - val y := by
  obtain ⟨s, m, e, hf, hv⟩ := sub_near hx hy
  rw [hf, ← hv]
  rw [← hv] at h
  exact write_ex h

/-- A quotient by a power of two. -/
theorem div_ex {x y : Nat} {j : Int} (hx : Num x) (hy : F64.read y = .number false 4503599627370496 j) (h : Ex (val x * 2 ^ (-52 - j))) : Num (fdiv x y) ∧ val (fdiv x y) = val x * 2 ^ (-52 - j) := by
  obtain ⟨s, m, i, hx⟩ := hx
  have hl := log2_52 hx
  have hf := div_form hx hy (by decide)
  have hlog : (4503599627370496 : Nat).log2 = 52 := by decide +kernel
  rw [hlog] at hf
  have e0 : 54 + 52 - m.log2 = 52 + (54 - m.log2) := by omega
  have e1 : m * 2 ^ (54 + 52 - m.log2) = m * 2 ^ (54 - m.log2) * 4503599627370496 := by
    rw [e0, Nat.pow_add, Nat.mul_assoc, Nat.mul_comm (2 ^ (54 - m.log2))]
  rw [e1, Nat.mul_div_cancel _ (by decide), Nat.mul_mod_left] at hf
  have hv : dval (.number s (2 * (m * 2 ^ (54 - m.log2)) + ((0 : Nat) != 0).toNat) (i - j - ((54 + 52 - m.log2 : Nat) : Int) - 1)) = val x * 2 ^ (-52 - j) := by
    unfold val
    rw [hx, dval_number, dval_number]
    have z : ((0 : Nat) != 0).toNat = 0 := rfl
    rw [z, Nat.add_zero, Rat.natCast_mul, Rat.natCast_mul, ← p2_nat]
    have z2 : ((2 : Nat) : Rat) = 2 ^ (1 : Int) := by decide +kernel
    have z3 : (2 : Rat) ^ i * 2 ^ (-52 - j) = 2 ^ (1 : Int) * 2 ^ ((54 - m.log2 : Nat) : Int) * 2 ^ (i - j - ((54 + 52 - m.log2 : Nat) : Int) - 1) := by
      rw [← p2_add, ← p2_add, ← p2_add]
      congr 1
      omega
    rw [z2]
    generalize (2 : Rat) ^ i = a at *
    generalize (2 : Rat) ^ (-52 - j) = b at *
    generalize (2 : Rat) ^ (1 : Int) = c at *
    generalize (2 : Rat) ^ ((54 - m.log2 : Nat) : Int) = d at *
    generalize (2 : Rat) ^ (i - j - ((54 + 52 - m.log2 : Nat) : Int) - 1) = f at *
    cases s <;> simp only [sg, if_true, Bool.false_eq_true, if_false] <;> grind
  rw [hf, ← hv]
  rw [← hv] at h
  exact write_ex h

/-- A whole number as a float. -/
theorem ofint_val {n : Int} (h0 : -9007199254740992 < n) (h1 : n < 9007199254740992) : Num (floatOfInt .f64 n) ∧ val (floatOfInt .f64 n) = n := by
  have e : floatOfInt .f64 n = F64.nearest (decide (n < 0)) n.natAbs 0 := rfl
  obtain ⟨a, v⟩ := nearest_small (s := decide (n < 0)) (m := n.natAbs) (e := 0) (by omega) (by decide) (by decide)
  rw [e]
  refine ⟨a, ?_⟩
  rw [v, dval_number]
  have z : (2 : Rat) ^ (0 : Int) = 1 := by decide +kernel
  rw [z, Rat.mul_one]
  by_cases h : n < 0
  · rw [decide_eq_true h]
    simp only [sg, if_true]
    rw [← Rat.intCast_natCast, ← Rat.intCast_neg]
    congr 1
    omega
  · rw [decide_eq_false h]
    simp only [sg, Bool.false_eq_true, if_false]
    rw [← Rat.intCast_natCast]
    congr 1
    omega
theorem ofint_wd (n : Int) : Wd (floatOfInt .f64 n) := wd_of (floatOfInt_wf .f64 n)
theorem ord_eq {x y : Nat} (hx : Num x) (hy : Num y) (h : val x = val y) : ford x y = some .eq := by
  have h1 := leB_val hx hy
  have h2 := leB_val hy hx
  rw [decide_eq_true (rat_le_of_eq h)] at h1
  rw [decide_eq_true (rat_le_of_eq h.symm)] at h2
  have hs := ford_swap x y
  unfold leB at h1 h2
  rw [hs] at h2
  cases ho : ford x y with
  | none => rw [ho] at h1; exact absurd h1 (by decide)
  | some o => cases o <;> rw [ho] at h1 h2 <;> first | rfl | exact absurd h1 (by decide) | exact absurd h2 (by decide)

/-! Operations on numbers give a word, with no draw -/
theorem mul_some {x y : Nat} (hx : Num x) (hy : Num y) : F64.mul x y = some (fmul x y) := by
  obtain ⟨s, m, i, hx⟩ := hx
  obtain ⟨t, n, j, hy⟩ := hy
  unfold fmul Ieee.Format.mul
  rw [hx, hy]
  rfl
theorem div_some {x y : Nat} {t : Bool} {n : Nat} {j : Int} (hx : Num x) (hy : F64.read y = .number t n j) (hn : n ≠ 0) : F64.div x y = some (fdiv x y) := by
  obtain ⟨s, m, i, hx⟩ := hx
  unfold fdiv Ieee.Format.div
  rw [hx, hy]
  simp only [Ieee.Datum.quotient, hn, if_false, Option.map_some, Option.getD_some]
section
variable {P : Program} (w : World)
theorem run_mul_num (t : TypeId) {x y : Nat} (hx : Num x) (hy : Num y) : (binOp .mul t (.float .f64 x) (.float .f64 y)).run P w = .ok (.float .f64 (fmul x y)) w :=
  run_float_arith w .mul t .f64 x y _ (mul_some hx hy)
theorem run_div_num (t : TypeId) {x y : Nat} {s : Bool} {n : Nat} {j : Int} (hx : Num x) (hy : F64.read y = .number s n j) (hn : n ≠ 0) : (binOp .quo t (.float .f64 x) (.float .f64 y)).run P w = .ok (.float .f64 (fdiv x y)) w :=
  run_float_arith w .quo t .f64 x y _ (div_some hx hy hn)
end
end Go.Proofs.YtiblmojdjnfoaaaGreat.Fl

namespace Go.Proofs.YtiblmojdjnfoaaaGreat.Fl

def w1 : Nat := 4607182418800017408
theorem num_w1 : Num w1 := ⟨false, 4503599627370496, -52, by decide +kernel⟩
theorem val_w1 : val w1 = 1 := by decide +kernel
/-- (1 and f times f), its root, 1 and f divided by it. -/
def secQ (f : Nat) : Nat := fadd w1 (fmul f f)
def secD (f : Nat) : Nat := fsqrt (secQ f)
def secC (f : Nat) : Nat := fdiv w1 (secD f)
def secS (f : Nat) : Nat := fdiv f (secD f)

/-- What is known of them, f from 0 to 1. -/
structure Sec (f : Nat) : Prop where
  nq : Num (secQ f)
  nd : Num (secD f)
  nc : Num (secC f)
  ns : Num (secS f)
  q0 : 1 - 2 * dl ≤ val (secQ f)
  q1 : val (secQ f) ≤ 2 + 2 * dl
  dd : Ab (val (secD f) * val (secD f) - (1 + val f * val f)) (3 * dl)
  d0 : 15 / 16 ≤ val (secD f)
  d1 : val (secD f) ≤ 3 / 2
  cd : Ab (val (secC f) * val (secD f) - 1) (5 * dl)
  sd : Ab (val (secS f) * val (secD f) - val f) (5 * dl)
  len : Ab (val (secC f) * val (secC f) + val (secS f) * val (secS f) - 1) (24 * dl)
  c0 : 5 / 8 ≤ val (secC f)
  c1 : val (secC f) ≤ 9 / 8
  s0 : -(5 * dl) * 2 ≤ val (secS f)
  s1 : val (secS f) ≤ 9 / 8

theorem dl_le : dl ≤ 1 / 1048576 := by unfold dl; grind
theorem dl_ge : 0 ≤ dl := by unfold dl; grind
theorem sq_ge {a A : Rat} (h0 : 0 ≤ a) (h : A * A ≤ a * a) : A ≤ a := by
  by_cases h1 : A ≤ a
  · exact h1
  · exfalso
    have p1 := Rat.mul_pos (show 0 < A - a by grind) (show 0 < A - a by grind)
    have p2 := Rat.mul_nonneg (show 0 ≤ A - a by grind) h0
    grind
/-- A bound on a product with what is nearly 1 or more. -/
theorem ab_div {t g B B' : Rat} (hg : 1023 / 1024 ≤ g) (h : Ab (t * g) B) (hB : B ≤ B' * (1023 / 1024)) (hB0 : 0 ≤ B') : Ab t B' := by
  unfold Ab at *
  obtain ⟨h1, h2⟩ := h
  constructor
  · by_cases k : -B' ≤ t
    · exact k
    · exfalso
      have p := Rat.mul_nonneg (show 0 ≤ -B' - t by grind) (show 0 ≤ g - 1023 / 1024 by grind)
      have p2 := Rat.mul_nonneg hB0 (show 0 ≤ g - 1023 / 1024 by grind)
      grind
  · by_cases k : t ≤ B'
    · exact k
    · exfalso
      have p := Rat.mul_nonneg (show 0 ≤ t - B' by grind) (show 0 ≤ g - 1023 / 1024 by grind)
      have p2 := Rat.mul_nonneg hB0 (show 0 ≤ g - 1023 / 1024 by grind)
      grind

theorem sec_alg {D C S F : Rat} (fa : Ab F 1) (f0 : 0 ≤ F) (dd : Ab (D * D - (1 + F * F)) (3 * dl)) (d0 : 15 / 16 ≤ D) (ec' : Ab (C * D - 1) (5 * dl)) (es' : Ab (S * D - F) (5 * dl)) :
    Ab (C * C + S * S - 1) (24 * dl) ∧ 5 / 8 ≤ C ∧ C ≤ 9 / 8 ∧ -(5 * dl) * 2 ≤ S ∧ S ≤ 9 / 8 := by
  have hd := dl_le
  have hd0 := dl_ge
  have hdd : dl * dl ≤ dl * (1 / 1048576) := Rat.mul_le_mul_of_nonneg_left hd hd0
  have hdd0 : 0 ≤ dl * dl := Rat.mul_nonneg hd0 hd0
  have hFF : 0 ≤ F * F := Rat.mul_nonneg f0 f0
  have d1 : D ≤ 3 / 2 := by
    have ff := fa.mul fa
    refine (Ab.of_sq (A := 3 / 2) (by grind) ?_).2
    unfold Ab at dd ff
    grind
  have g1 : 1023 / 1024 ≤ D * D := by unfold Ab at dd; grind
  have cc : Ab ((C * D - 1) * (C * D - 1)) (5 * dl * (5 * dl)) := ec'.mul ec'
  have ss : Ab ((S * D - F) * (S * D - F)) (5 * dl * (5 * dl)) := es'.mul es'
  have fs : Ab (F * (S * D - F)) (1 * (5 * dl)) := fa.mul es'
  have len : Ab (C * C + S * S - 1) (24 * dl) := by
    refine ab_div (g := D * D) (B := 23 * dl + dl * (1 / 1000)) g1 ?_ (by grind) (by grind)
    have e : (C * C + S * S - 1) * (D * D) = 2 * (C * D - 1) + (C * D - 1) * (C * D - 1) + 2 * (F * (S * D - F)) + (S * D - F) * (S * D - F) - (D * D - (1 + F * F)) := by grind
    rw [e]
    generalize C * D - 1 = a at *
    generalize a * a = aa at *
    generalize F * (S * D - F) = b at *
    generalize (S * D - F) * (S * D - F) = bb at *
    generalize D * D - (1 + F * F) = c at *
    unfold Ab at *
    constructor <;> grind
  have c0 : 5 / 8 ≤ C := by
    by_cases k : 5 / 8 ≤ C
    · exact k
    · exfalso
      have p := Rat.mul_nonneg (show 0 ≤ 5 / 8 - C by grind) (show 0 ≤ D by grind)
      unfold Ab at ec'
      grind
  have c1 : C ≤ 9 / 8 := by
    by_cases k : C ≤ 9 / 8
    · exact k
    · exfalso
      have p := Rat.mul_nonneg (show 0 ≤ C - 9 / 8 by grind) (show 0 ≤ D by grind)
      unfold Ab at ec'
      grind
  have s0 : -(5 * dl) * 2 ≤ S := by
    by_cases k : -(5 * dl) * 2 ≤ S
    · exact k
    · exfalso
      have p := Rat.mul_nonneg (show 0 ≤ -(5 * dl) * 2 - S by grind) (show 0 ≤ D - 15 / 16 by grind)
      have p2 := Rat.mul_nonneg hd0 (show 0 ≤ D - 15 / 16 by grind)
      unfold Ab at es'
      grind
  have s1 : S ≤ 9 / 8 := by
    refine (Ab.of_sq (A := 9 / 8) (by grind) ?_).2
    have := sq_nonneg C
    unfold Ab at len
    grind
  exact ⟨len, c0, c1, s0, s1⟩

theorem sec_vals {f : Nat} (hf : Num f) (f0 : 0 ≤ val f) (f1 : val f ≤ 1) : Sec f := by
  have fa : Ab (val f) 1 := ⟨by grind, f1⟩
  have ff := fa.mul fa
  obtain ⟨n1, e1⟩ := mul_ab hf hf (ff.mono (by grind))
  have hd := dl_le
  have hd0 := dl_ge
  have hdd : dl * dl ≤ dl * (1 / 1048576) := Rat.mul_le_mul_of_nonneg_left hd hd0
  have hdd0 : 0 ≤ dl * dl := Rat.mul_nonneg hd0 hd0
  have hff0 : 0 ≤ val f * val f := Rat.mul_nonneg f0 f0
  have hff1 : val f * val f ≤ 1 := by unfold Ab at ff; grind
  obtain ⟨n2, e2⟩ := add_ab num_w1 n1 (by rw [val_w1]; unfold Ab at *; constructor <;> grind)
  rw [val_w1] at e2
  have nq : Num (secQ f) := n2
  have eq : Ab (val (secQ f) - (1 + val (fmul f f))) dl := e2
  have q0 : 1 - 2 * dl ≤ val (secQ f) := by unfold Ab at *; grind
  have q1 : val (secQ f) ≤ 2 + 2 * dl := by unfold Ab at *; grind
  obtain ⟨nd, dn, d3, ed, _⟩ := sqrt_ab nq (by grind) (by grind)
  have nd' : Num (secD f) := nd
  have ed' : Ab (val (secD f) * val (secD f) - val (secQ f)) dl := ed
  have dn' : 0 ≤ val (secD f) := dn
  have dd : Ab (val (secD f) * val (secD f) - (1 + val f * val f)) (3 * dl) := by unfold Ab at *; constructor <;> grind
  have d0 : 15 / 16 ≤ val (secD f) := sq_ge dn' (by unfold Ab at dd; grind)
  have d1 : val (secD f) ≤ 3 / 2 := (Ab.of_sq (A := 3 / 2) (by grind) (by unfold Ab at dd; grind)).2
  have d4 : Ab (val (secD f)) 4 := by unfold Ab; constructor <;> grind
  obtain ⟨nc, ec⟩ := div_ab num_w1 nd' (by rw [val_w1]; unfold Ab; constructor <;> grind) (.inl (by grind)) d4
  obtain ⟨ns, es⟩ := div_ab hf nd' fa (.inl (by grind)) d4
  rw [val_w1] at ec
  have nc' : Num (secC f) := nc
  have ns' : Num (secS f) := ns
  have ec' : Ab (val (secC f) * val (secD f) - 1) (5 * dl) := ec
  have es' : Ab (val (secS f) * val (secD f) - val f) (5 * dl) := es
  clear nc ns ec es nd ed dn e1 e2 n1 n2 eq
  obtain ⟨len, c0, c1, s0, s1⟩ := sec_alg fa f0 dd d0 ec' es'
  exact ⟨nq, nd', nc', ns', q0, q1, dd, d0, d1, ec', es', len, c0, c1, s0, s1⟩
end Go.Proofs.YtiblmojdjnfoaaaGreat.Fl

namespace Go.Proofs.YtiblmojdjnfoaaaGreat.Fl

/-- A pair that is nearly of length 1. -/
structure Unit2 (x y : Nat) : Prop where
  nx : Num x
  ny : Num y
  ax : Ab (val x) (9 / 8)
  ay : Ab (val y) (9 / 8)
  len : Ab (val x * val x + val y * val y - 1) (24 * dl)
theorem Sec.unit {f : Nat} (h : Sec f) : Unit2 (secC f) (secS f) := by
  have hd := dl_le
  have hd0 := dl_ge
  exact ⟨h.nc, h.ns, ⟨by have := h.c0; grind, h.c1⟩, ⟨by have := h.s0; grind, h.s1⟩, h.len⟩
theorem Unit2.swap {x y : Nat} (h : Unit2 x y) : Unit2 y x := ⟨h.ny, h.nx, h.ay, h.ax, by have := h.len; unfold Ab at *; constructor <;> grind⟩
/-- The square of a product, and what rounding does to both. -/
theorem mul_sq {x r : Nat} (hx : Num x) (hr : Num r) (ax : Ab (val x) (9 / 8)) (ar : Ab (val r) (17 / 16)) : Num (fmul x r) ∧ Ab (val (fmul x r)) (6 / 5) ∧ Num (fmul (fmul x r) (fmul x r)) ∧ Ab (val (fmul (fmul x r) (fmul x r)) - val x * val x * (val r * val r)) (4 * dl) := by
  have hd := dl_le
  have hd0 := dl_ge
  have xr := ax.mul ar
  obtain ⟨n1, e1⟩ := mul_ab hx hr (xr.mono (by grind))
  have s0 : Ab (val (fmul x r)) (6 / 5) := by unfold Ab at *; constructor <;> grind
  obtain ⟨n2, e2⟩ := mul_ab n1 n1 ((s0.mul s0).mono (by grind))
  refine ⟨n1, s0, n2, ?_⟩
  have e3 := e1.mul (s0.add xr)
  have e4 : val (fmul x r) * val (fmul x r) - val x * val x * (val r * val r) = (val (fmul x r) - val x * val r) * (val (fmul x r) + val x * val r) := by grind
  have e5 : Ab (val (fmul x r) * val (fmul x r) - val x * val x * (val r * val r)) (3 * dl) := by
    rw [e4]
    exact e3.mono (by grind)
  have e6 := e2.add e5
  have e7 : val (fmul (fmul x r) (fmul x r)) - val (fmul x r) * val (fmul x r) + (val (fmul x r) * val (fmul x r) - val x * val x * (val r * val r)) = val (fmul (fmul x r) (fmul x r)) - val x * val x * (val r * val r) := by grind
  rw [e7] at e6
  exact e6.mono (by grind)
/-- The square of the length of a pair that is nearly of length 1, times r: near to V, where r's square is near to V. -/
theorem pair_sq {x y r : Nat} {V B : Rat} (h : Unit2 x y) (hr : Num r) (r0 : 0 ≤ val r) (hV : Ab (val r * val r - V) B) (hB : B ≤ 1 / 1024) (v1 : V ≤ 1 + 1 / 1024) :
    Num (fadd (fmul (fmul x r) (fmul x r)) (fmul (fmul y r) (fmul y r))) ∧ Ab (val (fadd (fmul (fmul x r) (fmul x r)) (fmul (fmul y r) (fmul y r))) - V) (34 * dl + B) := by
  have hd := dl_le
  have hd0 := dl_ge
  have r1 : Ab (val r) (17 / 16) := Ab.of_sq (by grind) (by unfold Ab at hV; grind)
  obtain ⟨_, sx, nx, ex⟩ := mul_sq h.nx hr h.ax r1
  obtain ⟨_, sy, ny, ey⟩ := mul_sq h.ny hr h.ay r1
  have hl := h.len
  have hR : 0 ≤ val r * val r := Rat.mul_nonneg r0 r0
  have hR1 : Ab (val r * val r) (257 / 256) := by unfold Ab at *; constructor <;> grind
  have el := hl.mul hR1
  have e0 : (val x * val x + val y * val y - 1) * (val r * val r) = val x * val x * (val r * val r) + val y * val y * (val r * val r) - val r * val r := by grind
  rw [e0] at el
  have hp0 : 0 ≤ val x * val x * (val r * val r) := Rat.mul_nonneg (sq_nonneg _) hR
  have hq0 : 0 ≤ val y * val y * (val r * val r) := Rat.mul_nonneg (sq_nonneg _) hR
  have hs : Ab (val (fmul (fmul x r) (fmul x r)) + val (fmul (fmul y r) (fmul y r))) 64 := by unfold Ab at *; constructor <;> grind
  obtain ⟨n, e⟩ := add_ab nx ny hs
  refine ⟨n, ?_⟩
  unfold Ab at *
  constructor <;> grind

/-- What is written of a number not below 0 is not below 0. -/
theorem near_ge0 {s : Bool} {m : Nat} {e : Int} (h : 0 ≤ dval (.number s m e)) (hn : Num (F64.nearest s m e)) : 0 ≤ val (F64.nearest s m e) := by
  obtain ⟨z0, z1⟩ := nearest_zero false 0
  have l0 := nearest_mono (n1 := false) (m1 := 0) (p1 := 0) (n2 := s) (m2 := m) (p2 := e) (by
    rw [dval_number]
    have : sg false (((0 : Nat) : Rat) * 2 ^ (0 : Int)) = 0 := by decide +kernel
    rw [this]; exact h)
  rw [leB_val z0 hn, z1] at l0
  exact of_decide_eq_true l0
theorem sub_ge0 {x y : Nat} (hx : Num x) (hy : Num y) (h : val y ≤ val x) (hn : Num (fsub x y)) : 0 ≤ val (fsub x y) := by
  obtain ⟨s, m, e, hf, hv⟩ := sub_near hx hy
  rw [hf] at hn ⊢
  exact near_ge0 (by rw [hv]; grind) hn

/-- Above a point of the disk: (X times r, Y times r, the root of 1 less u), r the root of u. -/
def hemiN (x y u : Nat) : Nat := fadd (fadd (fmul (fmul x (fsqrt u)) (fmul x (fsqrt u))) (fmul (fmul y (fsqrt u)) (fmul y (fsqrt u)))) (fmul (fsqrt (fsub w1 u)) (fsqrt (fsub w1 u)))
theorem disk_len {x y u : Nat} (h : Unit2 x y) (hu : Num u) (u0 : 0 ≤ val u) (u1 : val u ≤ 1) :
    Num (fadd (fmul (fmul x (fsqrt u)) (fmul x (fsqrt u))) (fmul (fmul y (fsqrt u)) (fmul y (fsqrt u)))) ∧ Ab (val (fadd (fmul (fmul x (fsqrt u)) (fmul x (fsqrt u))) (fmul (fmul y (fsqrt u)) (fmul y (fsqrt u)))) - val u) (35 * dl) := by
  have hd := dl_le
  have hd0 := dl_ge
  obtain ⟨nr, r0, _, er, _⟩ := sqrt_ab hu u0 (by grind)
  obtain ⟨n, e⟩ := pair_sq h nr r0 er (by grind) (by grind)
  exact ⟨n, e.mono (by grind)⟩
theorem hemi_len {x y u : Nat} (h : Unit2 x y) (hu : Num u) (u0 : 0 ≤ val u) (u1 : val u ≤ 1) : Num (hemiN x y u) ∧ Ab (val (hemiN x y u) - 1) (39 * dl) ∧ Num (fsqrt (fsub w1 u)) ∧ 0 ≤ val (fsqrt (fsub w1 u)) := by
  have hd := dl_le
  have hd0 := dl_ge
  obtain ⟨n, e⟩ := disk_len h hu u0 u1
  obtain ⟨n1, e1⟩ := sub_ab num_w1 hu (by rw [val_w1]; unfold Ab; constructor <;> grind)
  rw [val_w1] at e1
  have z0 := sub_ge0 num_w1 hu (by rw [val_w1]; exact u1) n1
  have z1 : val (fsub w1 u) ≤ 2 := by unfold Ab at e1; grind
  obtain ⟨nz, s0, s3, ez, _⟩ := sqrt_ab n1 z0 (by grind)
  have sz := sq_nonneg (val (fsqrt (fsub w1 u)))
  obtain ⟨nzz, ezz⟩ := mul_ab nz nz (by unfold Ab at *; constructor <;> grind)
  have hs : Ab (val (fadd (fmul (fmul x (fsqrt u)) (fmul x (fsqrt u))) (fmul (fmul y (fsqrt u)) (fmul y (fsqrt u)))) + val (fmul (fsqrt (fsub w1 u)) (fsqrt (fsub w1 u)))) 64 := by unfold Ab at *; constructor <;> grind
  obtain ⟨nn, en⟩ := add_ab n nzz hs
  refine ⟨nn, ?_, nz, s0⟩
  unfold hemiN
  unfold Ab at *
  constructor <;> grind

/-- All around: (X times r, Y times r, Z), Z from -1 to 1 and r the root of 1 less Z times Z (of 0, if that is below 0). -/
theorem ball_len {x y z q r : Nat} (h : Unit2 x y) (hz : Num z) (az : Ab (val z) (1 + 4 * dl)) (hq : q = fsub w1 (fmul z z)) (hr : r = fsqrt (if (ford q 0 == some .lt) = true then 0 else q)) :
    Num q ∧ Num (fadd (fadd (fmul (fmul x r) (fmul x r)) (fmul (fmul y r) (fmul y r))) (fmul z z)) ∧ Ab (val (fadd (fadd (fmul (fmul x r) (fmul x r)) (fmul (fmul y r) (fmul y r))) (fmul z z)) - 1) (54 * dl) := by
  have hd := dl_le
  have hd0 := dl_ge
  have hdd : dl * dl ≤ dl * (1 / 1048576) := Rat.mul_le_mul_of_nonneg_left hd hd0
  have hdd0 : 0 ≤ dl * dl := Rat.mul_nonneg hd0 hd0
  have zz := az.mul az
  have z0 := sq_nonneg (val z)
  have z1 : val z * val z ≤ 1 + 9 * dl := by unfold Ab at zz; grind
  obtain ⟨n1, e1⟩ := mul_ab hz hz (by unfold Ab; constructor <;> grind)
  obtain ⟨n2, e2⟩ := sub_ab num_w1 n1 (by rw [val_w1]; unfold Ab at *; constructor <;> grind)
  rw [val_w1] at e2
  rw [← hq] at n2 e2
  obtain ⟨p, hp⟩ : ∃ p, p = if (ford q 0 == some .lt) = true then 0 else q := ⟨_, rfl⟩
  rw [← hp] at hr
  have hlt := lt_val n2 num_zero
  rw [val_zero] at hlt
  have hpp : Num p ∧ 0 ≤ val p ∧ Ab (val p - (1 - val z * val z)) (13 * dl) := by
    rw [hp, hlt]
    by_cases k : val q < 0
    · rw [decide_eq_true k, if_pos rfl]
      refine ⟨num_zero, by rw [val_zero]; exact Rat.le_refl, ?_⟩
      rw [val_zero]
      unfold Ab at *
      constructor <;> grind
    · rw [decide_eq_false k, if_neg (by simp)]
      refine ⟨n2, by grind, ?_⟩
      unfold Ab at *
      constructor <;> grind
  obtain ⟨np, p0, ep⟩ := hpp
  obtain ⟨nr, r0, _, er, _⟩ := sqrt_ab np p0 (by unfold Ab at ep; grind)
  rw [← hr] at nr r0 er
  have er2 : Ab (val r * val r - (1 - val z * val z)) (14 * dl) := by unfold Ab at *; constructor <;> grind
  obtain ⟨n3, e3⟩ := pair_sq h nr r0 er2 (by grind) (by grind)
  have hs : Ab (val (fadd (fmul (fmul x r) (fmul x r)) (fmul (fmul y r) (fmul y r))) + val (fmul z z)) 64 := by unfold Ab at *; constructor <;> grind
  obtain ⟨nn, en⟩ := add_ab n3 n1 hs
  refine ⟨n2, nn, ?_⟩
  unfold Ab at *
  constructor <;> grind
end Go.Proofs.YtiblmojdjnfoaaaGreat.Fl

namespace Go.Proofs.YtiblmojdjnfoaaaGreat.Fl

def eighth : Nat := 4593671619917905920
theorem num_eighth : Num eighth := ⟨false, 4503599627370496, -55, by decide +kernel⟩
theorem val_eighth : val eighth = 1 / 8 := by decide +kernel
/-- The density by f. -/
def densF (f : Nat) : Nat := fmul (secQ f) eighth
theorem dens_ab {f : Nat} (hf : Num f) {F B : Rat} (hF : Ab (val f - F) B) (hB : B ≤ 1 / 1024) (f0 : 0 ≤ F) (f1 : F ≤ 1) : Num (densF f) ∧ Ab (val (densF f) - (1 + F * F) * (1 / 8)) (B * (3 / 8) + 2 * dl) := by
  have hd := dl_le
  have hd0 := dl_ge
  have fa : Ab (val f) (9 / 8) := by unfold Ab at *; constructor <;> grind
  have Fa : Ab F 1 := by unfold Ab; constructor <;> grind
  have ff := fa.mul fa
  have f00 := sq_nonneg (val f)
  obtain ⟨n1, e1⟩ := mul_ab hf hf (ff.mono (by grind))
  obtain ⟨n2, e2⟩ := add_ab num_w1 n1 (by rw [val_w1]; unfold Ab at *; constructor <;> grind)
  rw [val_w1] at e2
  obtain ⟨n3, e3⟩ := mul_ab n2 num_eighth (by rw [val_eighth]; unfold Ab at *; constructor <;> grind)
  rw [val_eighth] at e3
  refine ⟨n3, ?_⟩
  have k := hF.mul (fa.add Fa)
  have e : (val f - F) * (val f + F) = val f * val f - F * F := by grind
  rw [e] at k
  have hB0 := hF.nonneg
  have k2 := k.mono (show B * (9 / 8 + 1) ≤ B * 3 by grind)
  unfold densF secQ
  unfold Ab at *
  constructor <;> grind

/-- What is less, divided by what is greater, tells f again. -/
theorem sec_back {f : Nat} (hf : Num f) (f0 : 0 ≤ val f) (f1 : val f ≤ 1) : Num (fdiv (secS f) (secC f)) ∧ Ab (val (fdiv (secS f) (secC f)) - val f) (20 * dl) := by
  have h := sec_vals hf f0 f1
  have hd := dl_le
  have hd0 := dl_ge
  have c0 := h.c0
  have c1 := h.c1
  have len := h.len
  have cc := Rat.mul_nonneg (show 0 ≤ val (secC f) - 5 / 8 by grind) (show 0 ≤ val (secC f) + 5 / 8 by grind)
  have sa : Ab (val (secS f)) (7 / 8) := Ab.of_sq (by grind) (by unfold Ab at len; grind)
  obtain ⟨n, e⟩ := div_ab h.ns h.nc (sa.mono (by grind)) (.inl (by grind)) (by unfold Ab; constructor <;> grind)
  refine ⟨n, ?_⟩
  have D0 := h.d0
  have D1 := h.d1
  have ec := h.cd
  have es := h.sd
  generalize val (fdiv (secS f) (secC f)) = g at *
  generalize val (secS f) = S at *
  generalize val (secC f) = C at *
  generalize val (secD f) = D at *
  generalize val f = F at *
  have Da : Ab D (3 / 2) := by unfold Ab; constructor <;> grind
  have k1 := e.mul Da
  have e1 : (g * C - S) * D = g * (C * D) - S * D := by grind
  rw [e1] at k1
  -- g (1 + a) = F + b
  have k2 : Ab (g * (C * D) - F) (13 * dl) := by unfold Ab at *; constructor <;> grind
  have ga : Ab g (17 / 16) := by
    have hh : Ab (g * (C * D)) (1 + 13 * dl) := by unfold Ab at *; constructor <;> grind
    exact ab_div (g := C * D) (B := 1 + 13 * dl) (by unfold Ab at ec; grind) hh (by grind) (by grind)
  have k3 := ga.mul ec
  have e3 : g * (C * D - 1) = g * (C * D) - g := by grind
  rw [e3] at k3
  unfold Ab at *
  constructor <;> grind

/-- The density of a draw's direction beside the draw's. -/
theorem dens_back {f : Nat} (hf : Num f) (f0 : 0 ≤ val f) (f1 : val f ≤ 1) : Num (densF (fdiv (secS f) (secC f))) ∧ Num (densF f) ∧ Ab (val (densF (fdiv (secS f) (secC f))) - val (densF f)) (12 * dl) := by
  have hd := dl_le
  have hd0 := dl_ge
  obtain ⟨n, e⟩ := sec_back hf f0 f1
  obtain ⟨n1, e1⟩ := dens_ab n e (by grind) f0 f1
  obtain ⟨n2, e2⟩ := dens_ab hf (F := val f) (B := 0) (by unfold Ab; constructor <;> grind) (by grind) f0 f1
  refine ⟨n1, n2, ?_⟩
  unfold Ab at *
  constructor <;> grind
end Go.Proofs.YtiblmojdjnfoaaaGreat.Fl

namespace Go.Proofs.YtiblmojdjnfoaaaGreat.Fl

/-- What is written lies between what lies around it. -/
theorem near_le {s t : Bool} {m n : Nat} {e j : Int} (h : dval (.number s m e) ≤ dval (.number t n j)) (hn : Num (F64.nearest s m e)) (hk : Num (F64.nearest t n j)) : val (F64.nearest s m e) ≤ val (F64.nearest t n j) := by
  have l := nearest_mono h
  rw [leB_val hn hk] at l
  exact of_decide_eq_true l
theorem near_hi {s t : Bool} {m n : Nat} {e j : Int} {R : Rat} (hk : Num (F64.nearest t n j)) (hv : val (F64.nearest t n j) = R) (hd : dval (.number t n j) = R) (h : dval (.number s m e) ≤ R) (hn : Num (F64.nearest s m e)) : val (F64.nearest s m e) ≤ R := by
  rw [← hv]; exact near_le (by rw [hd]; exact h) hn hk
theorem near_lo {s t : Bool} {m n : Nat} {e j : Int} {R : Rat} (hk : Num (F64.nearest t n j)) (hv : val (F64.nearest t n j) = R) (hd : dval (.number t n j) = R) (h : R ≤ dval (.number s m e)) (hn : Num (F64.nearest s m e)) : R ≤ val (F64.nearest s m e) := by
  rw [← hv]; exact near_le (by rw [hd]; exact h) hk hn
theorem n_one : Num (F64.nearest false 1 0) := ⟨false, 4503599627370496, -52, by decide +kernel⟩
theorem n_two : Num (F64.nearest false 2 0) := ⟨false, 4503599627370496, -51, by decide +kernel⟩
theorem n_neg : Num (F64.nearest true 1 0) := ⟨true, 4503599627370496, -52, by decide +kernel⟩
theorem n_8th : Num (F64.nearest false 1 (-3)) := ⟨false, 4503599627370496, -55, by decide +kernel⟩
theorem n_4th : Num (F64.nearest false 1 (-2)) := ⟨false, 4503599627370496, -54, by decide +kernel⟩
theorem n_zero : Num (F64.nearest false 0 0) := (nearest_zero false 0).1

/-- An operation whose exact result is from 0 to 1. -/
theorem unit_mul {x y : Nat} (hx : Num x) (hy : Num y) (x0 : 0 ≤ val x) (x1 : val x ≤ 1) (y0 : 0 ≤ val y) (y1 : val y ≤ 1) : Num (fmul x y) ∧ 0 ≤ val (fmul x y) ∧ val (fmul x y) ≤ 1 := by
  have p := Rat.mul_nonneg x0 y0
  have q : val x * val y ≤ 1 := by
    have := Rat.mul_le_mul_of_nonneg_right x1 y0
    grind
  obtain ⟨hn, _⟩ := mul_ab hx hy (by unfold Ab; constructor <;> grind)
  obtain ⟨s, m, e, hf, hv⟩ := mul_near hx hy
  rw [hf] at hn ⊢
  rw [← hv] at p q
  exact ⟨hn, near_lo n_zero (nearest_zero false 0).2 (by decide +kernel) p hn, near_hi n_one (by decide +kernel) (by decide +kernel) q hn⟩
theorem unit_sub {y : Nat} (hy : Num y) (y0 : 0 ≤ val y) (y1 : val y ≤ 1) : Num (fsub w1 y) ∧ 0 ≤ val (fsub w1 y) ∧ val (fsub w1 y) ≤ 1 := by
  obtain ⟨hn, _⟩ := sub_ab num_w1 hy (by rw [val_w1]; unfold Ab; constructor <;> grind)
  obtain ⟨s, m, e, hf, hv⟩ := sub_near num_w1 hy
  rw [val_w1] at hv
  rw [hf] at hn ⊢
  exact ⟨hn, near_lo n_zero (nearest_zero false 0).2 (by decide +kernel) (by rw [hv]; grind) hn, near_hi n_one (by decide +kernel) (by decide +kernel) (by rw [hv]; grind) hn⟩

/-- A triangle's numbers: 1 less r, r times (1 less v), r times v, r the root of u. -/
theorem bary_vals {u v : Nat} (hu : Num u) (u0 : 0 ≤ val u) (u1 : val u ≤ 1) (hv : Num v) (v0 : 0 ≤ val v) (v1 : val v ≤ 1) :
    (Num (fsub w1 (fsqrt u)) ∧ 0 ≤ val (fsub w1 (fsqrt u)) ∧ val (fsub w1 (fsqrt u)) ≤ 1) ∧ (Num (fmul (fsqrt u) (fsub w1 v)) ∧ 0 ≤ val (fmul (fsqrt u) (fsub w1 v)) ∧ val (fmul (fsqrt u) (fsub w1 v)) ≤ 1) ∧ (Num (fmul (fsqrt u) v) ∧ 0 ≤ val (fmul (fsqrt u) v) ∧ val (fmul (fsqrt u) v) ≤ 1) ∧
    Num (fadd (fadd (fsub w1 (fsqrt u)) (fmul (fsqrt u) (fsub w1 v))) (fmul (fsqrt u) v)) ∧ Ab (val (fadd (fadd (fsub w1 (fsqrt u)) (fmul (fsqrt u) (fsub w1 v))) (fmul (fsqrt u) v)) - 1) (8 * dl) := by
  have hd := dl_le
  have hd0 := dl_ge
  obtain ⟨nr, r0, _, _, r1⟩ := sqrt_ab hu u0 (by grind)
  have r1 := r1 u1
  obtain ⟨na, a0, a1⟩ := unit_sub nr r0 r1
  obtain ⟨nw, w0, w11⟩ := unit_sub hv v0 v1
  obtain ⟨nb, b0, b1⟩ := unit_mul nr nw r0 r1 w0 w11
  obtain ⟨nc, c0, c1⟩ := unit_mul nr hv r0 r1 v0 v1
  have ea := (sub_ab num_w1 nr (by rw [val_w1]; unfold Ab; constructor <;> grind)).2
  have ew := (sub_ab num_w1 hv (by rw [val_w1]; unfold Ab; constructor <;> grind)).2
  have p1 := Rat.mul_nonneg r0 w0
  have p2 := Rat.mul_nonneg r0 v0
  have p3 := Rat.mul_le_mul_of_nonneg_right r1 w0
  have p4 := Rat.mul_le_mul_of_nonneg_right r1 v0
  have eb := (mul_ab nr nw (by unfold Ab; constructor <;> grind)).2
  have ec := (mul_ab nr hv (by unfold Ab; constructor <;> grind)).2
  rw [val_w1] at ea ew
  obtain ⟨n1, e1⟩ := add_ab na nb (by unfold Ab; constructor <;> grind)
  obtain ⟨n2, e2⟩ := add_ab n1 nc (by unfold Ab at *; constructor <;> grind)
  refine ⟨⟨na, a0, a1⟩, ⟨nb, b0, b1⟩, ⟨nc, c0, c1⟩, n2, ?_⟩
  have ra : Ab (val (fsqrt u)) 1 := by unfold Ab; constructor <;> grind
  have rw' := ra.mul ew
  have e3 : val (fsqrt u) * (val (fsub w1 v) - (1 - val v)) = val (fsqrt u) * val (fsub w1 v) - val (fsqrt u) + val (fsqrt u) * val v := by grind
  rw [e3] at rw'
  unfold Ab at *
  constructor <;> grind

/-- A sector's density is from an eighth to a quarter. -/
theorem dens_range {f : Nat} (hf : Num f) (f0 : 0 ≤ val f) (f1 : val f ≤ 1) : Num (densF f) ∧ 1 / 8 ≤ val (densF f) ∧ val (densF f) ≤ 1 / 4 := by
  have hd := dl_le
  have hd0 := dl_ge
  obtain ⟨nf, m0, m1⟩ := unit_mul hf hf f0 f1 f0 f1
  obtain ⟨nq, _⟩ := add_ab num_w1 nf (by rw [val_w1]; unfold Ab; constructor <;> grind)
  obtain ⟨s, m, e, hq, hv⟩ := add_near num_w1 nf
  rw [val_w1] at hv
  have q01 : 1 ≤ val (secQ f) ∧ val (secQ f) ≤ 2 := by
    unfold secQ
    rw [hq] at nq ⊢
    exact ⟨near_lo n_one (by decide +kernel) (by decide +kernel) (by rw [hv]; grind) nq, near_hi n_two (by decide +kernel) (by decide +kernel) (by rw [hv]; grind) nq⟩
  have nq' : Num (secQ f) := nq
  obtain ⟨np, _⟩ := mul_ab nq' num_eighth (by rw [val_eighth]; unfold Ab; constructor <;> grind)
  obtain ⟨s2, m2, e2, hp, hv2⟩ := mul_near nq' num_eighth
  rw [val_eighth] at hv2
  unfold densF
  rw [hp] at np ⊢
  exact ⟨np, near_lo n_8th (by decide +kernel) (by decide +kernel) (by rw [hv2]; grind) np, near_hi n_4th (by decide +kernel) (by decide +kernel) (by rw [hv2]; grind) np⟩

/-- The root less 1; 1 less the root. -/
theorem tent_lo {w : Nat} (hw : Num w) (w0 : 0 ≤ val w) (wl : val w ≤ 1) : Num (fsub (fsqrt w) w1) ∧ -1 ≤ val (fsub (fsqrt w) w1) ∧ val (fsub (fsqrt w) w1) ≤ 1 := by
  obtain ⟨nr, r0, _, _, r1⟩ := sqrt_ab hw w0 (by grind)
  have r1 := r1 wl
  obtain ⟨hn, _⟩ := sub_ab nr num_w1 (by rw [val_w1]; unfold Ab; constructor <;> grind)
  obtain ⟨s, m, e, hf, hv⟩ := sub_near nr num_w1
  rw [val_w1] at hv
  rw [hf] at hn ⊢
  exact ⟨hn, near_lo n_neg (by decide +kernel) (by decide +kernel) (by rw [hv]; grind) hn, near_hi n_one (by decide +kernel) (by decide +kernel) (by rw [hv]; grind) hn⟩
theorem tent_hi {w : Nat} (hw : Num w) (w0 : 0 ≤ val w) (wl : val w ≤ 1) : Num (fsub w1 (fsqrt w)) ∧ -1 ≤ val (fsub w1 (fsqrt w)) ∧ val (fsub w1 (fsqrt w)) ≤ 1 := by
  obtain ⟨nr, r0, _, _, r1⟩ := sqrt_ab hw w0 (by grind)
  obtain ⟨n, a, b⟩ := unit_sub nr r0 (r1 wl)
  exact ⟨n, by grind, b⟩
end Go.Proofs.YtiblmojdjnfoaaaGreat.Fl

namespace Go.Proofs.YtiblmojdjnfoaaaGreat.Fl

def w8 : Nat := 4620693217682128896
theorem num_w8 : Num w8 := ⟨false, 4503599627370496, -49, by decide +kernel⟩
theorem val_w8 : val w8 = 8 := by decide +kernel
/-- Eight times a number from 0 on and below 1 needs no rounding. -/
theorem eight_ex {c : Nat} (hc : Num c) (c0 : 0 ≤ val c) (c1 : val c < 1) : Num (fmul w8 c) ∧ val (fmul w8 c) = 8 * val c := by
  have hx : Ex (val w8 * val c) := by
    obtain ⟨s, m, e, hr⟩ := hc
    have hv : val c = sg s ((m : Rat) * 2 ^ e) := by unfold val; rw [hr, dval_number]
    obtain ⟨b1, b2⟩ := number_bounds hr
    have b3 := read_low hr
    rw [val_w8, hv]
    by_cases hm : m = 0
    · subst hm
      refine ⟨s, 0, 0, by decide, by decide, by decide, ?_⟩
      rw [dval_number]
      have z : ∀ x : Rat, ((0 : Nat) : Rat) * x = 0 := fun x => Rat.zero_mul _
      rw [z, z]
      cases s <;> simp [sg]
    · have he : e ≤ 0 := by
        rcases Int.lt_or_le 0 e with k | k
        · exfalso
          have l1 := p2_le (show (1 : Int) ≤ e by omega)
          have z : (2 : Rat) ^ (1 : Int) = 2 := by decide +kernel
          rw [z] at l1
          have l2 : (1 : Rat) ≤ m := by exact_mod_cast Nat.pos_of_ne_zero hm
          have l3 := Rat.mul_nonneg (show (0 : Rat) ≤ m - 1 by grind) (show (0 : Rat) ≤ 2 ^ e by grind)
          cases s
          · simp only [sg, Bool.false_eq_true, if_false] at hv
            grind
          · simp only [sg, if_true] at hv
            have := Rat.mul_pos (show (0 : Rat) < m by grind) (p2_pos e)
            grind
        · exact k
      refine ⟨s, m, e + 3, by omega, by omega, by omega, ?_⟩
      rw [dval_number, p2_add]
      have z : (2 : Rat) ^ (3 : Int) = 8 := by decide +kernel
      rw [z]
      cases s <;> simp only [sg, if_true, Bool.false_eq_true, if_false] <;> grind
  obtain ⟨n, v⟩ := mul_ex num_w8 hc hx
  rw [val_w8] at v
  exact ⟨n, v⟩
/-- The sector of a clean draw. -/
def secK (c : Nat) : Nat := (val (fmul w8 c)).floor.toNat
theorem sec_k {c : Nat} (hc : Num c) (c0 : 0 ≤ val c) (c1 : val c < 1) : truncF (fmul w8 c) = (secK c : Int) ∧ secK c ≤ 7 ∧ (secK c : Rat) ≤ val (fmul w8 c) ∧ val (fmul w8 c) < (secK c : Rat) + 1 := by
  obtain ⟨n, v⟩ := eight_ex hc c0 c1
  have z0 : 0 ≤ val (fmul w8 c) := by rw [v]; grind
  have z8 : val (fmul w8 c) < 8 := by rw [v]; grind
  have f0 : 0 ≤ (val (fmul w8 c)).floor := Rat.le_floor_iff.2 (by exact_mod_cast z0)
  have f1 := Rat.floor_le (val (fmul w8 c))
  have f2 : val (fmul w8 c) < (((val (fmul w8 c)).floor + 1 : Int) : Rat) := by
    by_cases h : val (fmul w8 c) < (((val (fmul w8 c)).floor + 1 : Int) : Rat)
    · exact h
    · exfalso
      have := Rat.le_floor_iff.2 (show (((val (fmul w8 c)).floor + 1 : Int) : Rat) ≤ val (fmul w8 c) by grind)
      omega
  have e : ((secK c : Nat) : Int) = (val (fmul w8 c)).floor := by unfold secK; omega
  have e2 : ((secK c : Nat) : Rat) = (((val (fmul w8 c)).floor : Int) : Rat) := by rw [← e, Rat.intCast_natCast]
  have f3 : (((val (fmul w8 c)).floor + 1 : Int) : Rat) = (secK c : Rat) + 1 := by rw [Rat.intCast_add, e2]; rfl
  rw [f3] at f2
  rw [← e2] at f1
  refine ⟨?_, ?_, f1, f2⟩
  · unfold truncF
    rw [trunc_floor n z0]
    exact e.symm
  · have : (secK c : Rat) < ((8 : Nat) : Rat) := by
      have : ((8 : Nat) : Rat) = 8 := rfl
      grind
    have : secK c < 8 := by exact_mod_cast this
    omega
/-- How far into it. -/
def secF (c : Nat) : Nat := fsub (fmul w8 c) (floatOfInt .f64 (secK c))
theorem sec_f {c : Nat} (hc : Num c) (c0 : 0 ≤ val c) (c1 : val c < 1) : Num (secF c) ∧ 0 ≤ val (secF c) ∧ val (secF c) ≤ 1 := by
  obtain ⟨n, v⟩ := eight_ex hc c0 c1
  obtain ⟨_, k7, k0, k1⟩ := sec_k hc c0 c1
  obtain ⟨nk, vk⟩ := ofint_val (n := (secK c : Int)) (by omega) (by omega)
  rw [Rat.intCast_natCast] at vk
  obtain ⟨hn, _⟩ := sub_ab n nk (by rw [vk]; unfold Ab; constructor <;> grind)
  obtain ⟨s, m, e, hf, hv⟩ := sub_near n nk
  rw [vk] at hv
  unfold secF
  rw [hf] at hn ⊢
  exact ⟨hn, near_lo n_zero (nearest_zero false 0).2 (by decide +kernel) (by rw [hv]; grind) hn, near_hi n_one (by decide +kernel) (by decide +kernel) (by rw [hv]; grind) hn⟩
/-- The reference's test of the next sector. -/
theorem sec_next {c : Nat} (hc : Num c) (c0 : 0 ≤ val c) (c1 : val c < 1) {j : Nat} (hj : j ≤ 8) : leB (floatOfInt .f64 (j : Int)) (fmul w8 c) = decide (j ≤ secK c) := by
  obtain ⟨n, v⟩ := eight_ex hc c0 c1
  obtain ⟨_, k7, k0, k1⟩ := sec_k hc c0 c1
  obtain ⟨nk, vk⟩ := ofint_val (n := (j : Int)) (by omega) (by omega)
  rw [Rat.intCast_natCast] at vk
  rw [leB_val nk n, vk]
  by_cases h : j ≤ secK c
  · rw [decide_eq_true h]
    have : (j : Rat) ≤ (secK c : Rat) := by exact_mod_cast h
    exact decide_eq_true (by grind)
  · rw [decide_eq_false h]
    have : ((secK c + 1 : Nat) : Rat) ≤ (j : Rat) := by exact_mod_cast (show secK c + 1 ≤ j by omega)
    rw [Rat.natCast_add] at this
    have z : ((1 : Nat) : Rat) = 1 := rfl
    exact decide_eq_false (by grind)
end Go.Proofs.YtiblmojdjnfoaaaGreat.Fl

namespace Go.Proofs.YtiblmojdjnfoaaaGreat.Fl

def q40 : Nat := 4427038433705197568
def m40 : Nat := 13650410470559973376
def o40 : Nat := 4607182418800021504
theorem num_q40 : Num q40 := ⟨false, 4503599627370496, -92, by decide +kernel⟩
theorem num_m40 : Num m40 := ⟨true, 4503599627370496, -92, by decide +kernel⟩
theorem num_o40 : Num o40 := ⟨false, 4503599627374592, -52, by decide +kernel⟩
theorem val_q40 : val q40 = 64 * dl := by decide +kernel
theorem val_m40 : val m40 = -(64 * dl) := by decide +kernel
theorem val_o40 : val o40 = 1 + 64 * dl := by decide +kernel
theorem near40 {a b : Nat} (ha : Num a) (hb : Num b) (h : Ab (val a - val b) (62 * dl)) : leB (fsub a b) q40 = true ∧ leB m40 (fsub a b) = true := by
  have hd := dl_le
  have hd0 := dl_ge
  obtain ⟨n, e⟩ := sub_ab ha hb (h.mono (by grind))
  rw [leB_val n num_q40, leB_val num_m40 n, val_q40, val_m40]
  unfold Ab at *
  exact ⟨decide_eq_true (by grind), decide_eq_true (by grind)⟩
theorem neg_val {x : Nat} (hx : Num x) : Num (fsub 0 x) ∧ val (fsub 0 x) = -val x := by
  have hx0 := hx
  have h : Ex (val 0 - val x) := by
    obtain ⟨s, m, e, hr⟩ := hx
    obtain ⟨b1, b2⟩ := number_bounds hr
    refine ⟨!s, m, e, by omega, read_low hr, b2, ?_⟩
    have hv : val x = sg s ((m : Rat) * 2 ^ e) := by unfold val; rw [hr, dval_number]
    rw [val_zero, hv, dval_number]
    cases s <;> simp only [sg, Bool.not_true, Bool.not_false, if_true, Bool.false_eq_true, if_false] <;> grind
  obtain ⟨n, v⟩ := sub_ex num_zero hx0 h
  exact ⟨n, by rw [v, val_zero]; grind⟩
theorem Unit2.negx {x y : Nat} (h : Unit2 x y) : Unit2 (fsub 0 x) y := by
  obtain ⟨n, v⟩ := neg_val h.nx
  have a := h.ax
  have l := h.len
  refine ⟨n, h.ny, ?_, h.ay, ?_⟩
  · rw [v]; unfold Ab at *; constructor <;> grind
  · rw [v]; unfold Ab at *; constructor <;> grind
theorem Unit2.negy {x y : Nat} (h : Unit2 x y) : Unit2 x (fsub 0 y) := h.swap.negx.swap
/-- The square of the length of a pair that is nearly of length 1. -/
theorem Unit2.near {x y : Nat} (h : Unit2 x y) : Num (fadd (fmul x x) (fmul y y)) ∧ Ab (val (fadd (fmul x x) (fmul y y)) - 1) (28 * dl) := by
  have hd := dl_le
  have hd0 := dl_ge
  have xx := h.ax.mul h.ax
  have yy := h.ay.mul h.ay
  have l := h.len
  obtain ⟨n1, e1⟩ := mul_ab h.nx h.nx (xx.mono (by grind))
  obtain ⟨n2, e2⟩ := mul_ab h.ny h.ny (yy.mono (by grind))
  obtain ⟨n3, e3⟩ := add_ab n1 n2 (by unfold Ab at *; constructor <;> grind)
  refine ⟨n3, ?_⟩
  unfold Ab at *
  constructor <;> grind
end Go.Proofs.YtiblmojdjnfoaaaGreat.Fl

namespace Go.Proofs.YtiblmojdjnfoaaaGreat.Fl

theorem add_some {x y : Nat} (hx : Num x) (hy : Num y) : F64.add x y = some (fadd x y) := by
  obtain ⟨s, m, i, hx⟩ := hx
  obtain ⟨t, n, j, hy⟩ := hy
  obtain ⟨a, b, c, h, _⟩ := sum_val s t m n i j
  unfold fadd Ieee.Format.add
  rw [hx, hy, h]
  rfl
theorem sub_some {x y : Nat} (hx : Num x) (hy : Num y) : F64.sub x y = some (fsub x y) := by
  obtain ⟨s, m, i, hx⟩ := hx
  obtain ⟨t, n, j, hy⟩ := hy
  unfold fsub Ieee.Format.sub
  obtain ⟨a, b, c, h, _⟩ := sum_val s (!t) m n i j
  rw [hx, hy, Ieee.Datum.opposite, h]
  rfl
theorem sqrt_num {x : Nat} (hx : Num x) (h0 : 0 ≤ val x) : F64.sqrt x = some (fsqrt x) := by
  obtain ⟨s, m, i, hr⟩ := hx
  have hvx : val x = sg s ((m : Rat) * 2 ^ i) := by unfold val; rw [hr, dval_number]
  unfold fsqrt Ieee.Format.sqrt
  rw [hr]
  by_cases hm : m = 0
  · subst hm
    simp [Ieee.Datum.root]
  · have hs : s = false := by
      cases s
      · rfl
      · exfalso
        have h2 : (0 : Rat) < m := by exact_mod_cast Nat.pos_of_ne_zero hm
        have h3 := Rat.mul_pos h2 (p2_pos i)
        rw [hvx] at h0
        simp only [sg, if_true] at h0
        grind
    subst hs
    simp [Ieee.Datum.root, hm]
section
variable {P : Program} (w : World)
theorem run_add_num (t : TypeId) {x y : Nat} (hx : Num x) (hy : Num y) : (binOp .add t (.float .f64 x) (.float .f64 y)).run P w = .ok (.float .f64 (fadd x y)) w :=
  run_float_arith w .add t .f64 x y _ (add_some hx hy)
theorem run_sub_num (t : TypeId) {x y : Nat} (hx : Num x) (hy : Num y) : (binOp .sub t (.float .f64 x) (.float .f64 y)).run P w = .ok (.float .f64 (fsub x y)) w :=
  run_float_arith w .sub t .f64 x y _ (sub_some hx hy)
theorem run_sqrt_num {x : Nat} (hx : Num x) (h0 : 0 ≤ val x) : (Extern.MathSqrt.sqrt #[.float .f64 x]).run P w = .ok (.float .f64 (fsqrt x)) w := by
  rw [sqrt_some (sqrt_num hx h0)]
  rfl
/-- A quotient by what is not 0. -/
theorem run_quo_num (t : TypeId) {x y : Nat} (hx : Num x) (hy : Num y) (hz : val y ≠ 0) : (binOp .quo t (.float .f64 x) (.float .f64 y)).run P w = .ok (.float .f64 (fdiv x y)) w := by
  obtain ⟨s, m, i, hr⟩ := hy
  refine run_div_num w t hx hr ?_
  rintro rfl
  apply hz
  unfold val
  rw [hr, dval_number]
  have z : ((0 : Nat) : Rat) * 2 ^ i = 0 := Rat.zero_mul _
  rw [z]
  cases s <;> simp [sg]
end
end Go.Proofs.YtiblmojdjnfoaaaGreat.Fl

namespace Go.Proofs.YtiblmojdjnfoaaaGreat
open Go.RowKit Fl

theorem aside {p : Prop} (h : p) : Aside p := h
/-- Whether a draw counts. -/
def okB (x : Nat) : Bool := (ford x 0 == some .gt || ford x 0 == some .eq) && ford x 4607182418800017408 == some .lt
/-- What a draw counts as. -/
def cleanF (x : Nat) : Nat := if okB x then x else 0

theorem ford_three {x y : Nat} (h : isN x = false) (k : isN y = false) : ford x y = some .lt ∨ ford x y = some .eq ∨ ford x y = some .gt := by
  have hs : (ford x y).isSome = true := by
    unfold isN Ieee.Datum.isNaN at h k
    unfold ford Ieee.Format.order
    cases hr : F64.read x with
    | nan s f => simp [hr] at h
    | number s m e => cases hq : F64.read y with
      | nan s f => simp [hq] at k
      | number s m e => simp [Ieee.Datum.order]
      | infinity s => simp [Ieee.Datum.order]
    | infinity s => cases hq : F64.read y with
      | nan s f => simp [hq] at k
      | number s m e => simp [Ieee.Datum.order]
      | infinity s => simp [Ieee.Datum.order]
  cases h1 : ford x y with
  | none => rw [h1] at hs; cases hs
  | some o => cases o <;> simp

theorem isN_zero : isN 0 = false := by decide +kernel
theorem isN_one : isN 4607182418800017408 = false := by decide +kernel
/-- The reference's test is the other's. -/
theorem clean_key (x : Nat) : ((ford x 0 == some .lt || (ford x 4607182418800017408 == some .gt || ford x 4607182418800017408 == some .eq)) || !(ford x x == some .eq)) = !okB x := by
  unfold okB
  rw [ford_self]
  cases h : isN x
  · rcases ford_three h isN_zero with k | k | k <;> rcases ford_three h isN_one with l | l | l <;> rw [k, l] <;> decide
  · rw [ord_nan_left h, ord_nan_left h]; decide

/-- What is clean is a number from 0 on, below 1. -/
theorem clean_num (x : Nat) : Num (cleanF x) ∧ 0 ≤ val (cleanF x) ∧ val (cleanF x) < 1 := by
  unfold cleanF
  cases h : okB x
  · simp only [Bool.false_eq_true, if_false]
    exact ⟨num_zero, by rw [val_zero]; exact Rat.le_refl, by rw [val_zero]; decide⟩
  · simp only [if_true]
    unfold okB at h
    rw [Bool.and_eq_true, geB_eq] at h
    obtain ⟨h1, h2⟩ := h
    have hl : leB x 4607182418800017408 = true := by unfold leB; rw [h2]; rfl
    have hn : Num x := by
      obtain ⟨s, m, e, hr⟩ := num_w1
      obtain ⟨s', m', e', hr'⟩ := num_zero
      cases hx : F64.read x with
      | nan a b =>
        exfalso
        have : isN x = true := by unfold isN; rw [hx]; rfl
        have := (leB_not_nan hl).1
        simp_all
      | infinity a =>
        exfalso
        unfold w1 at hr
        unfold leB ford Ieee.Format.order at hl h1
        rw [hx, hr] at hl
        rw [hr', hx] at h1
        cases a
        · cases hl
        · cases h1
      | number a b c => exact ⟨a, b, c, hx⟩
    rw [leB_val num_zero hn, val_zero] at h1
    have h3 := lt_val hn num_w1
    unfold w1 at h3
    rw [h2] at h3
    have h4 := val_w1
    unfold w1 at h4
    rw [h4] at h3
    exact ⟨hn, of_decide_eq_true h1, of_decide_eq_true h3.symm⟩
theorem clean_zero : cleanF 0 = 0 := by decide +kernel
end Go.Proofs.YtiblmojdjnfoaaaGreat

namespace Go.Proofs.YtiblmojdjnfoaaaGreat.Fl
open Go.RowKit

def maxF (x y : Nat) : Nat := match ford x y with
  | none => qnan
  | some .lt => y
  | some .gt => x
  | some .eq => if (FloatKind.f64.decode x).neg then y else x
def minF (x y : Nat) : Nat := match ford x y with
  | none => qnan
  | some .lt => x
  | some .gt => y
  | some .eq => if (FloatKind.f64.decode x).neg then x else y
theorem isN_cut2 (b : Bool) (x y t : Nat) : isN (Question.cut (.nanMinMax .f64 b x y) t) = true := isN_cut x y t
theorem ord_none {x y : Nat} (h : ford x y = none) : isN x = true ∨ isN y = true := by
  cases hx : isN x
  · cases hy : isN y
    · obtain ⟨o, e⟩ := ford_some hx hy
      rw [e] at h
      cases h
    · exact .inr rfl
  · exact .inl rfl
section
variable {P : Program}
theorem max_pair (ts : Array TypeId) (t : TypeId) (x y : Nat) : Builtin.max_ ts t #[.float .f64 x, .float .f64 y] = Builtin.max2 (.float .f64 x) (.float .f64 y) := by
  simp [Builtin.max_]
theorem min_pair (ts : Array TypeId) (t : TypeId) (x y : Nat) : Builtin.min_ ts t #[.float .f64 x, .float .f64 y] = Builtin.min2 (.float .f64 x) (.float .f64 y) := by
  simp [Builtin.min_]
theorem run_max_ord (ts : Array TypeId) (t : TypeId) {x y : Nat} {o : Ordering} (h : ford x y = some o) (w : World) : (Builtin.max_ ts t #[.float .f64 x, .float .f64 y]).run P w = .ok (.float .f64 (maxF x y)) w := by
  rw [max_pair]
  unfold maxF Builtin.max2
  have h' : FloatKind.f64.format.order x y = some o := h
  rw [h]
  simp only [h']
  cases o <;> rfl
theorem run_min_ord (ts : Array TypeId) (t : TypeId) {x y : Nat} {o : Ordering} (h : ford x y = some o) (w : World) : (Builtin.min_ ts t #[.float .f64 x, .float .f64 y]).run P w = .ok (.float .f64 (minF x y)) w := by
  rw [min_pair]
  unfold minF Builtin.min2
  have h' : FloatKind.f64.format.order x y = some o := h
  rw [h]
  simp only [h']
  cases o <;> rfl
theorem run_max_nan (ts : Array TypeId) (t : TypeId) {x y : Nat} (h : ford x y = none) (w : World) : ∃ r n, (Builtin.max_ ts t #[.float .f64 x, .float .f64 y]).run P w = .ok (.float .f64 r) (w.drewN n) ∧ isN r = true := by
  have h' : FloatKind.f64.format.order x y = none := h
  refine ⟨Question.cut (.nanMinMax .f64 true x y) (w.tape w.drawn (.nanMinMax .f64 true x y)), 1, ?_, isN_cut2 _ _ _ _⟩
  rw [max_pair]
  unfold Builtin.max2
  simp only [h']
  simp [Question.forced]
  rfl
end
end Go.Proofs.YtiblmojdjnfoaaaGreat.Fl

namespace Go.Proofs.YtiblmojdjnfoaaaGreat
open Go.RowKit Fl

theorem ext51 (x : Nat) (w : World) : (callFunc 156 #[.float .f64 x]).run Tryz.prog w = .ok (.value (.int .u64 x)) w := by kernel_rfl

theorem ext50 (n : Int) (w : World) : (callFunc 60 #[.int .u64 n]).run Tryz.prog w = .ok (.value (.float .f64 n.toNat)) w := by kernel_rfl

set_option maxRecDepth 100000 in
set_option maxHeartbeats 400000 in
theorem abs_any (x : Nat) (w : World) : Calls Tryz.prog 151 #[.float .f64 x] w fun e w' => e = .returned (.float .f64 (fabs x)) ∧ w' = w := by
  go_enter Tryz.func151, Tryz.ntmps151
  have e1 := ext51
  have e2 := ext50
  go_wp2_with fail
  go_ret
  exact ⟨by rw [← andNot_sign]; rfl, rfl⟩

theorem ord_nan_self (x : Nat) : (F64.order x x != some .eq) = isN x := by
  have := ford_self x
  unfold ford at this
  rw [bne, this, Bool.not_not]

set_option maxRecDepth 100000 in
set_option maxHeartbeats 400000 in
theorem isnan_any (x : Nat) (w : World) : Calls Tryz.prog 114 #[.float .f64 x] w fun e w' => e = .returned (.bool (isN x)) ∧ w' = w := by
  go_enter Tryz.func114, Tryz.ntmps114
  go_wp2_with fail
  go_ret
  exact ⟨by rw [← ord_nan_self]; rfl, rfl⟩

set_option maxRecDepth 100000 in
set_option maxHeartbeats 400000 in
theorem isinf_any (x : Nat) (w : World) : Calls Tryz.prog 134 #[.float .f64 x, .int .i64 0] w fun e w' => e = .returned (.bool (infB x)) ∧ w' = w := by
  go_enter Tryz.func134, Tryz.ntmps134
  go_wp2_with fail
  refine (abs_any _ _).mono ?_
  rintro e w' ⟨rfl, hw⟩
  obtain rfl := hw.symm
  go_wp2_with fail
  go_ret
  exact ⟨rfl, rfl⟩

set_option maxRecDepth 100000 in
set_option maxHeartbeats 400000 in
theorem number_any (x : Nat) (w : World) : Calls Tryz.prog 107 #[.float .f64 x] w fun e w' => e = .returned (.bool (numB x)) ∧ w' = w := by
  unfold numB
  have HN : Hid _ := isnan_any x
  have HI : Hid _ := isinf_any x
  generalize isN x = p at HN ⊢
  generalize infB x = q at HI ⊢
  cases p <;> cases q <;>
  · go_enter Tryz.func107, Tryz.ntmps107
    go_wp2_with fail
    refine Calls.mono (HN.out _) ?_
    rintro e w' ⟨rfl, hw⟩
    obtain rfl := hw.symm
    go_wp2_with fail
    try
      refine Calls.mono (HI.out _) ?_
      rintro e w' ⟨rfl, hw⟩
      obtain rfl := hw.symm
      go_wp2_with fail
    go_ret
    exact ⟨rfl, rfl⟩
end Go.Proofs.YtiblmojdjnfoaaaGreat

namespace Go.Proofs.YtiblmojdjnfoaaaGreat
open Go.RowKit Fl

set_option maxRecDepth 100000 in
set_option maxHeartbeats 1000000 in
theorem rsub_any (ax ay az bx bY bz : Nat) (w : World) : Ret Tryz.prog 47 #[.agg #[.float .f64 ax, .float .f64 ay, .float .f64 az], .agg #[.float .f64 bx, .float .f64 bY, .float .f64 bz]] w (isV (fsub ax bx) (fsub ay bY) (fsub az bz)) := by
  unfold Ret
  go_enter Tryz.func47, Tryz.ntmps47
  go_wp2_with fail
  refine upon_sub (Sm.refl _) (Sm.refl _) ?_
  intro r1 n1 h1
  go_wp2_with fail
  refine upon_sub (Sm.refl _) (Sm.refl _) ?_
  intro r2 n2 h2
  go_wp2_with fail
  refine upon_sub (Sm.refl _) (Sm.refl _) ?_
  intro r3 n3 h3
  go_wp2_with fail
  refine bodyPost_ret (v := .agg #[.float .f64 r1, .float .f64 r2, .float .f64 r3]) (by simp [results, go_sem]) rfl ⟨_, rfl, ⟨_, _, _, rfl, by assumption, by assumption, by assumption⟩, (((((Cl.drewN (Below.refl _ _) _).out3).setCell (by simp <;> omega) _).setCell (by simp <;> omega) _).setCell (by simp <;> omega) _)⟩

set_option maxRecDepth 100000 in
set_option maxHeartbeats 1000000 in
theorem less_any (x y z u : Nat) (w : World) : Ret Tryz.prog 71 #[.float .f64 x, .float .f64 y, .float .f64 z, .float .f64 u] w (isF (fsub (fmul x y) (fmul z u))) := by
  unfold Ret
  go_enter Tryz.func71, Tryz.ntmps71
  go_wp2_with fail
  refine upon_mul (Sm.refl _) (Sm.refl _) ?_
  intro r1 n1 h1
  go_wp2_with fail
  refine upon_mul (Sm.refl _) (Sm.refl _) ?_
  intro r2 n2 h2
  go_wp2_with fail
  refine upon_sub h1.sm h2.sm ?_
  intro r3 n3 h3
  go_wp2_with fail
  go_ret
  exact ⟨_, rfl, ⟨r3, rfl, h3⟩, below_dr (Below.refl _ _) _⟩

abbrev dotR (ax ay az bx bY bz : Nat) : Nat := fadd (fadd (fmul ax bx) (fmul ay bY)) (fmul az bz)

set_option maxRecDepth 100000 in
set_option maxHeartbeats 1000000 in
theorem rdot_any (ax ay az bx bY bz : Nat) (w : World) : Ret Tryz.prog 49 #[.agg #[.float .f64 ax, .float .f64 ay, .float .f64 az], .agg #[.float .f64 bx, .float .f64 bY, .float .f64 bz]] w (isF (dotR ax ay az bx bY bz)) := by
  unfold Ret
  go_enter Tryz.func49, Tryz.ntmps49
  go_wp2_with fail
  refine upon_mul (Sm.refl _) (Sm.refl _) ?_
  intro r1 n1 h1
  go_wp2_with fail
  refine upon_mul (Sm.refl _) (Sm.refl _) ?_
  intro r2 n2 h2
  go_wp2_with fail
  refine upon_mul (Sm.refl _) (Sm.refl _) ?_
  intro r3 n3 h3
  go_wp2_with fail
  refine upon_add h1.sm h2.sm ?_
  intro r4 n4 h4
  go_wp2_with fail
  refine upon_add h4.sm h3.sm ?_
  intro r5 n5 h5
  go_wp2_with fail
  go_ret
  exact ⟨_, rfl, ⟨r5, rfl, h5⟩, Cl.out2 (Cl.drewN (Below.refl _ _) _)⟩

set_option maxRecDepth 100000 in
set_option maxHeartbeats 1000000 in
theorem rsame_any (x y : Nat) (w : World) : Calls Tryz.prog 20 #[.float .f64 x, .float .f64 y] w fun e w' => e = .returned (.bool (sameB x y)) ∧ w' = w := by
  unfold sameB
  have hp : (FloatKind.f64.format.order x y == some .eq) = (ford x y == some .eq) := rfl
  have hq : (FloatKind.f64.format.order x x != some .eq) = (ford x x != some .eq) := rfl
  have hs : (FloatKind.f64.format.order y y != some .eq) = (ford y y != some .eq) := rfl
  generalize (ford x y == some .eq) = p at hp ⊢
  generalize (ford x x != some .eq) = q at hq ⊢
  generalize (ford y y != some .eq) = s at hs ⊢
  cases p <;> cases q <;> cases s <;>
  · go_enter Tryz.func20, Tryz.ntmps20
    go_wp2_with fail
    go_ret
    exact ⟨rfl, rfl⟩

theorem ord_sub (x r : Nat) (h : Eqv r (fsub x x)) : (F64.order r 0 == some .eq) = numB x := by
  rw [← num_sub, ← ford_congr h.sm (Sm.refl 0)]; rfl

set_option maxRecDepth 100000 in
set_option maxHeartbeats 1000000 in
theorem rnumber_any (x : Nat) (w : World) : Calls Tryz.prog 61 #[.float .f64 x] w fun e w' => e = .returned (.bool (numB x)) ∧ ∃ n, w' = w.drewN n := by
  go_enter Tryz.func61, Tryz.ntmps61
  go_wp2_with fail
  refine upon_sub (Sm.refl _) (Sm.refl _) ?_
  intro r1 n1 h1
  go_wp2_with fail
  go_ret
  exact ⟨by rw [← ord_sub x r1 h1]; rfl, n1, rfl⟩

end Go.Proofs.YtiblmojdjnfoaaaGreat

namespace Go.Proofs.YtiblmojdjnfoaaaGreat
open Go.RowKit Fl

/-- Whether a number is not below 0. -/
def geZ (x : Nat) : Bool := ford x 0 == some .gt || ford x 0 == some .eq
/-- A number without its sign, as the reference has it. -/
def absR (x : Nat) : Nat := if geZ x || isN x then x else fsub 0 x
theorem sub_zero_some {x : Nat} (h : isN x = false) : F64.sub 0 x = some (fsub 0 x) := by
  unfold fsub
  cases hs : F64.sub 0 x with
  | some r => rfl
  | none =>
    exfalso
    unfold Ieee.Format.sub at hs
    unfold isN at h
    rw [read_zero] at hs
    cases hx : F64.read x with
    | nan s f => rw [hx] at h; exact absurd h (by simp [Ieee.Datum.isNaN])
    | infinity s => rw [hx] at hs; simp [Ieee.Datum.opposite, Ieee.Datum.sum] at hs
    | number s m e => rw [hx] at hs; simp [Ieee.Datum.opposite, Ieee.Datum.sum] at hs

/-- Whether a direction is nearer to the Y axis. -/
def steepB (x y : Nat) : Bool := ford (fabs x) (fabs y) == some .lt
/-- The sector of a direction. -/
def sideN (x y : Nat) : Int :=
  if isN x || isN y then 7
  else if geZ x && geZ y then (if steepB x y then 1 else 0)
  else if geZ y then 3 - (if steepB x y then 1 else 0)
  else if ford x 0 == some .lt then 4 + (if steepB x y then 1 else 0)
  else 7 - (if steepB x y then 1 else 0)

end Go.Proofs.YtiblmojdjnfoaaaGreat
