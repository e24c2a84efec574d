/- Square roots of floats, as rational numbers: the root's square is near what it is the root of. Floats that need no rounding; whole numbers as floats. A direction in the plane, (1, f) of length 1: how near its numbers are to what they are to be. Points in the disk and directions in space, of a direction in the plane of length 1: how near their lengths are to what they are to be. A direction's sector told back: the density of a draw's direction; a triangle's numbers; numbers that are more often near 0. Ranges that rounding keeps: a sector's density; a triangle's numbers; numbers that are more often near 0. Eight times a draw: the sector, and how far into it. Nearness within 2 to the -40; a number with its sign turned. Sums, differences and roots of numbers give a word, with no draw: exact steps of a walk. -/
import Derived.Laws.Cover2
import Derived.Laws.FloatArith
import Derived.Test.YtijoaklknpkdoaaGreatG3
import Derived.Test.YtijoaklknpkdoaaGreatG4
namespace Go.Proofs.YtijoaklknpkdoaaGreat.Fl

theorem root_spec (n : Nat) : ∀ (todo root : Nat), root * root ≤ n → n < (root + 2 ^ todo) * (root + 2 ^ todo) →
    Ieee.Datum.rootFrom n todo root * Ieee.Datum.rootFrom n todo root ≤ n ∧ n < (Ieee.Datum.rootFrom n todo root + 1) * (Ieee.Datum.rootFrom n todo root + 1)
  | 0, root, h1, h2 => by simp only [Ieee.Datum.rootFrom]; exact ⟨h1, by simpa using h2⟩
  | todo + 1, root, h1, h2 => by
    simp only [Ieee.Datum.rootFrom, Nat.one_shiftLeft]
    split
    · rename_i h
      refine root_spec n todo _ h ?_
      rw [show root + 2 ^ todo + 2 ^ todo = root + 2 ^ (todo + 1) by rw [Nat.pow_succ]; omega]
      exact h2
    · rename_i h
      exact root_spec n todo _ h1 (by omega)
theorem root_is (n : Nat) : ∃ w, w = Ieee.Datum.rootFrom n (n.log2 / 2 + 1) 0 ∧ w * w ≤ n ∧ n < (w + 1) * (w + 1) := by
  refine ⟨_, rfl, root_spec n _ 0 (Nat.zero_le _) ?_⟩
  rw [Nat.zero_add, ← Nat.pow_add]
  have h1 : n < 2 ^ (n.log2 + 1) := Nat.lt_log2_self
  have h2 : 2 ^ (n.log2 + 1) ≤ 2 ^ (n.log2 / 2 + 1 + (n.log2 / 2 + 1)) := Nat.pow_le_pow_right (by decide) (by omega)
  omega
/-- Twice the root and a bit: its square beside four times n. -/
theorem twice_root {n w s : Nat} (h1 : w * w ≤ n) (h2 : n < (w + 1) * (w + 1)) (hs : s = (w * w != n).toNat) : (2 * w + s) * (2 * w + s) ≤ 4 * n + 4 * w ∧ 4 * n ≤ (2 * w + s) * (2 * w + s) + 4 * w := by
  have e1 : (w + 1) * (w + 1) = w * w + 2 * w + 1 := by grind
  rw [e1] at h2
  by_cases h : w * w = n
  · have : s = 0 := by rw [hs, h]; simp
    subst this
    have e2 : (2 * w + 0) * (2 * w + 0) = 4 * (w * w) := by grind
    rw [e2]
    omega
  · have : s = 1 := by rw [hs]; simp [h]
    subst this
    have e2 : (2 * w + 1) * (2 * w + 1) = 4 * (w * w) + 4 * w + 1 := by grind
    rw [e2]
    generalize w * w = g at *
    omega

/-- Half of twice the root and its bit is at most 2 ^ t, where n is at most its square. -/
theorem twice_le {n w s t : Nat} (h1 : w * w ≤ n) (hs : s = (w * w != n).toNat) (h : n ≤ 2 ^ t * 2 ^ t) : 2 * w + s ≤ 2 * 2 ^ t := by
  by_cases e : w * w = n
  · have : s = 0 := by rw [hs, e]; simp
    subst this
    rcases Nat.lt_or_ge (2 ^ t) w with k | k
    · have := Nat.mul_le_mul (show 2 ^ t + 1 ≤ w from k) (show 2 ^ t + 1 ≤ w from k)
      have e2 : (2 ^ t + 1) * (2 ^ t + 1) = 2 ^ t * 2 ^ t + 2 * 2 ^ t + 1 := by grind
      omega
    · omega
  · have : s = 1 := by rw [hs]; simp [e]
    subst this
    rcases Nat.lt_or_ge w (2 ^ t) with k | k
    · omega
    · have := Nat.mul_le_mul k k
      omega

theorem sqrt_near {x : Nat} (hx : Num x) (h0 : 0 < val x) : ∃ mag place, fsqrt x = F64.nearest false mag place ∧
    (mag : Rat) * 2 ^ place * ((mag : Rat) * 2 ^ place) ≤ val x + val x * ev ∧ val x ≤ (mag : Rat) * 2 ^ place * ((mag : Rat) * 2 ^ place) + val x * ev ∧ (val x ≤ 1 → (mag : Rat) * 2 ^ place ≤ 1) := by
  obtain ⟨s, m, i, hx⟩ := hx
  have hvx : val x = sg s ((m : Rat) * 2 ^ i) := by unfold val; rw [hx, dval_number]
  have p := mag_nonneg m i
  have hs : s = false := by
    cases s
    · rfl
    · rw [hvx] at h0; simp only [sg, if_true] at h0; exfalso; grind
  subst hs
  simp only [sg, Bool.false_eq_true, if_false] at hvx
  have hm : m ≠ 0 := by
    rintro rfl
    rw [hvx] at h0
    have : ((0 : Nat) : Rat) * 2 ^ i = 0 := Rat.zero_mul _
    rw [this] at h0
    exact absurd h0 (by decide)
  have hb := (number_bounds hx).1
  have hlog : m.log2 < 53 := (Nat.log2_lt hm).2 (by omega)
  generalize hmore0 : 108 - m.log2 = more0
  generalize hmore : more0 + ((i - (more0 : Int)) % 2).toNat = more
  obtain ⟨w, hw, w1, w2⟩ := root_is (m <<< more)
  have hpar : (i - (more : Int)) % 2 = 0 := by omega
  obtain ⟨h, hh⟩ : ∃ h : Int, i - (more : Int) = 2 * h := ⟨(i - more) / 2, by omega⟩
  have hbig : 18014398509481984 ≤ w := by
    have l1 : 2 ^ m.log2 ≤ m := Nat.log2_self_le hm
    have l2 : 2 ^ 108 ≤ m <<< more := by
      rw [Nat.shiftLeft_eq]
      have e1 : 2 ^ m.log2 * 2 ^ more ≤ m * 2 ^ more := Nat.mul_le_mul_right _ l1
      have e2 : 2 ^ 108 ≤ 2 ^ m.log2 * 2 ^ more := by
        rw [← Nat.pow_add]
        exact Nat.pow_le_pow_right (by decide) (by omega)
      exact Nat.le_trans e2 e1
    rcases Nat.lt_or_ge w 18014398509481984 with h | h
    · exfalso
      have : (w + 1) * (w + 1) ≤ 18014398509481984 * 18014398509481984 := Nat.mul_le_mul (by omega) (by omega)
      have e : (18014398509481984 : Nat) * 18014398509481984 = 2 ^ 108 := by decide +kernel
      omega
    · exact h
  obtain ⟨k1, k2⟩ := twice_root w1 w2 rfl
  have hwn : w * 18014398509481984 ≤ m <<< more := Nat.le_trans (Nat.mul_le_mul_left _ hbig) w1
  refine ⟨2 * w + (w * w != m <<< more).toNat, h - 1, ?_, ?_⟩
  · unfold fsqrt Ieee.Format.sqrt
    have hf : F64.fractionBits + 2 = 54 := by decide +kernel
    rw [hx, hf]
    simp only [Ieee.Datum.root, hm, if_false, Bool.false_eq_true, Option.map_some, Option.getD_some]
    rw [show 2 * 54 = 108 from rfl, hmore0, hmore, ← hw]
    rw [show (i - (more : Int)) / 2 - 1 = h - 1 by omega]
    rfl
  · have hle := fun t => twice_le (n := m <<< more) (t := t) w1 rfl
    generalize (2 * w + (w * w != m <<< more).toNat) = M at *
    simp only [Nat.shiftLeft_eq] at *
    have hX : val x = ((m * 2 ^ more : Nat) : Rat) * (2 ^ h * 2 ^ h) := by
      rw [hvx, Rat.natCast_mul, ← p2_nat, Rat.mul_assoc, ← p2_add, ← p2_add]
      congr 2
      omega
    have hH := p2_pos h
    have e4 : (2 : Rat) ^ (h - 1) * 2 = 2 ^ h := by
      have := p2_add (h - 1) 1
      rw [show h - 1 + 1 = h by omega] at this
      have z : (2 : Rat) ^ (1 : Int) = 2 := by decide +kernel
      rw [z] at this
      exact this.symm
    have hone : val x ≤ 1 → (M : Rat) * 2 ^ (h - 1) ≤ 1 := by
      intro hx1
      have hn0 : 1 ≤ m * 2 ^ more := by omega
      have hneg : h ≤ 0 := by
        rcases Int.lt_or_le 0 h with k | k
        · exfalso
          have l1 : (2 : Rat) ≤ 2 ^ h := by
            have := p2_le (show (1 : Int) ≤ h by omega)
            have z : (2 : Rat) ^ (1 : Int) = 2 := by decide +kernel
            rwa [z] at this
          have l2 : (1 : Rat) ≤ ((m * 2 ^ more : Nat) : Rat) := by exact_mod_cast hn0
          have l3 := Rat.mul_nonneg (show (0 : Rat) ≤ 2 ^ h - 2 by grind) (show (0 : Rat) ≤ 2 ^ h by grind)
          have l4 := Rat.mul_nonneg (show (0 : Rat) ≤ ((m * 2 ^ more : Nat) : Rat) - 1 by grind) (show (0 : Rat) ≤ 2 ^ h * 2 ^ h by grind)
          rw [hX] at hx1
          grind
        · exact k
      obtain ⟨t, ht⟩ : ∃ t : Nat, h = -(t : Int) := ⟨(-h).toNat, by omega⟩
      have ht2 : (2 : Rat) ^ h * 2 ^ (t : Int) = 1 := by
        rw [← p2_add, ht, show -(t : Int) + t = 0 by omega]
        decide +kernel
      have hT := p2_pos (t : Int)
      have hnt : m * 2 ^ more ≤ 2 ^ t * 2 ^ t := by
        have l1 : ((m * 2 ^ more : Nat) : Rat) ≤ ((2 ^ t * 2 ^ t : Nat) : Rat) := by
          rw [Rat.natCast_mul (2 ^ t) (2 ^ t), ← p2_nat]
          rw [hX] at hx1
          have l2 := Rat.mul_le_mul_of_nonneg_right hx1 (Rat.le_of_lt (Rat.mul_pos hT hT))
          have l3 : ((m * 2 ^ more : Nat) : Rat) * (2 ^ h * 2 ^ h) * (2 ^ (t : Int) * 2 ^ (t : Int)) = ((m * 2 ^ more : Nat) : Rat) * ((2 ^ h * 2 ^ (t : Int)) * (2 ^ h * 2 ^ (t : Int))) := by grind
          rw [l3, ht2] at l2
          grind
        exact_mod_cast l1
      have hM := hle t hnt
      have hM2 : (M : Rat) ≤ 2 * 2 ^ (t : Int) := by rw [p2_nat]; exact_mod_cast hM
      have l5 := Rat.mul_le_mul_of_nonneg_right hM2 (Rat.le_of_lt (p2_pos (h - 1)))
      have l6 : (2 : Rat) * 2 ^ (t : Int) * 2 ^ (h - 1) = 2 ^ (t : Int) * (2 ^ (h - 1) * 2) := by grind
      rw [l6, e4] at l5
      grind
    generalize m * 2 ^ more = n at *
    rw [ev_eq]
    have k1' : (M : Rat) * M ≤ 4 * n + 4 * w := by exact_mod_cast k1
    have k2' : (4 : Rat) * n ≤ M * M + 4 * w := by exact_mod_cast k2
    have kw : (w : Rat) * 18014398509481984 ≤ n := by exact_mod_cast hwn
    refine and_assoc.1 ⟨?_, hone⟩
    clear hone hle
    generalize (2 : Rat) ^ h = A at *
    generalize (2 : Rat) ^ (h - 1) = B at *
    subst e4
    have hBB : 0 ≤ B * B := Rat.mul_nonneg (by grind) (by grind)
    rw [hX]
    generalize (M : Rat) = M at *
    generalize (n : Rat) = n at *
    generalize (w : Rat) = w at *
    have q1 := Rat.mul_le_mul_of_nonneg_right k1' hBB
    have q2 := Rat.mul_le_mul_of_nonneg_right k2' hBB
    have q3 := Rat.mul_le_mul_of_nonneg_right kw hBB
    constructor <;> grind

/-- The root of a number from 0 to 4. -/
theorem sqrt_ab {x : Nat} (hx : Num x) (h0 : 0 ≤ val x) (h1 : val x ≤ 4) : Num (fsqrt x) ∧ 0 ≤ val (fsqrt x) ∧ val (fsqrt x) ≤ 3 ∧ Ab (val (fsqrt x) * val (fsqrt x) - val x) dl ∧ (val x ≤ 1 → val (fsqrt x) ≤ 1) := by
  by_cases hz : val x = 0
  · obtain ⟨s, m, i, hr⟩ := hx
    have hvx : val x = sg s ((m : Rat) * 2 ^ i) := by unfold val; rw [hr, dval_number]
    have hm : m = 0 := by
      refine Classical.byContradiction fun hm => ?_
      have h2 : (0 : Rat) < m := by exact_mod_cast Nat.pos_of_ne_zero hm
      have h3 := Rat.mul_pos h2 (p2_pos i)
      rw [hz] at hvx
      cases s <;> simp only [sg, if_true, Bool.false_eq_true, if_false] at hvx <;> grind
    subst hm
    have e : fsqrt x = F64.nearest s 0 i := by
      unfold fsqrt Ieee.Format.sqrt
      rw [hr]
      simp only [Ieee.Datum.root, if_true, Option.map_some, Option.getD_some]
      rfl
    obtain ⟨a, v⟩ := nearest_zero s i
    rw [e, hz]
    refine ⟨a, ?_, ?_, ?_, ?_⟩
    · rw [v]; exact Rat.le_refl
    · rw [v]; decide
    · rw [v]; unfold Ab dl; constructor <;> grind
    · intro _; rw [v]; decide
  · have hp : 0 < val x := by grind
    obtain ⟨mag, place, e, r1, r2, r3⟩ := sqrt_near hx hp
    have p := mag_nonneg mag place
    rw [ev_eq] at r1 r2
    rw [e]
    have hV3 : (mag : Rat) * 2 ^ place ≤ 64 := by
      refine (Ab.of_sq (A := 64) (by grind) ?_).2
      grind
    have hdv : dval (.number false mag place) = (mag : Rat) * 2 ^ place := rfl
    have hn := write_num false mag place (by rw [hdv]; grind) (by rw [hdv]; exact hV3)
    have hv := write_val false mag place hn
    rw [hdv] at hv
    obtain ⟨z0, z1⟩ := nearest_zero false 0
    have l0 := nearest_mono (n1 := false) (m1 := 0) (p1 := 0) (n2 := false) (m2 := mag) (p2 := place) (by
      rw [dval_number, hdv]
      have : sg false (((0 : Nat) : Rat) * 2 ^ (0 : Int)) = 0 := by decide +kernel
      rw [this]; exact p)
    rw [leB_val z0 hn, z1] at l0
    have l0 := of_decide_eq_true l0
    have hone : val x ≤ 1 → val (F64.nearest false mag place) ≤ 1 := by
      intro h
      have n1 : Num (F64.nearest false 1 0) := ⟨false, 4503599627370496, -52, by decide +kernel⟩
      have v1 : val (F64.nearest false 1 0) = 1 := by decide +kernel
      have l1 := nearest_mono (n1 := false) (m1 := mag) (p1 := place) (n2 := false) (m2 := 1) (p2 := 0) (by
        rw [hdv]
        have : dval (.number false 1 0) = 1 := by decide +kernel
        rw [this]; exact r3 h)
      rw [leB_val hn n1, v1] at l1
      exact of_decide_eq_true l1
    generalize (mag : Rat) * 2 ^ place = V at *
    generalize val (F64.nearest false mag place) = R at *
    have V2 : V ≤ 33 / 16 := by
      refine (Ab.of_sq (A := 33 / 16) (by grind) ?_).2
      grind
    have n1 := hv.lo (33 / 16) (by grind) V2
    have n2 := hv.hi (33 / 16) (by grind) V2
    have e2 := et_le
    rw [eu_eq] at n1 n2
    have d1 : Ab (R - V) (1 / 4000000000000000) := by unfold Ab; constructor <;> grind
    have d2 : Ab (R + V) 5 := by unfold Ab; constructor <;> grind
    have d3 := d1.mul d2
    refine ⟨hn, l0, by grind, ?_, hone⟩
    clear hone r3
    unfold Ab dl at *
    constructor <;> grind
end Go.Proofs.YtijoaklknpkdoaaGreat.Fl

namespace Go.Proofs.YtijoaklknpkdoaaGreat.Fl

/-- A number that needs no rounding. -/
def Ex (r : Rat) : Prop := ∃ (s : Bool) (m : Nat) (e : Int), m < 9007199254740992 ∧ -1074 ≤ e ∧ e ≤ 971 ∧ r = dval (.number s m e)

theorem nearest_small {s : Bool} {m : Nat} {e : Int} (l1 : m < 9007199254740992) (b3 : -1074 ≤ e) (b2 : e ≤ 971) : Num (F64.nearest s m e) ∧ val (F64.nearest s m e) = dval (.number s m e) := by
  rw [dval_number]
  by_cases hm : m = 0
  · subst hm
    obtain ⟨a, v⟩ := nearest_zero s e
    refine ⟨a, ?_⟩
    rw [v]
    have : ((0 : Nat) : Rat) * 2 ^ e = 0 := Rat.zero_mul _
    rw [this]
    cases s <;> simp [sg]
  · have l2 : m.log2 < 53 := (Nat.log2_lt hm).2 l1
    have hl : lastP m e ≤ e := by unfold lastP; omega
    have hd : (lastP m e - e).toNat = 0 := by omega
    have hk : kept s m e = m * 2 ^ (e - lastP m e).toNat := by
      unfold kept
      rw [hd, cut_none, Nat.shiftLeft_eq]
    have l3 : m < 2 ^ (m.log2 + 1) := Nat.lt_log2_self
    have hk2 : kept s m e < 9007199254740992 := by
      rw [hk]
      have e1 : m * 2 ^ (e - lastP m e).toNat < 2 ^ (m.log2 + 1) * 2 ^ (e - lastP m e).toNat := Nat.mul_lt_mul_of_pos_right l3 (Nat.two_pow_pos _)
      have e2 : 2 ^ (m.log2 + 1) * 2 ^ (e - lastP m e).toNat ≤ 2 ^ 53 := by
        rw [← Nat.pow_add]
        exact Nat.pow_le_pow_right (by decide) (by unfold lastP; omega)
      omega
    have hr : (lastP m e + 1074).toNat ≤ 2045 := by omega
    rcases nearest_is s (place := e) hm with ⟨_, a, v⟩ | ⟨o, _⟩
    · refine ⟨a, ?_⟩
      rw [v, hk]
      congr 1
      rw [Rat.natCast_mul, ← p2_nat, Rat.mul_assoc, ← p2_add]
      congr 2
      omega
    · exfalso
      unfold rungOf at o
      omega

theorem rat_le_of_eq {a b : Rat} (h : a = b) : a ≤ b := h ▸ Rat.le_refl
theorem num_between {x y : Nat} (hy : Num y) (h1 : leB x y = true) (h2 : leB y x = true) : Num x ∧ val x = val y := by
  have hx : Num x := by
    obtain ⟨s, m, e, hr⟩ := hy
    cases hx : F64.read x with
    | nan a b =>
      exfalso
      have : isN x = true := by unfold isN; rw [hx]; rfl
      have := (leB_not_nan h1).1
      simp_all
    | infinity a =>
      exfalso
      unfold leB ford Ieee.Format.order at h1 h2
      rw [hx, hr] at h1 h2
      cases a
      · cases h1
      · cases h2
    | number a b c => exact ⟨a, b, c, hx⟩
  refine ⟨hx, ?_⟩
  rw [leB_val hx hy] at h1
  rw [leB_val hy hx] at h2
  exact Rat.le_antisymm (of_decide_eq_true h1) (of_decide_eq_true h2)

/-- A word written of a number that needs no rounding. -/
theorem write_ex {s : Bool} {m : Nat} {e : Int} (h : Ex (dval (.number s m e))) : Num (F64.nearest s m e) ∧ val (F64.nearest s m e) = dval (.number s m e) := by
  obtain ⟨t, n, j, h0, h1, h2, h3⟩ := h
  obtain ⟨a, v⟩ := nearest_small (s := t) h0 h1 h2
  obtain ⟨a2, v2⟩ := num_between a (nearest_mono (rat_le_of_eq h3)) (nearest_mono (rat_le_of_eq h3.symm))
  exact ⟨a2, by rw [v2, v, ← h3]⟩
theorem mul_ex {x y : Nat} (hx : Num x) (hy : Num y) (h : Ex (val x * val y)) : Num (fmul x y) ∧ val (fmul x y) = val x * val y := by
  obtain ⟨s, m, e, hf, hv⟩ := mul_near hx hy
  rw [hf, ← hv]
  rw [← hv] at h
  exact write_ex h
theorem add_ex {x y : Nat} (hx : Num x) (hy : Num y) (h : Ex (val x + val y)) : Num (fadd x y) ∧ val (fadd x y) = val x + val y := by
  obtain ⟨s, m, e, hf, hv⟩ := add_near hx hy
  rw [hf, ← hv]
  rw [← hv] at h
  exact write_ex h
theorem sub_ex {x y : Nat} (hx : Num x) (hy : Num y) (h : Ex (val x - val y)) : Num (fsub x y) ∧ val (fsub x y) = val x - val y := by
  obtain ⟨s, m, e, hf, hv⟩ := sub_near hx hy
  rw [hf, ← hv]
  rw [← hv] at h
  exact write_ex h

/-- A quotient by a power of two. -/
theorem div_ex {x y : Nat} {j : Int} (hx : Num x) (hy : F64.read y = .number false 4503599627370496 j) (h : Ex (val x * 2 ^ (-52 - j))) : Num (fdiv x y) ∧ val (fdiv x y) = val x * 2 ^ (-52 - j) := by
  obtain ⟨s, m, i, hx⟩ := hx
  have hl := log2_52 hx
  have hf := div_form hx hy (by decide)
  have hlog : (4503599627370496 : Nat).log2 = 52 := by decide +kernel
  rw [hlog] at hf
  have e0 : 54 + 52 - m.log2 = 52 + (54 - m.log2) := by omega
  have e1 : m * 2 ^ (54 + 52 - m.log2) = m * 2 ^ (54 - m.log2) * 4503599627370496 := by
    rw [e0, Nat.pow_add, Nat.mul_assoc, Nat.mul_comm (2 ^ (54 - m.log2))]
  rw [e1, Nat.mul_div_cancel _ (by decide), Nat.mul_mod_left] at hf
  have hv : dval (.number s (2 * (m * 2 ^ (54 - m.log2)) + ((0 : Nat) != 0).toNat) (i - j - ((54 + 52 - m.log2 : Nat) : Int) - 1)) = val x * 2 ^ (-52 - j) := by
    unfold val
    rw [hx, dval_number, dval_number]
    have z : ((0 : Nat) != 0).toNat = 0 := rfl
    rw [z, Nat.add_zero, Rat.natCast_mul, Rat.natCast_mul, ← p2_nat]
    have z2 : ((2 : Nat) : Rat) = 2 ^ (1 : Int) := by decide +kernel
    have z3 : (2 : Rat) ^ i * 2 ^ (-52 - j) = 2 ^ (1 : Int) * 2 ^ ((54 - m.log2 : Nat) : Int) * 2 ^ (i - j - ((54 + 52 - m.log2 : Nat) : Int) - 1) := by
      rw [← p2_add, ← p2_add, ← p2_add]
      congr 1
      omega
    rw [z2]
    generalize (2 : Rat) ^ i = a at *
    generalize (2 : Rat) ^ (-52 - j) = b at *
    generalize (2 : Rat) ^ (1 : Int) = c at *
    generalize (2 : Rat) ^ ((54 - m.log2 : Nat) : Int) = d at *
    generalize (2 : Rat) ^ (i - j - ((54 + 52 - m.log2 : Nat) : Int) - 1) = f at *
    cases s <;> simp only [sg, if_true, Bool.false_eq_true, if_false] <;> grind
  rw [hf, ← hv]
  rw [← hv] at h
  exact write_ex h

/-- A whole number as a float. -/
theorem ofint_val {n : Int} (h0 : -9007199254740992 < n) (h1 : n < 9007199254740992) : Num (floatOfInt .f64 n) ∧ val (floatOfInt .f64 n) = n := by
  have e : floatOfInt .f64 n = F64.nearest (decide (n < 0)) n.natAbs 0 := rfl
  obtain ⟨a, v⟩ := nearest_small (s := decide (n < 0)) (m := n.natAbs) (e := 0) (by omega) (by decide) (by decide)
  rw [e]
  refine ⟨a, ?_⟩
  rw [v, dval_number]
  have z : (2 : Rat) ^ (0 : Int) = 1 := by decide +kernel
  rw [z, Rat.mul_one]
  by_cases h : n < 0
  · rw [decide_eq_true h]
    simp only [sg, if_true]
    rw [← Rat.intCast_natCast, ← Rat.intCast_neg]
    congr 1
    omega
  · rw [decide_eq_false h]
    simp only [sg, Bool.false_eq_true, if_false]
    rw [← Rat.intCast_natCast]
    congr 1
    omega
theorem ofint_wd (n : Int) : Wd (floatOfInt .f64 n) := wd_of (floatOfInt_wf .f64 n)
theorem ord_eq {x y : Nat} (hx : Num x) (hy : Num y) (h : val x = val y) : ford x y = some .eq := by
  have h1 := leB_val hx hy
  have h2 := leB_val hy hx
  rw [decide_eq_true (rat_le_of_eq h)] at h1
  rw [decide_eq_true (rat_le_of_eq h.symm)] at h2
  have hs := ford_swap x y
  unfold leB at h1 h2
  rw [hs] at h2
  cases ho : ford x y with
  | none => rw [ho] at h1; exact absurd h1 (by decide)
  | some o => cases o <;> rw [ho] at h1 h2 <;> first | rfl | exact absurd h1 (by decide) | exact absurd h2 (by decide)

/-! Operations on numbers give a word, with no draw -/
theorem mul_some {x y : Nat} (hx : Num x) (hy : Num y) : F64.mul x y = some (fmul x y) := by
  obtain ⟨s, m, i, hx⟩ := hx
  obtain ⟨t, n, j, hy⟩ := hy
  unfold fmul Ieee.Format.mul
  rw [hx, hy]
  rfl
theorem div_some {x y : Nat} {t : Bool} {n : Nat} {j : Int} (hx : Num x) (hy : F64.read y = .number t n j) (hn : n ≠ 0) : F64.div x y = some (fdiv x y) := by
  obtain ⟨s, m, i, hx⟩ := hx
  unfold fdiv Ieee.Format.div
  rw [hx, hy]
  simp only [Ieee.Datum.quotient, hn, if_false, Option.map_some, Option.getD_some]
section
variable {P : Program} (w : World)
theorem run_mul_num (t : TypeId) {x y : Nat} (hx : Num x) (hy : Num y) : (binOp .mul t (.float .f64 x) (.float .f64 y)).run P w = .ok (.float .f64 (fmul x y)) w :=
  run_float_arith w .mul t .f64 x y _ (mul_some hx hy)
theorem run_div_num (t : TypeId) {x y : Nat} {s : Bool} {n : Nat} {j : Int} (hx : Num x) (hy : F64.read y = .number s n j) (hn : n ≠ 0) : (binOp .quo t (.float .f64 x) (.float .f64 y)).run P w = .ok (.float .f64 (fdiv x y)) w :=
  run_float_arith w .quo t .f64 x y _ (div_some hx hy hn)
end
end Go.Proofs.YtijoaklknpkdoaaGreat.Fl

namespace Go.Proofs.YtijoaklknpkdoaaGreat.Fl

def w1 : Nat := 4607182418800017408
theorem num_w1 : Num w1 := ⟨false, 4503599627370496, -52, by decide +kernel⟩
theorem val_w1 : val w1 = 1 := by decide +kernel
/-- (1 and f times f), its root, 1 and f divided by it. -/
def secQ (f : Nat) : Nat := fadd w1 (fmul f f)
def secD (f : Nat) : Nat := fsqrt (secQ f)
def secC (f : Nat) : Nat := fdiv w1 (secD f)
def secS (f : Nat) : Nat := fdiv f (secD f)

/-- What is known of them, f from 0 to 1. -/
structure Sec (f : Nat) : Prop where
  nq : Num (secQ f)
  nd : Num (secD f)
  nc : Num (secC f)
  ns : Num (secS f)
  q0 : 1 - 2 * dl ≤ val (secQ f)
  q1 : val (secQ f) ≤ 2 + 2 * dl
  dd : Ab (val (secD f) * val (secD f) - (1 + val f * val f)) (3 * dl)
  d0 : 15 / 16 ≤ val (secD f)
  d1 : val (secD f) ≤ 3 / 2
  cd : Ab (val (secC f) * val (secD f) - 1) (5 * dl)
  sd : Ab (val (secS f) * val (secD f) - val f) (5 * dl)
  len : Ab (val (secC f) * val (secC f) + val (secS f) * val (secS f) - 1) (24 * dl)
  c0 : 5 / 8 ≤ val (secC f)
  c1 : val (secC f) ≤ 9 / 8
  s0 : -(5 * dl) * 2 ≤ val (secS f)
  s1 : val (secS f) ≤ 9 / 8

theorem dl_le : dl ≤ 1 / 1048576 := by unfold dl; grind
theorem dl_ge : 0 ≤ dl := by unfold dl; grind
theorem sq_ge {a A : Rat} (h0 : 0 ≤ a) (h : A * A ≤ a * a) : A ≤ a := by
  by_cases h1 : A ≤ a
  · exact h1
  · exfalso
    have p1 := Rat.mul_pos (show 0 < A - a by grind) (show 0 < A - a by grind)
    have p2 := Rat.mul_nonneg (show 0 ≤ A - a by grind) h0
    grind
/-- A bound on a product with what is nearly 1 or more. -/
theorem ab_div {t g B B' : Rat} (hg : 1023 / 1024 ≤ g) (h : Ab (t * g) B) (hB : B ≤ B' * (1023 / 1024)) (hB0 : 0 ≤ B') : Ab t B' := by
  unfold Ab at *
  obtain ⟨h1, h2⟩ := h
  constructor
  · by_cases k : -B' ≤ t
    · exact k
    · exfalso
      have p := Rat.mul_nonneg (show 0 ≤ -B' - t by grind) (show 0 ≤ g - 1023 / 1024 by grind)
      have p2 := Rat.mul_nonneg hB0 (show 0 ≤ g - 1023 / 1024 by grind)
      grind
  · by_cases k : t ≤ B'
    · exact k
    · exfalso
      have p := Rat.mul_nonneg (show 0 ≤ t - B' by grind) (show 0 ≤ g - 1023 / 1024 by grind)
      have p2 := Rat.mul_nonneg hB0 (show 0 ≤ g - 1023 / 1024 by grind)
      grind

theorem sec_alg {D C S F : Rat} (fa : Ab F 1) (f0 : 0 ≤ F) (dd : Ab (D * D - (1 + F * F)) (3 * dl)) (d0 : 15 / 16 ≤ D) (ec' : Ab (C * D - 1) (5 * dl)) (es' : Ab (S * D - F) (5 * dl)) :
    Ab (C * C + S * S - 1) (24 * dl) ∧ 5 / 8 ≤ C ∧ C ≤ 9 / 8 ∧ -(5 * dl) * 2 ≤ S ∧ S ≤ 9 / 8 := by
  have hd := dl_le
  have hd0 := dl_ge
  have hdd : dl * dl ≤ dl * (1 / 1048576) := Rat.mul_le_mul_of_nonneg_left hd hd0
  have hdd0 : 0 ≤ dl * dl := Rat.mul_nonneg hd0 hd0
  have hFF : 0 ≤ F * F := Rat.mul_nonneg f0 f0
  have d1 : D ≤ 3 / 2 := by
    have ff := fa.mul fa
    refine (Ab.of_sq (A := 3 / 2) (by grind) ?_).2
    unfold Ab at dd ff
    grind
  have g1 : 1023 / 1024 ≤ D * D := by unfold Ab at dd; grind
  have cc : Ab ((C * D - 1) * (C * D - 1)) (5 * dl * (5 * dl)) := ec'.mul ec'
  have ss : Ab ((S * D - F) * (S * D - F)) (5 * dl * (5 * dl)) := es'.mul es'
  have fs : Ab (F * (S * D - F)) (1 * (5 * dl)) := fa.mul es'
  have len : Ab (C * C + S * S - 1) (24 * dl) := by
    refine ab_div (g := D * D) (B := 23 * dl + dl * (1 / 1000)) g1 ?_ (by grind) (by grind)
    have e : (C * C + S * S - 1) * (D * D) = 2 * (C * D - 1) + (C * D - 1) * (C * D - 1) + 2 * (F * (S * D - F)) + (S * D - F) * (S * D - F) - (D * D - (1 + F * F)) := by grind
    rw [e]
    generalize C * D - 1 = a at *
    generalize a * a = aa at *
    generalize F * (S * D - F) = b at *
    generalize (S * D - F) * (S * D - F) = bb at *
    generalize D * D - (1 + F * F) = c at *
    unfold Ab at *
    constructor <;> grind
  have c0 : 5 / 8 ≤ C := by
    by_cases k : 5 / 8 ≤ C
    · exact k
    · exfalso
      have p := Rat.mul_nonneg (show 0 ≤ 5 / 8 - C by grind) (show 0 ≤ D by grind)
      unfold Ab at ec'
      grind
  have c1 : C ≤ 9 / 8 := by
    by_cases k : C ≤ 9 / 8
    · exact k
    · exfalso
      have p := Rat.mul_nonneg (show 0 ≤ C - 9 / 8 by grind) (show 0 ≤ D by grind)
      unfold Ab at ec'
      grind
  have s0 : -(5 * dl) * 2 ≤ S := by
    by_cases k : -(5 * dl) * 2 ≤ S
    · exact k
    · exfalso
      have p := Rat.mul_nonneg (show 0 ≤ -(5 * dl) * 2 - S by grind) (show 0 ≤ D - 15 / 16 by grind)
      have p2 := Rat.mul_nonneg hd0 (show 0 ≤ D - 15 / 16 by grind)
      unfold Ab at es'
      grind
  have s1 : S ≤ 9 / 8 := by
    refine (Ab.of_sq (A := 9 / 8) (by grind) ?_).2
    have := sq_nonneg C
    unfold Ab at len
    grind
  exact ⟨len, c0, c1, s0, s1⟩

theorem sec_vals {f : Nat} (hf : Num f) (f0 : 0 ≤ val f) (f1 : val f ≤ 1) : Sec f := by
  have fa : Ab (val f) 1 := ⟨by grind, f1⟩
  have ff := fa.mul fa
  obtain ⟨n1, e1⟩ := mul_ab hf hf (ff.mono (by grind))
  have hd := dl_le
  have hd0 := dl_ge
  have hdd : dl * dl ≤ dl * (1 / 1048576) := Rat.mul_le_mul_of_nonneg_left hd hd0
  have hdd0 : 0 ≤ dl * dl := Rat.mul_nonneg hd0 hd0
  have hff0 : 0 ≤ val f * val f := Rat.mul_nonneg f0 f0
  have hff1 : val f * val f ≤ 1 := by unfold Ab at ff; grind
  obtain ⟨n2, e2⟩ := add_ab num_w1 n1 (by rw [val_w1]; unfold Ab at *; constructor <;> grind)
  rw [val_w1] at e2
  have nq : Num (secQ f) := n2
  have eq : Ab (val (secQ f) - (1 + val (fmul f f))) dl := e2
  have q0 : 1 - 2 * dl ≤ val (secQ f) := by unfold Ab at *; grind
  have q1 : val (secQ f) ≤ 2 + 2 * dl := by unfold Ab at *; grind
  obtain ⟨nd, dn, d3, ed, _⟩ := sqrt_ab nq (by grind) (by grind)
  have nd' : Num (secD f) := nd
  have ed' : Ab (val (secD f) * val (secD f) - val (secQ f)) dl := ed
  have dn' : 0 ≤ val (secD f) := dn
  have dd : Ab (val (secD f) * val (secD f) - (1 + val f * val f)) (3 * dl) := by unfold Ab at *; constructor <;> grind
  have d0 : 15 / 16 ≤ val (secD f) := sq_ge dn' (by unfold Ab at dd; grind)
  have d1 : val (secD f) ≤ 3 / 2 := (Ab.of_sq (A := 3 / 2) (by grind) (by unfold Ab at dd; grind)).2
  have d4 : Ab (val (secD f)) 4 := by unfold Ab; constructor <;> grind
  obtain ⟨nc, ec⟩ := div_ab num_w1 nd' (by rw [val_w1]; unfold Ab; constructor <;> grind) (.inl (by grind)) d4
  obtain ⟨ns, es⟩ := div_ab hf nd' fa (.inl (by grind)) d4
  rw [val_w1] at ec
  have nc' : Num (secC f) := nc
  have ns' : Num (secS f) := ns
  have ec' : Ab (val (secC f) * val (secD f) - 1) (5 * dl) := ec
  have es' : Ab (val (secS f) * val (secD f) - val f) (5 * dl) := es
  clear nc ns ec es nd ed dn e1 e2 n1 n2 eq
  obtain ⟨len, c0, c1, s0, s1⟩ := sec_alg fa f0 dd d0 ec' es'
  exact ⟨nq, nd', nc', ns', q0, q1, dd, d0, d1, ec', es', len, c0, c1, s0, s1⟩
end Go.Proofs.YtijoaklknpkdoaaGreat.Fl

namespace Go.Proofs.YtijoaklknpkdoaaGreat.Fl

/-- A pair that is nearly of length 1. -/
structure Unit2 (x y : Nat) : Prop where
  nx : Num x
  ny : Num y
  ax : Ab (val x) (9 / 8)
  ay : Ab (val y) (9 / 8)
  len : Ab (val x * val x + val y * val y - 1) (24 * dl)
theorem Sec.unit {f : Nat} (h : Sec f) : Unit2 (secC f) (secS f) := by
  have hd := dl_le
  have hd0 := dl_ge
  exact ⟨h.nc, h.ns, ⟨by have := h.c0; grind, h.c1⟩, ⟨by have := h.s0; grind, h.s1⟩, h.len⟩
theorem Unit2.swap {x y : Nat} (h : Unit2 x y) : Unit2 y x := ⟨h.ny, h.nx, h.ay, h.ax, by have := h.len; unfold Ab at *; constructor <;> grind⟩
/-- The square of a product, and what rounding does to both. -/
theorem mul_sq {x r : Nat} (hx : Num x) (hr : Num r) (ax : Ab (val x) (9 / 8)) (ar : Ab (val r) (17 / 16)) : Num (fmul x r) ∧ Ab (val (fmul x r)) (6 / 5) ∧ Num (fmul (fmul x r) (fmul x r)) ∧ Ab (val (fmul (fmul x r) (fmul x r)) - val x * val x * (val r * val r)) (4 * dl) := by
  have hd := dl_le
  have hd0 := dl_ge
  have xr := ax.mul ar
  obtain ⟨n1, e1⟩ := mul_ab hx hr (xr.mono (by grind))
  have s0 : Ab (val (fmul x r)) (6 / 5) := by unfold Ab at *; constructor <;> grind
  obtain ⟨n2, e2⟩ := mul_ab n1 n1 ((s0.mul s0).mono (by grind))
  refine ⟨n1, s0, n2, ?_⟩
  have e3 := e1.mul (s0.add xr)
  have e4 : val (fmul x r) * val (fmul x r) - val x * val x * (val r * val r) = (val (fmul x r) - val x * val r) * (val (fmul x r) + val x * val r) := by grind
  have e5 : Ab (val (fmul x r) * val (fmul x r) - val x * val x * (val r * val r)) (3 * dl) := by
    rw [e4]
    exact e3.mono (by grind)
  have e6 := e2.add e5
  have e7 : val (fmul (fmul x r) (fmul x r)) - val (fmul x r) * val (fmul x r) + (val (fmul x r) * val (fmul x r) - val x * val x * (val r * val r)) = val (fmul (fmul x r) (fmul x r)) - val x * val x * (val r * val r) := by grind
  rw [e7] at e6
  exact e6.mono (by grind)
/-- The square of the length of a pair that is nearly of length 1, times r: near to V, where r's square is near to V. -/
theorem pair_sq {x y r : Nat} {V B : Rat} (h : Unit2 x y) (hr : Num r) (r0 : 0 ≤ val r) (hV : Ab (val r * val r - V) B) (hB : B ≤ 1 / 1024) (v1 : V ≤ 1 + 1 / 1024) :
    Num (fadd (fmul (fmul x r) (fmul x r)) (fmul (fmul y r) (fmul y r))) ∧ Ab (val (fadd (fmul (fmul x r) (fmul x r)) (fmul (fmul y r) (fmul y r))) - V) (34 * dl + B) := by
  have hd := dl_le
  have hd0 := dl_ge
  have r1 : Ab (val r) (17 / 16) := Ab.of_sq (by grind) (by unfold Ab at hV; grind)
  obtain ⟨_, sx, nx, ex⟩ := mul_sq h.nx hr h.ax r1
  obtain ⟨_, sy, ny, ey⟩ := mul_sq h.ny hr h.ay r1
  have hl := h.len
  have hR : 0 ≤ val r * val r := Rat.mul_nonneg r0 r0
  have hR1 : Ab (val r * val r) (257 / 256) := by unfold Ab at *; constructor <;> grind
  have el := hl.mul hR1
  have e0 : (val x * val x + val y * val y - 1) * (val r * val r) = val x * val x * (val r * val r) + val y * val y * (val r * val r) - val r * val r := by grind
  rw [e0] at el
  have hp0 : 0 ≤ val x * val x * (val r * val r) := Rat.mul_nonneg (sq_nonneg _) hR
  have hq0 : 0 ≤ val y * val y * (val r * val r) := Rat.mul_nonneg (sq_nonneg _) hR
  have hs : Ab (val (fmul (fmul x r) (fmul x r)) + val (fmul (fmul y r) (fmul y r))) 64 := by unfold Ab at *; constructor <;> grind
  obtain ⟨n, e⟩ := add_ab nx ny hs
  refine ⟨n, ?_⟩
  unfold Ab at *
  constructor <;> grind

/-- What is written of a number not below 0 is not below 0. -/
theorem near_ge0 {s : Bool} {m : Nat} {e : Int} (h : 0 ≤ dval (.number s m e)) (hn : Num (F64.nearest s m e)) : 0 ≤ val (F64.nearest s m e) := by
  obtain ⟨z0, z1⟩ := nearest_zero false 0
  have l0 := nearest_mono (n1 := false) (m1 := 0) (p1 := 0) (n2 := s) (m2 := m) (p2 := e) (by
    rw [dval_number]
    have : sg false (((0 : Nat) : Rat) * 2 ^ (0 : Int)) = 0 := by decide +kernel
    rw [this]; exact h)
  rw [leB_val z0 hn, z1] at l0
  exact of_decide_eq_true l0
theorem sub_ge0 {x y : Nat} (hx : Num x) (hy : Num y) (h : val y ≤ val x) (hn : Num (fsub x y)) : 0 ≤ val (fsub x y) := by
  obtain ⟨s, m, e, hf, hv⟩ := sub_near hx hy
  rw [hf] at hn ⊢
  exact near_ge0 (by rw [hv]; grind) hn

/-- Above a point of the disk: (X times r, Y times r, the root of 1 less u), r the root of u. -/
def hemiN (x y u : Nat) : Nat := fadd (fadd (fmul (fmul x (fsqrt u)) (fmul x (fsqrt u))) (fmul (fmul y (fsqrt u)) (fmul y (fsqrt u)))) (fmul (fsqrt (fsub w1 u)) (fsqrt (fsub w1 u)))
theorem disk_len {x y u : Nat} (h : Unit2 x y) (hu : Num u) (u0 : 0 ≤ val u) (u1 : val u ≤ 1) :
    Num (fadd (fmul (fmul x (fsqrt u)) (fmul x (fsqrt u))) (fmul (fmul y (fsqrt u)) (fmul y (fsqrt u)))) ∧ Ab (val (fadd (fmul (fmul x (fsqrt u)) (fmul x (fsqrt u))) (fmul (fmul y (fsqrt u)) (fmul y (fsqrt u)))) - val u) (35 * dl) := by
  have hd := dl_le
  have hd0 := dl_ge
  obtain ⟨nr, r0, _, er, _⟩ := sqrt_ab hu u0 (by grind)
  obtain ⟨n, e⟩ := pair_sq h nr r0 er (by grind) (by grind)
  exact ⟨n, e.mono (by grind)⟩
theorem hemi_len {x y u : Nat} (h : Unit2 x y) (hu : Num u) (u0 : 0 ≤ val u) (u1 : val u ≤ 1) : Num (hemiN x y u) ∧ Ab (val (hemiN x y u) - 1) (39 * dl) ∧ Num (fsqrt (fsub w1 u)) ∧ 0 ≤ val (fsqrt (fsub w1 u)) := by
  have hd := dl_le
  have hd0 := dl_ge
  obtain ⟨n, e⟩ := disk_len h hu u0 u1
  obtain ⟨n1, e1⟩ := sub_ab num_w1 hu (by rw [val_w1]; unfold Ab; constructor <;> grind)
  rw [val_w1] at e1
  have z0 := sub_ge0 num_w1 hu (by rw [val_w1]; exact u1) n1
  have z1 : val (fsub w1 u) ≤ 2 := by unfold Ab at e1; grind
  obtain ⟨nz, s0, s3, ez, _⟩ := sqrt_ab n1 z0 (by grind)
  have sz := sq_nonneg (val (fsqrt (fsub w1 u)))
  obtain ⟨nzz, ezz⟩ := mul_ab nz nz (by unfold Ab at *; constructor <;> grind)
  have hs : Ab (val (fadd (fmul (fmul x (fsqrt u)) (fmul x (fsqrt u))) (fmul (fmul y (fsqrt u)) (fmul y (fsqrt u)))) + val (fmul (fsqrt (fsub w1 u)) (fsqrt (fsub w1 u)))) 64 := by unfold Ab at *; constructor <;> grind
  obtain ⟨nn, en⟩ := add_ab n nzz hs
  refine ⟨nn, ?_, nz, s0⟩
  unfold hemiN
  unfold Ab at *
  constructor <;> grind

/-- All around: (X times r, Y times r, Z), Z from -1 to 1 and r the root of 1 less Z times Z (of 0, if that is below 0). -/
theorem ball_len {x y z q r : Nat} (h : Unit2 x y) (hz : Num z) (az : Ab (val z) (1 + 4 * dl)) (hq : q = fsub w1 (fmul z z)) (hr : r = fsqrt (if (ford q 0 == some .lt) = true then 0 else q)) :
    Num q ∧ Num (fadd (fadd (fmul (fmul x r) (fmul x r)) (fmul (fmul y r) (fmul y r))) (fmul z z)) ∧ Ab (val (fadd (fadd (fmul (fmul x r) (fmul x r)) (fmul (fmul y r) (fmul y r))) (fmul z z)) - 1) (54 * dl) := by
  have hd := dl_le
  have hd0 := dl_ge
  have hdd : dl * dl ≤ dl * (1 / 1048576) := Rat.mul_le_mul_of_nonneg_left hd hd0
  have hdd0 : 0 ≤ dl * dl := Rat.mul_nonneg hd0 hd0
  have zz := az.mul az
  have z0 := sq_nonneg (val z)
  have z1 : val z * val z ≤ 1 + 9 * dl := by unfold Ab at zz; grind
  obtain ⟨n1, e1⟩ := mul_ab hz hz (by unfold Ab; constructor <;> grind)
  obtain ⟨n2, e2⟩ := sub_ab num_w1 n1 (by rw [val_w1]; unfold Ab at *; constructor <;> grind)
  rw [val_w1] at e2
  rw [← hq] at n2 e2
  obtain ⟨p, hp⟩ : ∃ p, p = if (ford q 0 == some .lt) = true then 0 else q := ⟨_, rfl⟩
  rw [← hp] at hr
  have hlt := lt_val n2 num_zero
  rw [val_zero] at hlt
  have hpp : Num p ∧ 0 ≤ val p ∧ Ab (val p - (1 - val z * val z)) (13 * dl) := by
    rw [hp, hlt]
    by_cases k : val q < 0
    · rw [decide_eq_true k, if_pos rfl]
      refine ⟨num_zero, by rw [val_zero]; exact Rat.le_refl, ?_⟩
      rw [val_zero]
      unfold Ab at *
      constructor <;> grind
    · rw [decide_eq_false k, if_neg (by simp)]
      refine ⟨n2, by grind, ?_⟩
      unfold Ab at *
      constructor <;> grind
  obtain ⟨np, p0, ep⟩ := hpp
  obtain ⟨nr, r0, _, er, _⟩ := sqrt_ab np p0 (by unfold Ab at ep; grind)
  rw [← hr] at nr r0 er
  have er2 : Ab (val r * val r - (1 - val z * val z)) (14 * dl) := by unfold Ab at *; constructor <;> grind
  obtain ⟨n3, e3⟩ := pair_sq h nr r0 er2 (by grind) (by grind)
  have hs : Ab (val (fadd (fmul (fmul x r) (fmul x r)) (fmul (fmul y r) (fmul y r))) + val (fmul z z)) 64 := by unfold Ab at *; constructor <;> grind
  obtain ⟨nn, en⟩ := add_ab n3 n1 hs
  refine ⟨n2, nn, ?_⟩
  unfold Ab at *
  constructor <;> grind
end Go.Proofs.YtijoaklknpkdoaaGreat.Fl

namespace Go.Proofs.YtijoaklknpkdoaaGreat.Fl

def eighth : Nat := 4593671619917905920
theorem num_eighth : Num eighth := ⟨false, 4503599627370496, -55, by decide +kernel⟩
theorem val_eighth : val eighth = 1 / 8 := by decide +kernel
/-- The density by f. -/
def densF (f : Nat) : Nat := fmul (secQ f) eighth
theorem dens_ab {f : Nat} (hf : Num f) {F B : Rat} (hF : Ab (val f - F) B) (hB : B ≤ 1 / 1024) (f0 : 0 ≤ F) (f1 : F ≤ 1) : Num (densF f) ∧ Ab (val (densF f) - (1 + F * F) * (1 / 8)) (B * (3 / 8) + 2 * dl) := by
  have hd := dl_le
  have hd0 := dl_ge
  have fa : Ab (val f) (9 / 8) := by unfold Ab at *; constructor <;> grind
  have Fa : Ab F 1 := by unfold Ab; constructor <;> grind
  have ff := fa.mul fa
  have f00 := sq_nonneg (val f)
  obtain ⟨n1, e1⟩ := mul_ab hf hf (ff.mono (by grind))
  obtain ⟨n2, e2⟩ := add_ab num_w1 n1 (by rw [val_w1]; unfold Ab at *; constructor <;> grind)
  rw [val_w1] at e2
  obtain ⟨n3, e3⟩ := mul_ab n2 num_eighth (by rw [val_eighth]; unfold Ab at *; constructor <;> grind)
  rw [val_eighth] at e3
  refine ⟨n3, ?_⟩
  have k := hF.mul (fa.add Fa)
  have e : (val f - F) * (val f + F) = val f * val f - F * F := by grind
  rw [e] at k
  have hB0 := hF.nonneg
  have k2 := k.mono (show B * (9 / 8 + 1) ≤ B * 3 by grind)
  unfold densF secQ
  unfold Ab at *
  constructor <;> grind

/-- What is less, divided by what is greater, tells f again. -/
theorem sec_back {f : Nat} (hf : Num f) (f0 : 0 ≤ val f) (f1 : val f ≤ 1) : Num (fdiv (secS f) (secC f)) ∧ Ab (val (fdiv (secS f) (secC f)) - val f) (20 * dl) := by
  have h := sec_vals hf f0 f1
  have hd := dl_le
  have hd0 := dl_ge
  have c0 := h.c0
  have c1 := h.c1
  have len := h.len
  have cc := Rat.mul_nonneg (show 0 ≤ val (secC f) - 5 / 8 by grind) (show 0 ≤ val (secC f) + 5 / 8 by grind)
  have sa : Ab (val (secS f)) (7 / 8) := Ab.of_sq (by grind) (by unfold Ab at len; grind)
  obtain ⟨n, e⟩ := div_ab h.ns h.nc (sa.mono (by grind)) (.inl (by grind)) (by unfold Ab; constructor <;> grind)
  refine ⟨n, ?_⟩
  have D0 := h.d0
  have D1 := h.d1
  have ec := h.cd
  have es := h.sd
  generalize val (fdiv (secS f) (secC f)) = g at *
  generalize val (secS f) = S at *
  generalize val (secC f) = C at *
  generalize val (secD f) = D at *
  generalize val f = F at *
  have Da : Ab D (3 / 2) := by unfold Ab; constructor <;> grind
  have k1 := e.mul Da
  have e1 : (g * C - S) * D = g * (C * D) - S * D := by grind
  rw [e1] at k1
  -- g (1 + a) = F + b
  have k2 : Ab (g * (C * D) - F) (13 * dl) := by unfold Ab at *; constructor <;> grind
  have ga : Ab g (17 / 16) := by
    have hh : Ab (g * (C * D)) (1 + 13 * dl) := by unfold Ab at *; constructor <;> grind
    exact ab_div (g := C * D) (B := 1 + 13 * dl) (by unfold Ab at ec; grind) hh (by grind) (by grind)
  have k3 := ga.mul ec
  have e3 : g * (C * D - 1) = g * (C * D) - g := by grind
  rw [e3] at k3
  unfold Ab at *
  constructor <;> grind

/-- The density of a draw's direction beside the draw's. -/
theorem dens_back {f : Nat} (hf : Num f) (f0 : 0 ≤ val f) (f1 : val f ≤ 1) : Num (densF (fdiv (secS f) (secC f))) ∧ Num (densF f) ∧ Ab (val (densF (fdiv (secS f) (secC f))) - val (densF f)) (12 * dl) := by
  have hd := dl_le
  have hd0 := dl_ge
  obtain ⟨n, e⟩ := sec_back hf f0 f1
  obtain ⟨n1, e1⟩ := dens_ab n e (by grind) f0 f1
  obtain ⟨n2, e2⟩ := dens_ab hf (F := val f) (B := 0) (by unfold Ab; constructor <;> grind) (by grind) f0 f1
  refine ⟨n1, n2, ?_⟩
  unfold Ab at *
  constructor <;> grind
end Go.Proofs.YtijoaklknpkdoaaGreat.Fl

namespace Go.Proofs.YtijoaklknpkdoaaGreat.Fl

/-- What is written lies between what lies around it. -/
theorem near_le {s t : Bool} {m n : Nat} {e j : Int} (h : dval (.number s m e) ≤ dval (.number t n j)) (hn : Num (F64.nearest s m e)) (hk : Num (F64.nearest t n j)) : val (F64.nearest s m e) ≤ val (F64.nearest t n j) := by
  have l := nearest_mono h
  rw [leB_val hn hk] at l
  exact of_decide_eq_true l
theorem near_hi {s t : Bool} {m n : Nat} {e j : Int} {R : Rat} (hk : Num (F64.nearest t n j)) (hv : val (F64.nearest t n j) = R) (hd : dval (.number t n j) = R) (h : dval (.number s m e) ≤ R) (hn : Num (F64.nearest s m e)) : val (F64.nearest s m e) ≤ R := by
  rw [← hv]; exact near_le (by rw [hd]; exact h) hn hk
theorem near_lo {s t : Bool} {m n : Nat} {e j : Int} {R : Rat} (hk : Num (F64.nearest t n j)) (hv : val (F64.nearest t n j) = R) (hd : dval (.number t n j) = R) (h : R ≤ dval (.number s m e)) (hn : Num (F64.nearest s m e)) : R ≤ val (F64.nearest s m e) := by
  rw [← hv]; exact near_le (by rw [hd]; exact h) hk hn
theorem n_one : Num (F64.nearest false 1 0) := ⟨false, 4503599627370496, -52, by decide +kernel⟩
theorem n_two : Num (F64.nearest false 2 0) := ⟨false, 4503599627370496, -51, by decide +kernel⟩
theorem n_neg : Num (F64.nearest true 1 0) := ⟨true, 4503599627370496, -52, by decide +kernel⟩
theorem n_8th : Num (F64.nearest false 1 (-3)) := ⟨false, 4503599627370496, -55, by decide +kernel⟩
theorem n_4th : Num (F64.nearest false 1 (-2)) := ⟨false, 4503599627370496, -54, by decide +kernel⟩
theorem n_zero : Num (F64.nearest false 0 0) := (nearest_zero false 0).1

/-- An operation whose exact result is from 0 to 1. -/
theorem unit_mul {x y : Nat} (hx : Num x) (hy : Num y) (x0 : 0 ≤ val x) (x1 : val x ≤ 1) (y0 : 0 ≤ val y) (y1 : val y ≤ 1) : Num (fmul x y) ∧ 0 ≤ val (fmul x y) ∧ val (fmul x y) ≤ 1 := by
  have p := Rat.mul_nonneg x0 y0
  have q : val x * val y ≤ 1 := by
    have := Rat.mul_le_mul_of_nonneg_right x1 y0
    grind
  obtain ⟨hn, _⟩ := mul_ab hx hy (by unfold Ab; constructor <;> grind)
  obtain ⟨s, m, e, hf, hv⟩ := mul_near hx hy
  rw [hf] at hn ⊢
  rw [← hv] at p q
  exact ⟨hn, near_lo n_zero (nearest_zero false 0).2 (by decide +kernel) p hn, near_hi n_one (by decide +kernel) (by decide +kernel) q hn⟩
theorem unit_sub {y : Nat} (hy : Num y) (y0 : 0 ≤ val y) (y1 : val y ≤ 1) : Num (fsub w1 y) ∧ 0 ≤ val (fsub w1 y) ∧ val (fsub w1 y) ≤ 1 := by
  obtain ⟨hn, _⟩ := sub_ab num_w1 hy (by rw [val_w1]; unfold Ab; constructor <;> grind)
  obtain ⟨s, m, e, hf, hv⟩ := sub_near num_w1 hy
  rw [val_w1] at hv
  rw [hf] at hn ⊢
  exact ⟨hn, near_lo n_zero (nearest_zero false 0).2 (by decide +kernel) (by rw [hv]; grind) hn, near_hi n_one (by decide +kernel) (by decide +kernel) (by rw [hv]; grind) hn⟩

/-- A triangle's numbers: 1 less r, r times (1 less v), r times v, r the root of u. -/
theorem bary_vals {u v : Nat} (hu : Num u) (u0 : 0 ≤ val u) (u1 : val u ≤ 1) (hv : Num v) (v0 : 0 ≤ val v) (v1 : val v ≤ 1) :
    (Num (fsub w1 (fsqrt u)) ∧ 0 ≤ val (fsub w1 (fsqrt u)) ∧ val (fsub w1 (fsqrt u)) ≤ 1) ∧ (Num (fmul (fsqrt u) (fsub w1 v)) ∧ 0 ≤ val (fmul (fsqrt u) (fsub w1 v)) ∧ val (fmul (fsqrt u) (fsub w1 v)) ≤ 1) ∧ (Num (fmul (fsqrt u) v) ∧ 0 ≤ val (fmul (fsqrt u) v) ∧ val (fmul (fsqrt u) v) ≤ 1) ∧
    Num (fadd (fadd (fsub w1 (fsqrt u)) (fmul (fsqrt u) (fsub w1 v))) (fmul (fsqrt u) v)) ∧ Ab (val (fadd (fadd (fsub w1 (fsqrt u)) (fmul (fsqrt u) (fsub w1 v))) (fmul (fsqrt u) v)) - 1) (8 * dl) := by
  have hd := dl_le
  have hd0 := dl_ge
  obtain ⟨nr, r0, _, _, r1⟩ := sqrt_ab hu u0 (by grind)
  have r1 := r1 u1
  obtain ⟨na, a0, a1⟩ := unit_sub nr r0 r1
  obtain ⟨nw, w0, w11⟩ := unit_sub hv v0 v1
  obtain ⟨nb, b0, b1⟩ := unit_mul nr nw r0 r1 w0 w11
  obtain ⟨nc, c0, c1⟩ := unit_mul nr hv r0 r1 v0 v1
  have ea := (sub_ab num_w1 nr (by rw [val_w1]; unfold Ab; constructor <;> grind)).2
  have ew := (sub_ab num_w1 hv (by rw [val_w1]; unfold Ab; constructor <;> grind)).2
  have p1 := Rat.mul_nonneg r0 w0
  have p2 := Rat.mul_nonneg r0 v0
  have p3 := Rat.mul_le_mul_of_nonneg_right r1 w0
  have p4 := Rat.mul_le_mul_of_nonneg_right r1 v0
  have eb := (mul_ab nr nw (by unfold Ab; constructor <;> grind)).2
  have ec := (mul_ab nr hv (by unfold Ab; constructor <;> grind)).2
  rw [val_w1] at ea ew
  obtain ⟨n1, e1⟩ := add_ab na nb (by unfold Ab; constructor <;> grind)
  obtain ⟨n2, e2⟩ := add_ab n1 nc (by unfold Ab at *; constructor <;> grind)
  refine ⟨⟨na, a0, a1⟩, ⟨nb, b0, b1⟩, ⟨nc, c0, c1⟩, n2, ?_⟩
  have ra : Ab (val (fsqrt u)) 1 := by unfold Ab; constructor <;> grind
  have rw' := ra.mul ew
  have e3 : val (fsqrt u) * (val (fsub w1 v) - (1 - val v)) = val (fsqrt u) * val (fsub w1 v) - val (fsqrt u) + val (fsqrt u) * val v := by grind
  rw [e3] at rw'
  unfold Ab at *
  constructor <;> grind

/-- A sector's density is from an eighth to a quarter. -/
theorem dens_range {f : Nat} (hf : Num f) (f0 : 0 ≤ val f) (f1 : val f ≤ 1) : Num (densF f) ∧ 1 / 8 ≤ val (densF f) ∧ val (densF f) ≤ 1 / 4 := by
  have hd := dl_le
  have hd0 := dl_ge
  obtain ⟨nf, m0, m1⟩ := unit_mul hf hf f0 f1 f0 f1
  obtain ⟨nq, _⟩ := add_ab num_w1 nf (by rw [val_w1]; unfold Ab; constructor <;> grind)
  obtain ⟨s, m, e, hq, hv⟩ := add_near num_w1 nf
  rw [val_w1] at hv
  have q01 : 1 ≤ val (secQ f) ∧ val (secQ f) ≤ 2 := by
    unfold secQ
    rw [hq] at nq ⊢
    exact ⟨near_lo n_one (by decide +kernel) (by decide +kernel) (by rw [hv]; grind) nq, near_hi n_two (by decide +kernel) (by decide +kernel) (by rw [hv]; grind) nq⟩
  have nq' : Num (secQ f) := nq
  obtain ⟨np, _⟩ := mul_ab nq' num_eighth (by rw [val_eighth]; unfold Ab; constructor <;> grind)
  obtain ⟨s2, m2, e2, hp, hv2⟩ := mul_near nq' num_eighth
  rw [val_eighth] at hv2
  unfold densF
  rw [hp] at np ⊢
  exact ⟨np, near_lo n_8th (by decide +kernel) (by decide +kernel) (by rw [hv2]; grind) np, near_hi n_4th (by decide +kernel) (by decide +kernel) (by rw [hv2]; grind) np⟩

/-- The root less 1; 1 less the root. -/
theorem tent_lo {w : Nat} (hw : Num w) (w0 : 0 ≤ val w) (wl : val w ≤ 1) : Num (fsub (fsqrt w) w1) ∧ -1 ≤ val (fsub (fsqrt w) w1) ∧ val (fsub (fsqrt w) w1) ≤ 1 := by
  obtain ⟨nr, r0, _, _, r1⟩ := sqrt_ab hw w0 (by grind)
  have r1 := r1 wl
  obtain ⟨hn, _⟩ := sub_ab nr num_w1 (by rw [val_w1]; unfold Ab; constructor <;> grind)
  obtain ⟨s, m, e, hf, hv⟩ := sub_near nr num_w1
  rw [val_w1] at hv
  rw [hf] at hn ⊢
  exact ⟨hn, near_lo n_neg (by decide +kernel) (by decide +kernel) (by rw [hv]; grind) hn, near_hi n_one (by decide +kernel) (by decide +kernel) (by rw [hv]; grind) hn⟩
theorem tent_hi {w : Nat} (hw : Num w) (w0 : 0 ≤ val w) (wl : val w ≤ 1) : Num (fsub w1 (fsqrt w)) ∧ -1 ≤ val (fsub w1 (fsqrt w)) ∧ val (fsub w1 (fsqrt w)) ≤ 1 := by
  obtain ⟨nr, r0, _, _, r1⟩ := sqrt_ab hw w0 (by grind)
  obtain ⟨n, a, b⟩ := unit_sub nr r0 (r1 wl)
  exact ⟨n, by grind, b⟩
end Go.Proofs.YtijoaklknpkdoaaGreat.Fl

namespace Go.Proofs.YtijoaklknpkdoaaGreat.Fl

def w8 : Nat := 4620693217682128896
theorem num_w8 : Num w8 := ⟨false, 4503599627370496, -49, by decide +kernel⟩
theorem val_w8 : val w8 = 8 := by decide +kernel
/-- Eight times a number from 0 on and below 1 needs no rounding. -/
theorem eight_ex {c : Nat} (hc : Num c) (c0 : 0 ≤ val c) (c1 : val c < 1) : Num (fmul w8 c) ∧ val (fmul w8 c) = 8 * val c := by
  have hx : Ex (val w8 * val c) := by
    obtain ⟨s, m, e, hr⟩ := hc
    have hv : val c = sg s ((m : Rat) * 2 ^ e) := by unfold val; rw [hr, dval_number]
    obtain ⟨b1, b2⟩ := number_bounds hr
    have b3 := read_low hr
    rw [val_w8, hv]
    by_cases hm : m = 0
    · subst hm
      refine ⟨s, 0, 0, by decide, by decide, by decide, ?_⟩
      rw [dval_number]
      have z : ∀ x : Rat, ((0 : Nat) : Rat) * x = 0 := fun x => Rat.zero_mul _
      rw [z, z]
      cases s <;> simp [sg]
    · have he : e ≤ 0 := by
        rcases Int.lt_or_le 0 e with k | k
        · exfalso
          have l1 := p2_le (show (1 : Int) ≤ e by omega)
          have z : (2 : Rat) ^ (1 : Int) = 2 := by decide +kernel
          rw [z] at l1
          have l2 : (1 : Rat) ≤ m := by exact_mod_cast Nat.pos_of_ne_zero hm
          have l3 := Rat.mul_nonneg (show (0 : Rat) ≤ m - 1 by grind) (show (0 : Rat) ≤ 2 ^ e by grind)
          cases s
          · simp only [sg, Bool.false_eq_true, if_false] at hv
            grind
          · simp only [sg, if_true] at hv
            have := Rat.mul_pos (show (0 : Rat) < m by grind) (p2_pos e)
            grind
        · exact k
      refine ⟨s, m, e + 3, by omega, by omega, by omega, ?_⟩
      rw [dval_number, p2_add]
      have z : (2 : Rat) ^ (3 : Int) = 8 := by decide +kernel
      rw [z]
      cases s <;> simp only [sg, if_true, Bool.false_eq_true, if_false] <;> grind
  obtain ⟨n, v⟩ := mul_ex num_w8 hc hx
  rw [val_w8] at v
  exact ⟨n, v⟩
/-- The sector of a clean draw. -/
def secK (c : Nat) : Nat := (val (fmul w8 c)).floor.toNat
theorem sec_k {c : Nat} (hc : Num c) (c0 : 0 ≤ val c) (c1 : val c < 1) : truncF (fmul w8 c) = (secK c : Int) ∧ secK c ≤ 7 ∧ (secK c : Rat) ≤ val (fmul w8 c) ∧ val (fmul w8 c) < (secK c : Rat) + 1 := by
  obtain ⟨n, v⟩ := eight_ex hc c0 c1
  have z0 : 0 ≤ val (fmul w8 c) := by rw [v]; grind
  have z8 : val (fmul w8 c) < 8 := by rw [v]; grind
  have f0 : 0 ≤ (val (fmul w8 c)).floor := Rat.le_floor_iff.2 (by exact_mod_cast z0)
  have f1 := Rat.floor_le (val (fmul w8 c))
  have f2 : val (fmul w8 c) < (((val (fmul w8 c)).floor + 1 : Int) : Rat) := by
    by_cases h : val (fmul w8 c) < (((val (fmul w8 c)).floor + 1 : Int) : Rat)
    · exact h
    · exfalso
      have := Rat.le_floor_iff.2 (show (((val (fmul w8 c)).floor + 1 : Int) : Rat) ≤ val (fmul w8 c) by grind)
      omega
  have e : ((secK c : Nat) : Int) = (val (fmul w8 c)).floor := by unfold secK; omega
  have e2 : ((secK c : Nat) : Rat) = (((val (fmul w8 c)).floor : Int) : Rat) := by rw [← e, Rat.intCast_natCast]
  have f3 : (((val (fmul w8 c)).floor + 1 : Int) : Rat) = (secK c : Rat) + 1 := by rw [Rat.intCast_add, e2]; rfl
  rw [f3] at f2
  rw [← e2] at f1
  refine ⟨?_, ?_, f1, f2⟩
  · unfold truncF
    rw [trunc_floor n z0]
    exact e.symm
  · have : (secK c : Rat) < ((8 : Nat) : Rat) := by
      have : ((8 : Nat) : Rat) = 8 := rfl
      grind
    have : secK c < 8 := by exact_mod_cast this
    omega
/-- How far into it. -/
def secF (c : Nat) : Nat := fsub (fmul w8 c) (floatOfInt .f64 (secK c))
theorem sec_f {c : Nat} (hc : Num c) (c0 : 0 ≤ val c) (c1 : val c < 1) : Num (secF c) ∧ 0 ≤ val (secF c) ∧ val (secF c) ≤ 1 := by
  obtain ⟨n, v⟩ := eight_ex hc c0 c1
  obtain ⟨_, k7, k0, k1⟩ := sec_k hc c0 c1
  obtain ⟨nk, vk⟩ := ofint_val (n := (secK c : Int)) (by omega) (by omega)
  rw [Rat.intCast_natCast] at vk
  obtain ⟨hn, _⟩ := sub_ab n nk (by rw [vk]; unfold Ab; constructor <;> grind)
  obtain ⟨s, m, e, hf, hv⟩ := sub_near n nk
  rw [vk] at hv
  unfold secF
  rw [hf] at hn ⊢
  exact ⟨hn, near_lo n_zero (nearest_zero false 0).2 (by decide +kernel) (by rw [hv]; grind) hn, near_hi n_one (by decide +kernel) (by decide +kernel) (by rw [hv]; grind) hn⟩
/-- The reference's test of the next sector. -/
theorem sec_next {c : Nat} (hc : Num c) (c0 : 0 ≤ val c) (c1 : val c < 1) {j : Nat} (hj : j ≤ 8) : leB (floatOfInt .f64 (j : Int)) (fmul w8 c) = decide (j ≤ secK c) := by
  obtain ⟨n, v⟩ := eight_ex hc c0 c1
  obtain ⟨_, k7, k0, k1⟩ := sec_k hc c0 c1
  obtain ⟨nk, vk⟩ := ofint_val (n := (j : Int)) (by omega) (by omega)
  rw [Rat.intCast_natCast] at vk
  rw [leB_val nk n, vk]
  by_cases h : j ≤ secK c
  · rw [decide_eq_true h]
    have : (j : Rat) ≤ (secK c : Rat) := by exact_mod_cast h
    exact decide_eq_true (by grind)
  · rw [decide_eq_false h]
    have : ((secK c + 1 : Nat) : Rat) ≤ (j : Rat) := by exact_mod_cast (show secK c + 1 ≤ j by omega)
    rw [Rat.natCast_add] at this
    have z : ((1 : Nat) : Rat) = 1 := rfl
    exact decide_eq_false (by grind)
end Go.Proofs.YtijoaklknpkdoaaGreat.Fl

namespace Go.Proofs.YtijoaklknpkdoaaGreat.Fl

def q40 : Nat := 4427038433705197568
def m40 : Nat := 13650410470559973376
def o40 : Nat := 4607182418800021504
theorem num_q40 : Num q40 := ⟨false, 4503599627370496, -92, by decide +kernel⟩
theorem num_m40 : Num m40 := ⟨true, 4503599627370496, -92, by decide +kernel⟩
theorem num_o40 : Num o40 := ⟨false, 4503599627374592, -52, by decide +kernel⟩
theorem val_q40 : val q40 = 64 * dl := by decide +kernel
theorem val_m40 : val m40 = -(64 * dl) := by decide +kernel
theorem val_o40 : val o40 = 1 + 64 * dl := by decide +kernel
theorem near40 {a b : Nat} (ha : Num a) (hb : Num b) (h : Ab (val a - val b) (62 * dl)) : leB (fsub a b) q40 = true ∧ leB m40 (fsub a b) = true := by
  have hd := dl_le
  have hd0 := dl_ge
  obtain ⟨n, e⟩ := sub_ab ha hb (h.mono (by grind))
  rw [leB_val n num_q40, leB_val num_m40 n, val_q40, val_m40]
  unfold Ab at *
  exact ⟨decide_eq_true (by grind), decide_eq_true (by grind)⟩
theorem neg_val {x : Nat} (hx : Num x) : Num (fsub 0 x) ∧ val (fsub 0 x) = -val x := by
  have hx0 := hx
  have h : Ex (val 0 - val x) := by
    obtain ⟨s, m, e, hr⟩ := hx
    obtain ⟨b1, b2⟩ := number_bounds hr
    refine ⟨!s, m, e, by omega, read_low hr, b2, ?_⟩
    have hv : val x = sg s ((m : Rat) * 2 ^ e) := by unfold val; rw [hr, dval_number]
    rw [val_zero, hv, dval_number]
    cases s <;> simp only [sg, Bool.not_true, Bool.not_false, if_true, Bool.false_eq_true, if_false] <;> grind
  obtain ⟨n, v⟩ := sub_ex num_zero hx0 h
  exact ⟨n, by rw [v, val_zero]; grind⟩
theorem Unit2.negx {x y : Nat} (h : Unit2 x y) : Unit2 (fsub 0 x) y := by
  obtain ⟨n, v⟩ := neg_val h.nx
  have a := h.ax
  have l := h.len
  refine ⟨n, h.ny, ?_, h.ay, ?_⟩
  · rw [v]; unfold Ab at *; constructor <;> grind
  · rw [v]; unfold Ab at *; constructor <;> grind
theorem Unit2.negy {x y : Nat} (h : Unit2 x y) : Unit2 x (fsub 0 y) := h.swap.negx.swap
/-- The square of the length of a pair that is nearly of length 1. -/
theorem Unit2.near {x y : Nat} (h : Unit2 x y) : Num (fadd (fmul x x) (fmul y y)) ∧ Ab (val (fadd (fmul x x) (fmul y y)) - 1) (28 * dl) := by
  have hd := dl_le
  have hd0 := dl_ge
  have xx := h.ax.mul h.ax
  have yy := h.ay.mul h.ay
  have l := h.len
  obtain ⟨n1, e1⟩ := mul_ab h.nx h.nx (xx.mono (by grind))
  obtain ⟨n2, e2⟩ := mul_ab h.ny h.ny (yy.mono (by grind))
  obtain ⟨n3, e3⟩ := add_ab n1 n2 (by unfold Ab at *; constructor <;> grind)
  refine ⟨n3, ?_⟩
  unfold Ab at *
  constructor <;> grind
end Go.Proofs.YtijoaklknpkdoaaGreat.Fl

namespace Go.Proofs.YtijoaklknpkdoaaGreat.Fl

theorem add_some {x y : Nat} (hx : Num x) (hy : Num y) : F64.add x y = some (fadd x y) := by
  obtain ⟨s, m, i, hx⟩ := hx
  obtain ⟨t, n, j, hy⟩ := hy
  obtain ⟨a, b, c, h, _⟩ := sum_val s t m n i j
  unfold fadd Ieee.Format.add
  rw [hx, hy, h]
  rfl
theorem sub_some {x y : Nat} (hx : Num x) (hy : Num y) : F64.sub x y = some (fsub x y) := by
  obtain ⟨s, m, i, hx⟩ := hx
  obtain ⟨t, n, j, hy⟩ := hy
  unfold fsub Ieee.Format.sub
  obtain ⟨a, b, c, h, _⟩ := sum_val s (!t) m n i j
  rw [hx, hy, Ieee.Datum.opposite, h]
  rfl
theorem sqrt_num {x : Nat} (hx : Num x) (h0 : 0 ≤ val x) : F64.sqrt x = some (fsqrt x) := by
  obtain ⟨s, m, i, hr⟩ := hx
  have hvx : val x = sg s ((m : Rat) * 2 ^ i) := by unfold val; rw [hr, dval_number]
  unfold fsqrt Ieee.Format.sqrt
  rw [hr]
  by_cases hm : m = 0
  · subst hm
    simp [Ieee.Datum.root]
  · have hs : s = false := by
      cases s
      · rfl
      · exfalso
        have h2 : (0 : Rat) < m := by exact_mod_cast Nat.pos_of_ne_zero hm
        have h3 := Rat.mul_pos h2 (p2_pos i)
        rw [hvx] at h0
        simp only [sg, if_true] at h0
        grind
    subst hs
    simp [Ieee.Datum.root, hm]
section
variable {P : Program} (w : World)
theorem run_add_num (t : TypeId) {x y : Nat} (hx : Num x) (hy : Num y) : (binOp .add t (.float .f64 x) (.float .f64 y)).run P w = .ok (.float .f64 (fadd x y)) w :=
  run_float_arith w .add t .f64 x y _ (add_some hx hy)
theorem run_sub_num (t : TypeId) {x y : Nat} (hx : Num x) (hy : Num y) : (binOp .sub t (.float .f64 x) (.float .f64 y)).run P w = .ok (.float .f64 (fsub x y)) w :=
  run_float_arith w .sub t .f64 x y _ (sub_some hx hy)
theorem run_sqrt_num {x : Nat} (hx : Num x) (h0 : 0 ≤ val x) : (Extern.MathSqrt.sqrt #[.float .f64 x]).run P w = .ok (.float .f64 (fsqrt x)) w := by
  rw [sqrt_some (sqrt_num hx h0)]
  rfl
/-- A quotient by what is not 0. -/
theorem run_quo_num (t : TypeId) {x y : Nat} (hx : Num x) (hy : Num y) (hz : val y ≠ 0) : (binOp .quo t (.float .f64 x) (.float .f64 y)).run P w = .ok (.float .f64 (fdiv x y)) w := by
  obtain ⟨s, m, i, hr⟩ := hy
  refine run_div_num w t hx hr ?_
  rintro rfl
  apply hz
  unfold val
  rw [hr, dval_number]
  have z : ((0 : Nat) : Rat) * 2 ^ i = 0 := Rat.zero_mul _
  rw [z]
  cases s <;> simp [sg]
end
end Go.Proofs.YtijoaklknpkdoaaGreat.Fl
