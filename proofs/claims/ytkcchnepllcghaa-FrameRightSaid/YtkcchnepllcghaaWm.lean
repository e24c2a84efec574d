/- The frame of a direction of length 1, as floats: its three are of length 1 and at right angles, as near as 2 to the -30. -/
import Derived.Test.YtkcchnepllcghaaWl
namespace Go.Proofs.Ytkcchnepllcghaa.Fl

abbrev m1w : Nat := 13830554455654793216
abbrev p1w : Nat := 4607182418800017408
abbrev q30 : Nat := 4472074429978902528
abbrev q40 : Nat := 4427038433705197568
theorem num_m1 : Num m1w := ⟨true, 4503599627370496, -52, by decide +kernel⟩
theorem num_p1 : Num p1w := ⟨false, 4503599627370496, -52, by decide +kernel⟩
theorem num_q30 : Num q30 := ⟨false, 4503599627370496, -82, by decide +kernel⟩
theorem num_q40 : Num q40 := ⟨false, 4503599627370496, -92, by decide +kernel⟩
theorem val_m1 : val m1w = -1 := by decide +kernel
theorem val_p1 : val p1w = 1 := by decide +kernel
theorem val_q30 : val q30 = 1 / 1073741824 := by decide +kernel
theorem val_q40 : val q40 = 1 / 1099511627776 := by decide +kernel

theorem sq_ab {a r : Rat} (h : a * a + r ≤ 1 + 1 / 8) (hr : 0 ≤ r) : Ab a (9 / 8) := Ab.of_sq (by grind) (by grind)

/-- A direction of length 1, and its side. -/
structure Dir (x y z s : Nat) : Prop where
  hx : Num x
  hy : Num y
  hz : Num z
  hs : Num s
  hS : val s * val s = 1
  hw : 1 ≤ val s + val z ∨ val s + val z ≤ -1
  hn : Ab (val x * val x + val y * val y + val z * val z - 1) (1 / 274877906944)

theorem Dir.ab {x y z s : Nat} (h : Dir x y z s) : Ab (val x) (9 / 8) ∧ Ab (val y) (9 / 8) ∧ Ab (val z) (9 / 8) ∧ Ab (val s) 1 := by
  have a1 := sq_nonneg (val x)
  have a2 := sq_nonneg (val y)
  have a3 := sq_nonneg (val z)
  obtain ⟨n1, n2⟩ := h.hn
  have hS := h.hS
  refine ⟨sq_ab (r := val y * val y + val z * val z) ?_ ?_, sq_ab (r := val x * val x + val z * val z) ?_ ?_, sq_ab (r := val x * val x + val y * val y) ?_ ?_, Ab.of_sq (by grind) (by grind)⟩ <;> grind

/-- a, and how far a times (s and z) is from -1. -/
theorem Dir.a_ab {x y z s : Nat} (h : Dir x y z s) : Num (fdiv m1w (fadd s z)) ∧ Ab (val (fdiv m1w (fadd s z))) (9 / 8) ∧ Ab (val (fdiv m1w (fadd s z)) * (val s + val z) + 1) (9 * dl) := by
  obtain ⟨bx, bY, bz, bs⟩ := h.ab
  have hp := dl_pos
  have hd := dl_small
  have hw := h.hw
  obtain ⟨nc, ec⟩ := add_ab h.hs h.hz ((bs.add bz).mono (by grind))
  have hc : 1 / 2 ≤ val (fadd s z) ∨ val (fadd s z) ≤ -(1 / 2) := by unfold Ab at ec; rcases hw with h | h <;> grind
  have hc4 : Ab (val (fadd s z)) 4 := by unfold Ab at *; grind
  obtain ⟨na, ea⟩ := div_ab num_m1 nc (by rw [val_m1]; constructor <;> grind) hc hc4
  rw [val_m1] at ea
  generalize val (fdiv m1w (fadd s z)) = a at *
  generalize val (fadd s z) = c at *
  have ba : Ab a 4 := quo_bound (m := 1 / 2) (by grind) hc (by unfold Ab at *; constructor <;> grind)
  have e1 := ba.mul ec
  have hf : Ab (a * (val s + val z) + 1) (9 * dl) := by
    have id : a * (c - (val s + val z)) = a * c - a * (val s + val z) := by grind
    rw [id] at e1
    unfold Ab at *
    constructor <;> grind
  refine ⟨na, ?_, hf⟩
  refine quo_bound (m := 1) (by grind) hw ?_
  unfold Ab at *
  constructor <;> grind

theorem prod_ab {u v : Nat} (hu : Num u) (hv : Num v) {U V E : Rat} (bu : Ab (val u - U) E) (bU : Ab U 2) (bv : Ab (val v) 2) (hE : E ≤ 1) (e : V = U * val v) : Num (fmul u v) ∧ Ab (val (fmul u v) - V) (2 * E + dl) := by
  subst e
  have b3 : Ab (val u) 3 := by unfold Ab at *; constructor <;> grind
  obtain ⟨n, e⟩ := mul_ab hu hv ((b3.mul bv).mono (by grind))
  refine ⟨n, ?_⟩
  have e1 := bu.mul bv
  have id : (val u - U) * val v = val u * val v - U * val v := by grind
  rw [id] at e1
  unfold Ab at *
  constructor <;> grind

/-- A rounded number near to an exact one that is at most 11/4. -/
structure Pt (w : Nat) (e : Rat) : Prop where
  num : Num w
  near : Ab (val w - e) (8 * dl)
  bnd : Ab e (11 / 4)
theorem Pt.ab {w : Nat} {e : Rat} (h : Pt w e) : Ab (val w) 3 := by
  have hd := dl_small
  obtain ⟨_, h1, h2⟩ := h
  unfold Ab at *
  constructor <;> grind
theorem Pt.self {w : Nat} (h : Num w) (b : Ab (val w) (11 / 4)) : Pt w (val w) := ⟨h, by have := dl_pos; unfold Ab; constructor <;> grind, b⟩

/-- All nine numbers of the frame. -/
theorem Dir.parts {x y z s a : Nat} (h : Dir x y z s) (ha : a = fdiv m1w (fadd s z)) :
    Pt (fadd p1w (fmul (fmul (fmul s x) x) a)) (1 + val s * val x * val x * val a) ∧ Pt (fmul s (fmul (fmul x y) a)) (val s * (val x * val y * val a)) ∧ Pt (fsub 0 (fmul s x)) (-(val s * val x)) ∧
    Pt (fmul (fmul x y) a) (val x * val y * val a) ∧ Pt (fadd s (fmul (fmul y y) a)) (val s + val y * val y * val a) ∧ Pt (fsub 0 y) (-val y) := by
  subst ha
  obtain ⟨bx, bY, bz, bs⟩ := h.ab
  obtain ⟨na, ba, _⟩ := h.a_ab
  generalize fdiv m1w (fadd s z) = a at *
  have hp := dl_pos
  have hd := dl_small
  have bxx := bx.mul bx
  have byy := bY.mul bY
  have bsx := bs.mul bx
  have bsxx := bsx.mul bx
  have bxy := bx.mul bY
  have bxya := bxy.mul ba
  have byya := byy.mul ba
  have bsxxa := bsxx.mul ba
  have ba2 := ba.mono (show (9 / 8 : Rat) ≤ 2 by grind)
  have bx2 := bx.mono (show (9 / 8 : Rat) ≤ 2 by grind)
  -- s x, s x x, times a
  obtain ⟨n1, e1⟩ := mul_ab h.hs h.hx (bsx.mono (by grind))
  obtain ⟨n2, e2⟩ := prod_ab n1 h.hx e1 (bsx.mono (by grind)) bx2 (by grind) rfl
  obtain ⟨n3, e3⟩ := prod_ab n2 na e2 (bsxx.mono (by grind)) ba2 (by grind) rfl
  have b3 : Ab (val (fmul (fmul (fmul s x) x) a)) 3 := by unfold Ab at *; constructor <;> grind
  obtain ⟨n4, e4⟩ := add_ab num_p1 n3 (by rw [val_p1]; unfold Ab at *; constructor <;> grind)
  rw [val_p1] at e4
  -- x y a
  obtain ⟨n5, e5⟩ := mul_ab h.hx h.hy (bxy.mono (by grind))
  obtain ⟨n6, e6⟩ := prod_ab n5 na e5 (bxy.mono (by grind)) ba2 (by grind) rfl
  have b6 : Ab (val (fmul (fmul x y) a)) 3 := by unfold Ab at *; constructor <;> grind
  obtain ⟨n7, e7⟩ := mul_ab h.hs n6 ((bs.mul b6).mono (by grind))
  have e7b := bs.mul e6
  obtain ⟨n8, e8⟩ := sub_ab num_zero n1 (by rw [val_zero]; unfold Ab at *; constructor <;> grind)
  rw [val_zero] at e8
  -- y y a
  obtain ⟨n9, e9⟩ := mul_ab h.hy h.hy (byy.mono (by grind))
  obtain ⟨n10, e10⟩ := prod_ab n9 na e9 (byy.mono (by grind)) ba2 (by grind) rfl
  obtain ⟨n11, e11⟩ := add_ab h.hs n10 (by unfold Ab at *; constructor <;> grind)
  obtain ⟨n12, e12⟩ := sub_ab num_zero h.hy (by rw [val_zero]; unfold Ab at *; constructor <;> grind)
  rw [val_zero] at e12
  have id7 : val s * (val (fmul (fmul x y) a) - val x * val y * val a) = val s * val (fmul (fmul x y) a) - val s * (val x * val y * val a) := by grind
  rw [id7] at e7b
  have bt := bs.mul bxya
  generalize val s * val x * val x * val a = P1 at *
  generalize val s * (val x * val y * val a) = P2 at *
  generalize val x * val y * val a = P3 at *
  generalize val y * val y * val a = P4 at *
  generalize val s * val x = P5 at *
  refine ⟨⟨n4, ?_, ?_⟩, ⟨n7, ?_, ?_⟩, ⟨n8, ?_, ?_⟩, ⟨n6, ?_, ?_⟩, ⟨n11, ?_, ?_⟩, ⟨n12, ?_, ?_⟩⟩ <;> unfold Ab at * <;> constructor <;> grind

theorem near_hat {u1 u2 u3 v1 v2 v3 b : Nat} {a1 a2 a3 b1 b2 b3 : Rat} (h1 : Pt u1 a1) (h2 : Pt u2 a2) (h3 : Pt u3 a3) (k1 : Pt v1 b1) (k2 : Pt v2 b2) (k3 : Pt v3 b3) (hb : Num b)
    (h : Ab (a1 * b1 + a2 * b2 + a3 * b3 - val b) (1 / 4294967296)) : nearQ (fadd (fadd (fmul u1 v1) (fmul u2 v2)) (fmul u3 v3)) b q30 = true := by
  obtain ⟨n, e⟩ := dot_ab h1.num h2.num h3.num k1.num k2.num k3.num h1.ab h2.ab h3.ab k1.ab k2.ab k3.ab
  have hh := dot_hat h1.near h2.near h3.near k1.near k2.near k3.near h1.ab h2.ab h3.ab (k1.bnd.mono (by grind)) (k2.bnd.mono (by grind)) (k3.bnd.mono (by grind))
  refine nearQ_true (A := 1 / 2147483648) n hb num_q30 val_q30 (by unfold dl; grind) (by grind) ?_
  unfold dl at *
  unfold Ab at *
  constructor <;> grind

/-- WHAT IS CLAIMED OF A FRAME. -/
theorem Dir.right {x y z s a : Nat} (h : Dir x y z s) (ha : a = fdiv m1w (fadd s z)) {tx ty tz bx bY bz : Nat} (etx : tx = fadd p1w (fmul (fmul (fmul s x) x) a)) (ety : ty = fmul s (fmul (fmul x y) a)) (etz : tz = fsub 0 (fmul s x))
    (ebx : bx = fmul (fmul x y) a) (eby : bY = fadd s (fmul (fmul y y) a)) (ebz : bz = fsub 0 y) :
    nearQ (fadd (fadd (fmul tx tx) (fmul ty ty)) (fmul tz tz)) p1w q30 = true ∧ nearQ (fadd (fadd (fmul bx bx) (fmul bY bY)) (fmul bz bz)) p1w q30 = true ∧ nearQ (fadd (fadd (fmul tx bx) (fmul ty bY)) (fmul tz bz)) 0 q30 = true ∧
    nearQ (fadd (fadd (fmul tx x) (fmul ty y)) (fmul tz z)) 0 q30 = true ∧ nearQ (fadd (fadd (fmul bx x) (fmul bY y)) (fmul bz z)) 0 q30 = true := by
  obtain ⟨p1, p2, p3, p4, p5, p6⟩ := h.parts ha
  rw [← etx] at p1
  rw [← ety] at p2
  rw [← etz] at p3
  rw [← ebx] at p4
  rw [← eby] at p5
  rw [← ebz] at p6
  clear etx ety etz ebx eby ebz
  subst ha
  obtain ⟨ax, ay, az, as⟩ := h.ab
  obtain ⟨_, ba, bf⟩ := h.a_ab
  have hn := h.hn
  have hS := h.hS
  generalize hf : val (fdiv m1w (fadd s z)) * (val s + val z) + 1 = f at *
  generalize hm : val x * val x + val y * val y + val z * val z - 1 = n at *
  have q1 := Pt.self h.hx (ax.mono (by grind))
  have q2 := Pt.self h.hy (ay.mono (by grind))
  have q3 := Pt.self h.hz (az.mono (by grind))
  generalize val (fdiv m1w (fadd s z)) = a at *
  have bsz := as.sub az
  have bQ := (bf.mul ((show Ab (1 : Rat) 1 by constructor <;> grind).add (ba.mul bsz))).add ((ba.mul ba).mul hn)
  have bR := (bsz.mul bf).add (ba.mul hn)
  have bQ2 : Ab (f * (1 + a * (val s - val z)) + a * a * n) (1 / 17179869184) := bQ.mono (by unfold dl; grind)
  have bR2 : Ab ((val s - val z) * f + a * n) (1 / 17179869184) := bR.mono (by unfold dl; grind)
  refine ⟨near_hat p1 p2 p3 p1 p2 p3 num_p1 ?_, near_hat p4 p5 p6 p4 p5 p6 num_p1 ?_, near_hat p1 p2 p3 p4 p5 p6 num_zero ?_, near_hat p1 p2 p3 q1 q2 q3 num_zero ?_, near_hat p4 p5 p6 q1 q2 q3 num_zero ?_⟩
  · rw [val_p1, hat_tt hS hf.symm hm.symm]
    exact ((ax.mul ax).mul bQ2).mono (by grind)
  · rw [val_p1, hat_bb hS hf.symm hm.symm]
    exact ((ay.mul ay).mul bQ2).mono (by grind)
  · rw [val_zero, hat_tb hS hf.symm hm.symm, Rat.sub_eq_add_neg, Rat.neg_zero, Rat.add_zero]
    exact (((ax.mul ay).mul as).mul bQ2).mono (by grind)
  · rw [val_zero, hat_tn hS hf.symm hm.symm, Rat.sub_eq_add_neg, Rat.neg_zero, Rat.add_zero]
    exact ((ax.mul as).mul bR2).mono (by grind)
  · rw [val_zero, hat_bn hS hf.symm hm.symm, Rat.sub_eq_add_neg, Rat.neg_zero, Rat.add_zero]
    exact (ay.mul bR2).mono (by grind)
end Go.Proofs.Ytkcchnepllcghaa.Fl
