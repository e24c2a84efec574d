/- Whether a number is near another one, and what the squares' sum tells of its parts. -/
import Derived.Test.YtnhilikcgfhkbaaFv
namespace Go.Proofs.Ytnhilikcgfhkbaa.Fl

/-- The difference, without its sign, is at most q. -/
def nearQ (a b q : Nat) : Bool :=
  let d := fsub a b
  let e := if ford d 0 == some .lt then fsub 0 d else d
  ford e q == some .lt || ford e q == some .eq

theorem num_zero : Num 0 := ⟨_, _, _, read_zero⟩
theorem val_zero : val 0 = 0 := by decide +kernel

/-- Near enough is near. -/
theorem nearQ_true {a b q : Nat} (ha : Num a) (hb : Num b) (hq : Num q) {A Q : Rat} (hQ : val q = Q) (hA : A + 2 * dl ≤ Q) (h1 : A ≤ 1) (h : Ab (val a - val b) A) : nearQ a b q = true := by
  unfold nearQ
  have hd0 : dl ≤ 1 := by unfold dl; grind
  obtain ⟨hn, hd⟩ := sub_ab ha hb (h.mono (by grind))
  have hz := lt_val hn num_zero
  rw [val_zero] at hz
  simp only [hz]
  by_cases hl : val (fsub a b) < 0
  · simp only [hl, decide_true, if_true]
    have hb2 : Ab (val 0 - val (fsub a b)) (A + dl) := by
      rw [val_zero]
      unfold Ab at *
      grind
    obtain ⟨hn2, hd2⟩ := sub_ab num_zero hn (hb2.mono (by grind))
    rw [le_val hn2 hq, hQ]
    apply decide_eq_true
    unfold Ab at *
    grind
  · simp only [hl, decide_false, Bool.false_eq_true, if_false]
    rw [le_val hn hq, hQ]
    apply decide_eq_true
    unfold Ab at *
    grind

theorem nearest_cases (neg : Bool) (mag : Nat) (place : Int) : Num (F64.nearest neg mag place) ∨ F64.read (F64.nearest neg mag place) = .infinity neg := by
  by_cases h0 : mag = 0
  · left
    subst h0
    have : F64.nearest neg 0 place = F64.word neg 0 := by unfold Ieee.Format.nearest; rw [if_pos rfl]
    rw [this]
    have := read_word neg 0 (by decide)
    exact ⟨_, _, _, this⟩
  · rw [nearest_eq neg mag place h0]
    obtain ⟨b1, b2⟩ := kept_bounds neg mag place h0
    rcases Nat.lt_or_ge ((lastP mag place + 1074).toNat * 4503599627370496 + kept neg mag place) 9218868437227405312 with ho | ho
    · rw [Nat.min_eq_left (Nat.le_of_lt ho)]
      obtain ⟨m, e, he, _⟩ := rung_val neg _ _ b1 b2 ho
      exact Or.inl ⟨_, _, _, he⟩
    · rw [Nat.min_eq_right ho, read_inf]
      exact Or.inr rfl

theorem ord_inf {e q : Nat} (h : F64.read e = .infinity false) (hq : Num q) : ford e q = some .gt := by
  obtain ⟨s, m, i, hq⟩ := hq
  unfold ford Ieee.Format.order
  rw [h, hq]
  rfl

/-- r is small where what it is rounded to is. -/
theorem Nr.small {v r A : Rat} (h : Nr v r) (hv : Ab v A) : Ab r (A + A * (1 / 1024) + 1 / 1125899906842624) := by
  have e1 := eu_eq
  have e2 := et_le
  have hA := hv.nonneg
  rcases Rat.le_total (a := 0) (b := r) with hr | hr
  · have := h.lo r (by grind) Rat.le_refl
    rw [e1] at this
    unfold Ab at *
    constructor <;> grind
  · have := h.hi (-r) (by grind) (by grind)
    rw [e1] at this
    unfold Ab at *
    constructor <;> grind

/-- What is near is a number, and near. -/
theorem nearQ_num {a b q : Nat} (hb : Num b) (hq : Num q) {Q : Rat} (hQ : val q = Q) (h : nearQ a b q = true) : Num a ∧ ∃ v, Ab v (Q + Q * (1 / 1024) + 1 / 1125899906842624) ∧ Nr v (val a - val b) := by
  unfold nearQ at h
  have hnum : Num (fsub a b) := by
    generalize fsub a b = d at h
    have hz : F64.read 0 = .number false 0 (-1074) := read_zero
    cases hd : F64.read d with
    | number s m e => exact ⟨_, _, _, hd⟩
    | nan s f =>
      exfalso
      have hN : isN d = true := by unfold isN; rw [hd]; rfl
      have h0 : ford d 0 = none := ord_nan_left hN 0
      have h1 : ford d q = none := ord_nan_left hN q
      simp [h0, h1] at h
    | infinity s =>
      exfalso
      cases s
      · have h0 : ford d 0 = some .gt := ord_inf hd num_zero
        have h1 : ford d q = some .gt := ord_inf hd hq
        simp [h0, h1] at h
      · have h0 : ford d 0 = some .lt := by unfold ford Ieee.Format.order; rw [hd, hz]; rfl
        have h1 : F64.read (fsub 0 d) = .infinity false := by
          unfold fsub Ieee.Format.sub
          rw [hd, hz]
          have : F64.read (F64.word false 9218868437227405312) = .infinity false := read_inf false
          simp only [Ieee.Datum.opposite, Ieee.Datum.sum, Option.map_some, Option.getD_some, Ieee.Format.write, ir, Bool.not_true]
          exact this
        have h2 : ford (fsub 0 d) q = some .gt := ord_inf h1 hq
        simp [h0, h2] at h
  have ha := (num_of_sub hnum).1
  refine ⟨ha, val (fsub a b), ?_, fsub_val ha hb hnum⟩
  have hz := lt_val hnum num_zero
  rw [val_zero] at hz
  simp only [hz] at h
  by_cases hl : val (fsub a b) < 0
  · simp only [hl, decide_true, if_true] at h
    obtain ⟨neg, mag, place, e, hv⟩ := sub_near num_zero hnum
    have hneg : neg = false := by
      cases neg
      · rfl
      · exfalso
        rw [dval_number, val_zero] at hv
        have := mag_nonneg mag place
        simp only [sg, if_true] at hv
        grind
    subst hneg
    have hn2 : Num (fsub 0 (fsub a b)) := by
      rcases nearest_cases false mag place with hc | hc
      · rw [e]; exact hc
      · exfalso
        rw [← e] at hc
        rw [ord_inf hc hq] at h
        simp at h
    have hnr := fsub_val num_zero hnum hn2
    rw [le_val hn2 hq, hQ] at h
    have hle := of_decide_eq_true h
    rw [val_zero] at hnr
    have hpos : 0 ≤ val (fsub 0 (fsub a b)) := by
      obtain ⟨V, hV, h0, _⟩ := nearest_val false mag place (by rw [← e]; exact hn2)
      rw [e, hV]
      exact h0
    have := hnr.small (A := Q) ⟨by grind, hle⟩
    unfold Ab at *
    constructor <;> grind
  · simp only [hl, decide_false, Bool.false_eq_true, if_false] at h
    rw [le_val hnum hq, hQ] at h
    have hle := of_decide_eq_true h
    constructor <;> grind

/-- The parts of a vector whose square is nearly 1. -/
theorem square_parts {x y z : Nat} {u : Rat} (hd : Num (fadd (fadd (fmul x x) (fmul y y)) (fmul z z))) (hu : Ab (val (fadd (fadd (fmul x x) (fmul y y)) (fmul z z)) - 1) u) (h1 : u ≤ 1) :
    Num x ∧ Num y ∧ Num z ∧ Ab (val x * val x + val y * val y + val z * val z - 1) (u + 1 / 281474976710656) := by
  obtain ⟨hg, hzz⟩ := num_of_add hd
  obtain ⟨hxx, hyy⟩ := num_of_add hg
  have hx := num_of_square hxx
  have hy := num_of_square hyy
  have hz := num_of_square hzz
  refine ⟨hx, hy, hz, ?_⟩
  have e1 := eu_eq
  have e2 := et_le
  have e3 := et_pos
  have nx := sq_nonneg (val x)
  have ny := sq_nonneg (val y)
  have nz := sq_nonneg (val z)
  have rx := fmul_val hx hx hxx
  have ry := fmul_val hy hy hyy
  have rz := fmul_val hz hz hzz
  have rg := fadd_val hxx hyy hg
  have rd := fadd_val hg hzz hd
  generalize val (fadd (fadd (fmul x x) (fmul y y)) (fmul z z)) = D at *
  generalize val (fadd (fmul x x) (fmul y y)) = G at *
  generalize val (fmul x x) = XX at *
  generalize val (fmul y y) = YY at *
  generalize val (fmul z z) = ZZ at *
  generalize val x * val x = X at *
  generalize val y * val y = Y at *
  generalize val z * val z = Z at *
  have x1 := rx.lo X (by grind) Rat.le_refl
  have x2 := rx.hi X (by grind) Rat.le_refl
  have y1 := ry.lo Y (by grind) Rat.le_refl
  have y2 := ry.hi Y (by grind) Rat.le_refl
  have z1 := rz.lo Z (by grind) Rat.le_refl
  have z2 := rz.hi Z (by grind) Rat.le_refl
  rw [e1] at x1 x2 y1 y2 z1 z2
  have g1 := rg.lo (XX + YY + 4 * et) (by grind) (by grind)
  have g2 := rg.hi (XX + YY + 4 * et) (by grind) (by grind)
  rw [e1] at g1 g2
  have d1 := rd.lo (G + ZZ + 16 * et) (by grind) (by grind)
  have d2 := rd.hi (G + ZZ + 16 * et) (by grind) (by grind)
  rw [e1] at d1 d2
  unfold Ab at *
  constructor <;> grind
end Go.Proofs.Ytnhilikcgfhkbaa.Fl
