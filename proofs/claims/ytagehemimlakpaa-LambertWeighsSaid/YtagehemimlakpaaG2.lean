/- Whether a number is near another one, and what the squares' sum tells of its parts. Rounding keeps order. Rounding keeps order: of written words, of differences, of products. Square roots of floats, as rational numbers: the root's square is near what it is the root of. Products keep order, infinite ones too. Lesser and greater ones of floats. -/
import Derived.Test.YtagehemimlakpaaG1
namespace Go.Proofs.Ytagehemimlakpaa.Fl

/-- The difference, without its sign, is at most q. -/
def nearQ (a b q : Nat) : Bool :=
  let d := fsub a b
  let e := if ford d 0 == some .lt then fsub 0 d else d
  ford e q == some .lt || ford e q == some .eq

theorem num_zero : Num 0 := ⟨_, _, _, read_zero⟩
theorem val_zero : val 0 = 0 := by decide +kernel

/-- Near enough is near. -/
theorem nearQ_true {a b q : Nat} (ha : Num a) (hb : Num b) (hq : Num q) {A Q : Rat} (hQ : val q = Q) (hA : A + 2 * dl ≤ Q) (h1 : A ≤ 1) (h : Ab (val a - val b) A) : nearQ a b q = true := by
  unfold nearQ
  have hd0 : dl ≤ 1 := by unfold dl; grind
  obtain ⟨hn, hd⟩ := sub_ab ha hb (h.mono (by grind))
  have hz := lt_val hn num_zero
  rw [val_zero] at hz
  simp only [hz]
  by_cases hl : val (fsub a b) < 0
  · simp only [hl, decide_true, if_true]
    have hb2 : Ab (val 0 - val (fsub a b)) (A + dl) := by
      rw [val_zero]
      unfold Ab at *
      grind
    obtain ⟨hn2, hd2⟩ := sub_ab num_zero hn (hb2.mono (by grind))
    rw [le_val hn2 hq, hQ]
    apply decide_eq_true
    unfold Ab at *
    grind
  · simp only [hl, decide_false, Bool.false_eq_true, if_false]
    rw [le_val hn hq, hQ]
    apply decide_eq_true
    unfold Ab at *
    grind

theorem nearest_cases (neg : Bool) (mag : Nat) (place : Int) : Num (F64.nearest neg mag place) ∨ F64.read (F64.nearest neg mag place) = .infinity neg := by
  by_cases h0 : mag = 0
  · left
    subst h0
    have : F64.nearest neg 0 place = F64.word neg 0 := by unfold Ieee.Format.nearest; rw [if_pos rfl]
    rw [this]
    have := read_word neg 0 (by decide)
    exact ⟨_, _, _, this⟩
  · rw [nearest_eq neg mag place h0]
    obtain ⟨b1, b2⟩ := kept_bounds neg mag place h0
    rcases Nat.lt_or_ge ((lastP mag place + 1074).toNat * 4503599627370496 + kept neg mag place) 9218868437227405312 with ho | ho
    · rw [Nat.min_eq_left (Nat.le_of_lt ho)]
      obtain ⟨m, e, he, _⟩ := rung_val neg _ _ b1 b2 ho
      exact Or.inl ⟨_, _, _, he⟩
    · rw [Nat.min_eq_right ho, read_inf]
      exact Or.inr rfl

theorem ord_inf {e q : Nat} (h : F64.read e = .infinity false) (hq : Num q) : ford e q = some .gt := by
  obtain ⟨s, m, i, hq⟩ := hq
  unfold ford Ieee.Format.order
  rw [h, hq]
  rfl

/-- r is small where what it is rounded to is. -/
theorem Nr.small {v r A : Rat} (h : Nr v r) (hv : Ab v A) : Ab r (A + A * (1 / 1024) + 1 / 1125899906842624) := by
  have e1 := eu_eq
  have e2 := et_le
  have hA := hv.nonneg
  rcases Rat.le_total (a := 0) (b := r) with hr | hr
  · have := h.lo r (by grind) Rat.le_refl
    rw [e1] at this
    unfold Ab at *
    constructor <;> grind
  · have := h.hi (-r) (by grind) (by grind)
    rw [e1] at this
    unfold Ab at *
    constructor <;> grind

/-- What is near is a number, and near. -/
theorem nearQ_num {a b q : Nat} (hb : Num b) (hq : Num q) {Q : Rat} (hQ : val q = Q) (h : nearQ a b q = true) : Num a ∧ ∃ v, Ab v (Q + Q * (1 / 1024) + 1 / 1125899906842624) ∧ Nr v (val a - val b) := by
  unfold nearQ at h
  have hnum : Num (fsub a b) := by
    generalize fsub a b = d at h
    have hz : F64.read 0 = .number false 0 (-1074) := read_zero
    cases hd : F64.read d with
    | number s m e => exact ⟨_, _, _, hd⟩
    | nan s f =>
      exfalso
      have hN : isN d = true := by unfold isN; rw [hd]; rfl
      have h0 : ford d 0 = none := ord_nan_left hN 0
      have h1 : ford d q = none := ord_nan_left hN q
      simp [h0, h1] at h
    | infinity s =>
      exfalso
      cases s
      · have h0 : ford d 0 = some .gt := ord_inf hd num_zero
        have h1 : ford d q = some .gt := ord_inf hd hq
        simp [h0, h1] at h
      · have h0 : ford d 0 = some .lt := by unfold ford Ieee.Format.order; rw [hd, hz]; rfl
        have h1 : F64.read (fsub 0 d) = .infinity false := by
          unfold fsub Ieee.Format.sub
          rw [hd, hz]
          have : F64.read (F64.word false 9218868437227405312) = .infinity false := read_inf false
          simp only [Ieee.Datum.opposite, Ieee.Datum.sum, Option.map_some, Option.getD_some, Ieee.Format.write, ir, Bool.not_true]
          exact this
        have h2 : ford (fsub 0 d) q = some .gt := ord_inf h1 hq
        simp [h0, h2] at h
  have ha := (num_of_sub hnum).1
  refine ⟨ha, val (fsub a b), ?_, fsub_val ha hb hnum⟩
  have hz := lt_val hnum num_zero
  rw [val_zero] at hz
  simp only [hz] at h
  by_cases hl : val (fsub a b) < 0
  · simp only [hl, decide_true, if_true] at h
    obtain ⟨neg, mag, place, e, hv⟩ := sub_near num_zero hnum
    have hneg : neg = false := by
      cases neg
      · rfl
      · exfalso
        rw [dval_number, val_zero] at hv
        have := mag_nonneg mag place
        simp only [sg, if_true] at hv
        grind
    subst hneg
    have hn2 : Num (fsub 0 (fsub a b)) := by
      rcases nearest_cases false mag place with hc | hc
      · rw [e]; exact hc
      · exfalso
        rw [← e] at hc
        rw [ord_inf hc hq] at h
        simp at h
    have hnr := fsub_val num_zero hnum hn2
    rw [le_val hn2 hq, hQ] at h
    have hle := of_decide_eq_true h
    rw [val_zero] at hnr
    have hpos : 0 ≤ val (fsub 0 (fsub a b)) := by
      obtain ⟨V, hV, h0, _⟩ := nearest_val false mag place (by rw [← e]; exact hn2)
      rw [e, hV]
      exact h0
    have := hnr.small (A := Q) ⟨by grind, hle⟩
    unfold Ab at *
    constructor <;> grind
  · simp only [hl, decide_false, Bool.false_eq_true, if_false] at h
    rw [le_val hnum hq, hQ] at h
    have hle := of_decide_eq_true h
    constructor <;> grind

/-- The parts of a vector whose square is nearly 1. -/
theorem square_parts {x y z : Nat} {u : Rat} (hd : Num (fadd (fadd (fmul x x) (fmul y y)) (fmul z z))) (hu : Ab (val (fadd (fadd (fmul x x) (fmul y y)) (fmul z z)) - 1) u) (h1 : u ≤ 1) :
    Num x ∧ Num y ∧ Num z ∧ Ab (val x * val x + val y * val y + val z * val z - 1) (u + 1 / 281474976710656) := by
  obtain ⟨hg, hzz⟩ := num_of_add hd
  obtain ⟨hxx, hyy⟩ := num_of_add hg
  have hx := num_of_square hxx
  have hy := num_of_square hyy
  have hz := num_of_square hzz
  refine ⟨hx, hy, hz, ?_⟩
  have e1 := eu_eq
  have e2 := et_le
  have e3 := et_pos
  have nx := sq_nonneg (val x)
  have ny := sq_nonneg (val y)
  have nz := sq_nonneg (val z)
  have rx := fmul_val hx hx hxx
  have ry := fmul_val hy hy hyy
  have rz := fmul_val hz hz hzz
  have rg := fadd_val hxx hyy hg
  have rd := fadd_val hg hzz hd
  generalize val (fadd (fadd (fmul x x) (fmul y y)) (fmul z z)) = D at *
  generalize val (fadd (fmul x x) (fmul y y)) = G at *
  generalize val (fmul x x) = XX at *
  generalize val (fmul y y) = YY at *
  generalize val (fmul z z) = ZZ at *
  generalize val x * val x = X at *
  generalize val y * val y = Y at *
  generalize val z * val z = Z at *
  have x1 := rx.lo X (by grind) Rat.le_refl
  have x2 := rx.hi X (by grind) Rat.le_refl
  have y1 := ry.lo Y (by grind) Rat.le_refl
  have y2 := ry.hi Y (by grind) Rat.le_refl
  have z1 := rz.lo Z (by grind) Rat.le_refl
  have z2 := rz.hi Z (by grind) Rat.le_refl
  rw [e1] at x1 x2 y1 y2 z1 z2
  have g1 := rg.lo (XX + YY + 4 * et) (by grind) (by grind)
  have g2 := rg.hi (XX + YY + 4 * et) (by grind) (by grind)
  rw [e1] at g1 g2
  have d1 := rd.lo (G + ZZ + 16 * et) (by grind) (by grind)
  have d2 := rd.hi (G + ZZ + 16 * et) (by grind) (by grind)
  rw [e1] at d1 d2
  unfold Ab at *
  constructor <;> grind
end Go.Proofs.Ytagehemimlakpaa.Fl

namespace Go.Proofs.Ytagehemimlakpaa.Fl

/-- Between two, the even one. -/
theorem cut_even (neg : Bool) (n drop : Nat) (h : 2 * n = 2 * (Ieee.Toward.even.cut neg n drop * 2 ^ drop) + 2 ^ drop ∨ 2 * (Ieee.Toward.even.cut neg n drop * 2 ^ drop) = 2 * n + 2 ^ drop) : Ieee.Toward.even.cut neg n drop % 2 = 0 := by
  unfold Ieee.Toward.cut at *
  simp only [Nat.one_shiftLeft] at *
  rcases Nat.lt_or_ge (n.log2 + 2) drop with hd | hd
  · rw [Nat.min_eq_right (Nat.le_of_lt hd)] at *
    have h1 : n < 2 ^ (n.log2 + 1) := Nat.lt_log2_self
    have h2 : 2 ^ (n.log2 + 2) = 2 * 2 ^ (n.log2 + 1) := by rw [Nat.pow_succ 2 (n.log2 + 1), Nat.mul_comm]
    have h4 : n / 2 ^ (n.log2 + 2) = 0 := Nat.div_eq_of_lt (by omega)
    have h5 : n % 2 ^ (n.log2 + 2) = n := Nat.mod_eq_of_lt (by omega)
    rw [h4, h5]
    have h6 : decide (2 ^ (n.log2 + 2) < 2 * n) = false := by simp; omega
    have h7 : (2 ^ (n.log2 + 2) == 2 * n) = false := by simp; omega
    rw [h6, h7]
    rfl
  · rw [Nat.min_eq_left hd] at *
    have h1 := Nat.div_add_mod n (2 ^ drop)
    have h2 := Nat.mod_lt n (Nat.two_pow_pos drop)
    generalize n / 2 ^ drop = low at *
    generalize n % 2 ^ drop = rest at *
    generalize 2 ^ drop = gap at *
    rw [Nat.add_mul, Nat.mul_comm low gap] at h
    generalize hg : gap * low = g at *
    by_cases h3 : gap < 2 * rest
    · simp [h3] at h; omega
    · by_cases h4 : gap = 2 * rest
      · by_cases h5 : low % 2 = 1
        · simp [h4, h5]; omega
        · have h7 : (low % 2 == 1) = false := by simpa using h5
          simp [h4, h7]; omega
      · have h6 : (gap == 2 * rest) = false := by simpa using h4
        simp [h3, h6] at h; omega

/-- Where the tie lies, as a number: what is kept is even. -/
theorem kept_even (neg : Bool) (mag : Nat) (place : Int)
    (h : 2 * ((mag : Rat) * 2 ^ place) = 2 * ((kept neg mag place : Rat) * 2 ^ lastP mag place) + 2 ^ lastP mag place ∨ 2 * ((kept neg mag place : Rat) * 2 ^ lastP mag place) = 2 * ((mag : Rat) * 2 ^ place) + 2 ^ lastP mag place) : kept neg mag place % 2 = 0 := by
  unfold kept at *
  apply cut_even
  generalize Ieee.Toward.even.cut neg _ _ = k at *
  rw [Nat.shiftLeft_eq]
  generalize lastP mag place = last at *
  generalize hu : (place - last).toNat = up at *
  generalize hd : (last - place).toNat = drop at *
  have hL := p2_pos last
  have key : (2 : Rat) ^ (up : Int) * 2 ^ last = 2 ^ place * 2 ^ (drop : Int) := by
    rw [← p2_add, ← p2_add]
    congr 1
    omega
  have hne : (2 : Rat) ^ last ≠ 0 := by grind
  have cancel : ∀ a b : Rat, a * 2 ^ last = b * 2 ^ last → a = b := by
    intro a b hab
    have e1 : a * 2 ^ last * (2 ^ last)⁻¹ = b * 2 ^ last * (2 ^ last)⁻¹ := by rw [hab]
    rwa [Rat.mul_assoc, Rat.mul_assoc, Rat.mul_inv_cancel _ hne, Rat.mul_one, Rat.mul_one] at e1
  rcases h with h | h
  · left
    have : (2 : Rat) * (mag * 2 ^ (up : Int)) = 2 * (k * 2 ^ (drop : Int)) + 2 ^ (drop : Int) := by
      apply cancel
      generalize (2 : Rat) ^ (drop : Int) = D at *
      generalize (2 : Rat) ^ last = L at *
      generalize (2 : Rat) ^ place = P at *
      generalize (2 : Rat) ^ (up : Int) = U at *
      grind
    rw [p2_nat, p2_nat] at this
    exact_mod_cast this
  · right
    have : (2 : Rat) * (k * 2 ^ (drop : Int)) = 2 * (mag * 2 ^ (up : Int)) + 2 ^ (drop : Int) := by
      apply cancel
      generalize (2 : Rat) ^ (drop : Int) = D at *
      generalize (2 : Rat) ^ last = L at *
      generalize (2 : Rat) ^ place = P at *
      generalize (2 : Rat) ^ (up : Int) = U at *
      grind
    rw [p2_nat, p2_nat] at this
    exact_mod_cast this

theorem last_mono {m1 m2 : Nat} {p1 p2 : Int} (h1 : m1 ≠ 0) (_ : m2 ≠ 0) (h : (m1 : Rat) * 2 ^ p1 ≤ m2 * 2 ^ p2) : lastP m1 p1 ≤ lastP m2 p2 := by
  have : p1 + m1.log2 ≤ p2 + m2.log2 := by
    by_cases hg : p1 + m1.log2 ≤ p2 + m2.log2
    · exact hg
    · exfalso
      have l1 : ((2 ^ m1.log2 : Nat) : Rat) ≤ m1 := by exact_mod_cast Nat.log2_self_le h1
      have l2 : ((m2 : Nat) : Rat) < ((2 ^ (m2.log2 + 1) : Nat) : Rat) := by exact_mod_cast (Nat.lt_log2_self : m2 < 2 ^ (m2.log2 + 1))
      rw [← p2_nat] at l1 l2
      have k1 := Rat.mul_le_mul_of_nonneg_left l1 (Rat.le_of_lt (p2_pos p1))
      have k2 := Rat.mul_lt_mul_of_pos_left l2 (p2_pos p2)
      rw [← p2_add] at k1 k2
      have k3 := p2_le (show p2 + ((m2.log2 + 1 : Nat) : Int) ≤ p1 + m1.log2 by omega)
      grind
  unfold lastP
  omega

/-- What is kept keeps order, at one place. -/
theorem kept_mono {n1 n2 : Bool} {m1 m2 : Nat} {p1 p2 : Int} (hl : lastP m1 p1 = lastP m2 p2) (h : (m1 : Rat) * 2 ^ p1 ≤ m2 * 2 ^ p2) : kept n1 m1 p1 ≤ kept n2 m2 p2 := by
  obtain ⟨a1, a2⟩ := kept_val n1 m1 p1
  obtain ⟨b1, b2⟩ := kept_val n2 m2 p2
  have ea := kept_even n1 m1 p1
  have eb := kept_even n2 m2 p2
  rw [← hl] at b1 b2 eb
  have hL := p2_pos (lastP m1 p1)
  generalize (2 : Rat) ^ lastP m1 p1 = L at *
  generalize kept n1 m1 p1 = k1 at *
  generalize kept n2 m2 p2 = k2 at *
  generalize (m1 : Rat) * 2 ^ p1 = R1 at *
  generalize (m2 : Rat) * 2 ^ p2 = R2 at *
  rcases Nat.lt_or_ge k2 k1 with hk | hk
  · exfalso
    have hk2 : (k2 : Rat) + 1 ≤ k1 := by exact_mod_cast hk
    have c := Rat.mul_le_mul_of_nonneg_right hk2 (Rat.le_of_lt hL)
    have c2 : ((k2 : Rat) + 1) * L = k2 * L + L := by grind
    rw [c2] at c
    have e1 := ea (Or.inr (by grind))
    have e2 := eb (Or.inl (by grind))
    have hk1 : (k1 : Rat) * L = (k2 + 1) * L := by grind
    have hne : L ≠ 0 := by grind
    have : (k1 : Rat) = k2 + 1 := by
      have e3 : (k1 : Rat) * L * L⁻¹ = (k2 + 1) * L * L⁻¹ := by rw [hk1]
      rwa [Rat.mul_assoc, Rat.mul_assoc, Rat.mul_inv_cancel _ hne, Rat.mul_one, Rat.mul_one] at e3
    have : k1 = k2 + 1 := by exact_mod_cast this
    omega
  · exact hk
end Go.Proofs.Ytagehemimlakpaa.Fl

namespace Go.Proofs.Ytagehemimlakpaa.Fl

/-- Not above. -/
def leB (x y : Nat) : Bool := ford x y == some .lt || ford x y == some .eq

theorem leB_val {x y : Nat} (hx : Num x) (hy : Num y) : leB x y = decide (val x ≤ val y) := le_val hx hy

theorem leB_low {x y : Nat} (hx : F64.read x = .infinity true) (hy : isN y = false) : leB x y = true := by
  unfold leB ford Ieee.Format.order
  unfold isN at hy
  rw [hx]
  generalize F64.read y = d at *
  cases d with
  | number s m e => rfl
  | infinity s => cases s <;> rfl
  | nan s f => cases hy
theorem leB_high {x y : Nat} (hy : F64.read y = .infinity false) (hx : isN x = false) : leB x y = true := by
  unfold leB ford Ieee.Format.order
  unfold isN at hx
  rw [hy]
  generalize F64.read x = d at *
  cases d with
  | number s m e => rfl
  | infinity s => cases s <;> rfl
  | nan s f => cases hx

abbrev rungOf (neg : Bool) (mag : Nat) (place : Int) : Nat := (lastP mag place + 1074).toNat * 4503599627370496 + kept neg mag place

theorem rung_mono {n1 n2 : Bool} {m1 m2 : Nat} {p1 p2 : Int} (h1 : m1 ≠ 0) (h2 : m2 ≠ 0) (h : (m1 : Rat) * 2 ^ p1 ≤ m2 * 2 ^ p2) :
    rungOf n1 m1 p1 ≤ rungOf n2 m2 p2 ∧ (kept n1 m1 p1 : Rat) * 2 ^ lastP m1 p1 ≤ kept n2 m2 p2 * 2 ^ lastP m2 p2 := by
  have hl := last_mono h1 h2 h
  obtain ⟨b1, _⟩ := kept_bounds n1 m1 p1 h1
  obtain ⟨_, c2⟩ := kept_bounds n2 m2 p2 h2
  have g1 : -1074 ≤ lastP m1 p1 := by unfold lastP; omega
  unfold rungOf
  rcases Int.lt_or_eq_of_le hl with hlt | heq
  · have hk : 4503599627370496 ≤ kept n2 m2 p2 := by rcases c2 with c2 | c2 <;> omega
    refine ⟨by omega, ?_⟩
    have e1 : (kept n1 m1 p1 : Rat) ≤ 9007199254740992 := by exact_mod_cast b1
    have e2 : (4503599627370496 : Rat) ≤ kept n2 m2 p2 := by exact_mod_cast hk
    have q := p2_le (show lastP m1 p1 + 1 ≤ lastP m2 p2 by omega)
    have q1 : (2 : Rat) ^ (lastP m1 p1 + 1) = 2 ^ lastP m1 p1 * 2 := by rw [p2_add]; congr 1
    rw [q1] at q
    have hp1 := p2_pos (lastP m1 p1)
    have hp2 := p2_pos (lastP m2 p2)
    have f1 := Rat.mul_le_mul_of_nonneg_right e1 (Rat.le_of_lt hp1)
    have f2 := Rat.mul_le_mul_of_nonneg_right e2 (Rat.le_of_lt hp2)
    grind
  · have hk := kept_mono (n1 := n1) (n2 := n2) heq h
    refine ⟨by omega, ?_⟩
    rw [heq]
    exact Rat.mul_le_mul_of_nonneg_right (by exact_mod_cast hk) (Rat.le_of_lt (p2_pos _))

/-- What a written word is: what is kept, or infinite. -/
theorem nearest_is (neg : Bool) {mag : Nat} {place : Int} (h : mag ≠ 0) :
    (rungOf neg mag place < 9218868437227405312 ∧ Num (F64.nearest neg mag place) ∧ val (F64.nearest neg mag place) = sg neg (kept neg mag place * 2 ^ lastP mag place)) ∨
    (9218868437227405312 ≤ rungOf neg mag place ∧ F64.read (F64.nearest neg mag place) = .infinity neg) := by
  rw [nearest_eq neg mag place h]
  obtain ⟨b1, b2⟩ := kept_bounds neg mag place h
  have hE : ((lastP mag place + 1074).toNat : Int) - 1074 = lastP mag place := by unfold lastP; omega
  rcases Nat.lt_or_ge (rungOf neg mag place) 9218868437227405312 with ho | ho
  · left
    refine ⟨ho, ?_⟩
    rw [Nat.min_eq_left (Nat.le_of_lt ho)]
    obtain ⟨m, e, he, hv⟩ := rung_val neg _ _ b1 b2 ho
    rw [hE] at hv
    refine ⟨⟨_, _, _, he⟩, ?_⟩
    unfold val
    rw [he, dval_number, hv]
  · right
    refine ⟨ho, ?_⟩
    rw [Nat.min_eq_right ho, read_inf]

theorem nearest_zero (neg : Bool) (place : Int) : Num (F64.nearest neg 0 place) ∧ val (F64.nearest neg 0 place) = 0 := by
  have : F64.nearest neg 0 place = F64.word neg 0 := by unfold Ieee.Format.nearest; rw [if_pos rfl]
  rw [this]
  have := read_word neg 0 (by decide)
  rw [if_pos (by decide)] at this
  refine ⟨⟨_, _, _, this⟩, ?_⟩
  unfold val
  rw [this, dval_number]
  have : ((0 : Nat) : Rat) * 2 ^ (-1074 : Int) = 0 := Rat.zero_mul _
  rw [this]
  cases neg <;> simp [sg]

theorem not_nan_num {x : Nat} (h : Num x) : isN x = false := by
  obtain ⟨s, m, e, h⟩ := h
  unfold isN
  rw [h]
  rfl
theorem not_nan_inf {x : Nat} {s : Bool} (h : F64.read x = .infinity s) : isN x = false := by
  unfold isN
  rw [h]
  rfl
theorem nearest_not_nan (neg : Bool) (mag : Nat) (place : Int) : isN (F64.nearest neg mag place) = false := by
  rcases nearest_cases neg mag place with h | h
  · exact not_nan_num h
  · exact not_nan_inf h

/-- ROUNDING KEEPS ORDER. -/
theorem nearest_mono {n1 n2 : Bool} {m1 m2 : Nat} {p1 p2 : Int} (h : dval (.number n1 m1 p1) ≤ dval (.number n2 m2 p2)) : leB (F64.nearest n1 m1 p1) (F64.nearest n2 m2 p2) = true := by
  rw [dval_number, dval_number] at h
  have r1 := mag_nonneg m1 p1
  have r2 := mag_nonneg m2 p2
  have zero_of : ∀ (m : Nat) (p : Int), (m : Rat) * 2 ^ p = 0 → m = 0 := by
    intro m p h0
    by_cases hm : m = 0
    · exact hm
    · exfalso
      have : (0 : Rat) < m := by exact_mod_cast Nat.pos_of_ne_zero hm
      have := Rat.mul_pos this (p2_pos p)
      grind
  have kp : ∀ (n : Bool) (m : Nat) (p : Int), (0 : Rat) ≤ kept n m p * 2 ^ lastP m p := fun n m p => mag_nonneg _ _
  by_cases z1 : m1 = 0
  · subst z1
    obtain ⟨a1, v1⟩ := nearest_zero n1 p1
    have e1 : ((0 : Nat) : Rat) * 2 ^ p1 = 0 := Rat.zero_mul _
    by_cases z2 : m2 = 0
    · subst z2
      obtain ⟨a2, v2⟩ := nearest_zero n2 p2
      rw [leB_val a1 a2, v1, v2]
      exact decide_eq_true Rat.le_refl
    · have hn2 : n2 = false := by
        cases n2
        · rfl
        · exfalso
          rw [e1] at h
          have : (m2 : Rat) * 2 ^ p2 = 0 := by cases n1 <;> simp only [sg, if_true, Bool.false_eq_true, if_false] at h <;> grind
          exact z2 (zero_of _ _ this)
      subst hn2
      rcases nearest_is false (place := p2) z2 with ⟨_, a2, v2⟩ | ⟨_, i2⟩
      · rw [leB_val a1 a2, v1, v2]
        exact decide_eq_true (kp _ _ _)
      · exact leB_high i2 (not_nan_num a1)
  · by_cases z2 : m2 = 0
    · subst z2
      obtain ⟨a2, v2⟩ := nearest_zero n2 p2
      have e2 : ((0 : Nat) : Rat) * 2 ^ p2 = 0 := Rat.zero_mul _
      have hn1 : n1 = true := by
        cases n1
        · exfalso
          rw [e2] at h
          have : (m1 : Rat) * 2 ^ p1 = 0 := by cases n2 <;> simp only [sg, if_true, Bool.false_eq_true, if_false] at h <;> grind
          exact z1 (zero_of _ _ this)
        · rfl
      subst hn1
      rcases nearest_is true (place := p1) z1 with ⟨_, a1, v1⟩ | ⟨_, i1⟩
      · rw [leB_val a1 a2, v1, v2]
        have := kp true m1 p1
        exact decide_eq_true (by simp only [sg, if_true]; grind)
      · exact leB_low i1 (not_nan_num a2)
    · cases n1
      · have hn2 : n2 = false := by
          cases n2
          · rfl
          · exfalso
            simp only [sg, if_true, Bool.false_eq_true, if_false] at h
            exact z1 (zero_of m1 p1 (by grind))
        subst hn2
        simp only [sg, Bool.false_eq_true, if_false] at h
        obtain ⟨hr, hv⟩ := rung_mono (n1 := false) (n2 := false) z1 z2 h
        rcases nearest_is false (place := p2) z2 with ⟨o2, a2, v2⟩ | ⟨_, i2⟩
        · rcases nearest_is false (place := p1) z1 with ⟨_, a1, v1⟩ | ⟨o1, _⟩
          · rw [leB_val a1 a2, v1, v2]
            exact decide_eq_true hv
          · omega
        · exact leB_high i2 (nearest_not_nan _ _ _)
      · cases n2
        · rcases nearest_is true (place := p1) z1 with ⟨_, a1, v1⟩ | ⟨_, i1⟩
          · rcases nearest_is false (place := p2) z2 with ⟨_, a2, v2⟩ | ⟨_, i2⟩
            · rw [leB_val a1 a2, v1, v2]
              have q1 := kp true m1 p1
              have q2 := kp false m2 p2
              exact decide_eq_true (by simp only [sg, if_true, Bool.false_eq_true, if_false]; grind)
            · exact leB_high i2 (nearest_not_nan _ _ _)
          · exact leB_low i1 (nearest_not_nan _ _ _)
        · simp only [sg, if_true] at h
          obtain ⟨hr, hv⟩ := rung_mono (n1 := true) (n2 := true) z2 z1 (show (m2 : Rat) * 2 ^ p2 ≤ m1 * 2 ^ p1 by grind)
          rcases nearest_is true (place := p1) z1 with ⟨o1, a1, v1⟩ | ⟨_, i1⟩
          · rcases nearest_is true (place := p2) z2 with ⟨_, a2, v2⟩ | ⟨o2, _⟩
            · rw [leB_val a1 a2, v1, v2]
              exact decide_eq_true (by simp only [sg, if_true]; grind)
            · omega
          · exact leB_low i1 (nearest_not_nan _ _ _)

theorem add_mono {x y u v : Nat} (hx : Num x) (hy : Num y) (hu : Num u) (hv : Num v) (h : val x + val y ≤ val u + val v) : leB (fadd x y) (fadd u v) = true := by
  obtain ⟨n1, m1, p1, e1, v1⟩ := add_near hx hy
  obtain ⟨n2, m2, p2, e2, v2⟩ := add_near hu hv
  rw [e1, e2]
  exact nearest_mono (by rw [v1, v2]; exact h)
theorem sub_mono {x y u v : Nat} (hx : Num x) (hy : Num y) (hu : Num u) (hv : Num v) (h : val x - val y ≤ val u - val v) : leB (fsub x y) (fsub u v) = true := by
  obtain ⟨n1, m1, p1, e1, v1⟩ := sub_near hx hy
  obtain ⟨n2, m2, p2, e2, v2⟩ := sub_near hu hv
  rw [e1, e2]
  exact nearest_mono (by rw [v1, v2]; exact h)
theorem mul_mono {x y u v : Nat} (hx : Num x) (hy : Num y) (hu : Num u) (hv : Num v) (h : val x * val y ≤ val u * val v) : leB (fmul x y) (fmul u v) = true := by
  obtain ⟨n1, m1, p1, e1, v1⟩ := mul_near hx hy
  obtain ⟨n2, m2, p2, e2, v2⟩ := mul_near hu hv
  rw [e1, e2]
  exact nearest_mono (by rw [v1, v2]; exact h)
end Go.Proofs.Ytagehemimlakpaa.Fl

namespace Go.Proofs.Ytagehemimlakpaa.Fl

theorem root_spec (n : Nat) : ∀ (todo root : Nat), root * root ≤ n → n < (root + 2 ^ todo) * (root + 2 ^ todo) →
    Ieee.Datum.rootFrom n todo root * Ieee.Datum.rootFrom n todo root ≤ n ∧ n < (Ieee.Datum.rootFrom n todo root + 1) * (Ieee.Datum.rootFrom n todo root + 1)
  | 0, root, h1, h2 => by simp only [Ieee.Datum.rootFrom]; exact ⟨h1, by simpa using h2⟩
  | todo + 1, root, h1, h2 => by
    simp only [Ieee.Datum.rootFrom, Nat.one_shiftLeft]
    split
    · rename_i h
      refine root_spec n todo _ h ?_
      rw [show root + 2 ^ todo + 2 ^ todo = root + 2 ^ (todo + 1) by rw [Nat.pow_succ]; omega]
      exact h2
    · rename_i h
      exact root_spec n todo _ h1 (by omega)
theorem root_is (n : Nat) : ∃ w, w = Ieee.Datum.rootFrom n (n.log2 / 2 + 1) 0 ∧ w * w ≤ n ∧ n < (w + 1) * (w + 1) := by
  refine ⟨_, rfl, root_spec n _ 0 (Nat.zero_le _) ?_⟩
  rw [Nat.zero_add, ← Nat.pow_add]
  have h1 : n < 2 ^ (n.log2 + 1) := Nat.lt_log2_self
  have h2 : 2 ^ (n.log2 + 1) ≤ 2 ^ (n.log2 / 2 + 1 + (n.log2 / 2 + 1)) := Nat.pow_le_pow_right (by decide) (by omega)
  omega
/-- Twice the root and a bit: its square beside four times n. -/
theorem twice_root {n w s : Nat} (h1 : w * w ≤ n) (h2 : n < (w + 1) * (w + 1)) (hs : s = (w * w != n).toNat) : (2 * w + s) * (2 * w + s) ≤ 4 * n + 4 * w ∧ 4 * n ≤ (2 * w + s) * (2 * w + s) + 4 * w := by
  have e1 : (w + 1) * (w + 1) = w * w + 2 * w + 1 := by grind
  rw [e1] at h2
  by_cases h : w * w = n
  · have : s = 0 := by rw [hs, h]; simp
    subst this
    have e2 : (2 * w + 0) * (2 * w + 0) = 4 * (w * w) := by grind
    rw [e2]
    omega
  · have : s = 1 := by rw [hs]; simp [h]
    subst this
    have e2 : (2 * w + 1) * (2 * w + 1) = 4 * (w * w) + 4 * w + 1 := by grind
    rw [e2]
    generalize w * w = g at *
    omega

/-- Half of twice the root and its bit is at most 2 ^ t, where n is at most its square. -/
theorem twice_le {n w s t : Nat} (h1 : w * w ≤ n) (hs : s = (w * w != n).toNat) (h : n ≤ 2 ^ t * 2 ^ t) : 2 * w + s ≤ 2 * 2 ^ t := by
  by_cases e : w * w = n
  · have : s = 0 := by rw [hs, e]; simp
    subst this
    rcases Nat.lt_or_ge (2 ^ t) w with k | k
    · have := Nat.mul_le_mul (show 2 ^ t + 1 ≤ w from k) (show 2 ^ t + 1 ≤ w from k)
      have e2 : (2 ^ t + 1) * (2 ^ t + 1) = 2 ^ t * 2 ^ t + 2 * 2 ^ t + 1 := by grind
      omega
    · omega
  · have : s = 1 := by rw [hs]; simp [e]
    subst this
    rcases Nat.lt_or_ge w (2 ^ t) with k | k
    · omega
    · have := Nat.mul_le_mul k k
      omega

theorem sqrt_near {x : Nat} (hx : Num x) (h0 : 0 < val x) : ∃ mag place, fsqrt x = F64.nearest false mag place ∧
    (mag : Rat) * 2 ^ place * ((mag : Rat) * 2 ^ place) ≤ val x + val x * ev ∧ val x ≤ (mag : Rat) * 2 ^ place * ((mag : Rat) * 2 ^ place) + val x * ev ∧ (val x ≤ 1 → (mag : Rat) * 2 ^ place ≤ 1) := by
  obtain ⟨s, m, i, hx⟩ := hx
  have hvx : val x = sg s ((m : Rat) * 2 ^ i) := by unfold val; rw [hx, dval_number]
  have p := mag_nonneg m i
  have hs : s = false := by
    cases s
    · rfl
    · rw [hvx] at h0; simp only [sg, if_true] at h0; exfalso; grind
  subst hs
  simp only [sg, Bool.false_eq_true, if_false] at hvx
  have hm : m ≠ 0 := by
    rintro rfl
    rw [hvx] at h0
    have : ((0 : Nat) : Rat) * 2 ^ i = 0 := Rat.zero_mul _
    rw [this] at h0
    exact absurd h0 (by decide)
  have hb := (number_bounds hx).1
  have hlog : m.log2 < 53 := (Nat.log2_lt hm).2 (by omega)
  generalize hmore0 : 108 - m.log2 = more0
  generalize hmore : more0 + ((i - (more0 : Int)) % 2).toNat = more
  obtain ⟨w, hw, w1, w2⟩ := root_is (m <<< more)
  have hpar : (i - (more : Int)) % 2 = 0 := by omega
  obtain ⟨h, hh⟩ : ∃ h : Int, i - (more : Int) = 2 * h := ⟨(i - more) / 2, by omega⟩
  have hbig : 18014398509481984 ≤ w := by
    have l1 : 2 ^ m.log2 ≤ m := Nat.log2_self_le hm
    have l2 : 2 ^ 108 ≤ m <<< more := by
      rw [Nat.shiftLeft_eq]
      have e1 : 2 ^ m.log2 * 2 ^ more ≤ m * 2 ^ more := Nat.mul_le_mul_right _ l1
      have e2 : 2 ^ 108 ≤ 2 ^ m.log2 * 2 ^ more := by
        rw [← Nat.pow_add]
        exact Nat.pow_le_pow_right (by decide) (by omega)
      exact Nat.le_trans e2 e1
    rcases Nat.lt_or_ge w 18014398509481984 with h | h
    · exfalso
      have : (w + 1) * (w + 1) ≤ 18014398509481984 * 18014398509481984 := Nat.mul_le_mul (by omega) (by omega)
      have e : (18014398509481984 : Nat) * 18014398509481984 = 2 ^ 108 := by decide +kernel
      omega
    · exact h
  obtain ⟨k1, k2⟩ := twice_root w1 w2 rfl
  have hwn : w * 18014398509481984 ≤ m <<< more := Nat.le_trans (Nat.mul_le_mul_left _ hbig) w1
  refine ⟨2 * w + (w * w != m <<< more).toNat, h - 1, ?_, ?_⟩
  · unfold fsqrt Ieee.Format.sqrt
    have hf : F64.fractionBits + 2 = 54 := by decide +kernel
    rw [hx, hf]
    simp only [Ieee.Datum.root, hm, if_false, Bool.false_eq_true, Option.map_some, Option.getD_some]
    rw [show 2 * 54 = 108 from rfl, hmore0, hmore, ← hw]
    rw [show (i - (more : Int)) / 2 - 1 = h - 1 by omega]
    rfl
  · have hle := fun t => twice_le (n := m <<< more) (t := t) w1 rfl
    generalize (2 * w + (w * w != m <<< more).toNat) = M at *
    simp only [Nat.shiftLeft_eq] at *
    have hX : val x = ((m * 2 ^ more : Nat) : Rat) * (2 ^ h * 2 ^ h) := by
      rw [hvx, Rat.natCast_mul, ← p2_nat, Rat.mul_assoc, ← p2_add, ← p2_add]
      congr 2
      omega
    have hH := p2_pos h
    have e4 : (2 : Rat) ^ (h - 1) * 2 = 2 ^ h := by
      have := p2_add (h - 1) 1
      rw [show h - 1 + 1 = h by omega] at this
      have z : (2 : Rat) ^ (1 : Int) = 2 := by decide +kernel
      rw [z] at this
      exact this.symm
    have hone : val x ≤ 1 → (M : Rat) * 2 ^ (h - 1) ≤ 1 := by
      intro hx1
      have hn0 : 1 ≤ m * 2 ^ more := by omega
      have hneg : h ≤ 0 := by
        rcases Int.lt_or_le 0 h with k | k
        · exfalso
          have l1 : (2 : Rat) ≤ 2 ^ h := by
            have := p2_le (show (1 : Int) ≤ h by omega)
            have z : (2 : Rat) ^ (1 : Int) = 2 := by decide +kernel
            rwa [z] at this
          have l2 : (1 : Rat) ≤ ((m * 2 ^ more : Nat) : Rat) := by exact_mod_cast hn0
          have l3 := Rat.mul_nonneg (show (0 : Rat) ≤ 2 ^ h - 2 by grind) (show (0 : Rat) ≤ 2 ^ h by grind)
          have l4 := Rat.mul_nonneg (show (0 : Rat) ≤ ((m * 2 ^ more : Nat) : Rat) - 1 by grind) (show (0 : Rat) ≤ 2 ^ h * 2 ^ h by grind)
          rw [hX] at hx1
          grind
        · exact k
      obtain ⟨t, ht⟩ : ∃ t : Nat, h = -(t : Int) := ⟨(-h).toNat, by omega⟩
      have ht2 : (2 : Rat) ^ h * 2 ^ (t : Int) = 1 := by
        rw [← p2_add, ht, show -(t : Int) + t = 0 by omega]
        decide +kernel
      have hT := p2_pos (t : Int)
      have hnt : m * 2 ^ more ≤ 2 ^ t * 2 ^ t := by
        have l1 : ((m * 2 ^ more : Nat) : Rat) ≤ ((2 ^ t * 2 ^ t : Nat) : Rat) := by
          rw [Rat.natCast_mul (2 ^ t) (2 ^ t), ← p2_nat]
          rw [hX] at hx1
          have l2 := Rat.mul_le_mul_of_nonneg_right hx1 (Rat.le_of_lt (Rat.mul_pos hT hT))
          have l3 : ((m * 2 ^ more : Nat) : Rat) * (2 ^ h * 2 ^ h) * (2 ^ (t : Int) * 2 ^ (t : Int)) = ((m * 2 ^ more : Nat) : Rat) * ((2 ^ h * 2 ^ (t : Int)) * (2 ^ h * 2 ^ (t : Int))) := by grind
          rw [l3, ht2] at l2
          grind
        exact_mod_cast l1
      have hM := hle t hnt
      have hM2 : (M : Rat) ≤ 2 * 2 ^ (t : Int) := by rw [p2_nat]; exact_mod_cast hM
      have l5 := Rat.mul_le_mul_of_nonneg_right hM2 (Rat.le_of_lt (p2_pos (h - 1)))
      have l6 : (2 : Rat) * 2 ^ (t : Int) * 2 ^ (h - 1) = 2 ^ (t : Int) * (2 ^ (h - 1) * 2) := by grind
      rw [l6, e4] at l5
      grind
    generalize m * 2 ^ more = n at *
    rw [ev_eq]
    have k1' : (M : Rat) * M ≤ 4 * n + 4 * w := by exact_mod_cast k1
    have k2' : (4 : Rat) * n ≤ M * M + 4 * w := by exact_mod_cast k2
    have kw : (w : Rat) * 18014398509481984 ≤ n := by exact_mod_cast hwn
    refine and_assoc.1 ⟨?_, hone⟩
    clear hone hle
    generalize (2 : Rat) ^ h = A at *
    generalize (2 : Rat) ^ (h - 1) = B at *
    subst e4
    have hBB : 0 ≤ B * B := Rat.mul_nonneg (by grind) (by grind)
    rw [hX]
    generalize (M : Rat) = M at *
    generalize (n : Rat) = n at *
    generalize (w : Rat) = w at *
    have q1 := Rat.mul_le_mul_of_nonneg_right k1' hBB
    have q2 := Rat.mul_le_mul_of_nonneg_right k2' hBB
    have q3 := Rat.mul_le_mul_of_nonneg_right kw hBB
    constructor <;> grind

/-- The root of a number from 0 to 4. -/
theorem sqrt_ab {x : Nat} (hx : Num x) (h0 : 0 ≤ val x) (h1 : val x ≤ 4) : Num (fsqrt x) ∧ 0 ≤ val (fsqrt x) ∧ val (fsqrt x) ≤ 3 ∧ Ab (val (fsqrt x) * val (fsqrt x) - val x) dl ∧ (val x ≤ 1 → val (fsqrt x) ≤ 1) := by
  by_cases hz : val x = 0
  · obtain ⟨s, m, i, hr⟩ := hx
    have hvx : val x = sg s ((m : Rat) * 2 ^ i) := by unfold val; rw [hr, dval_number]
    have hm : m = 0 := by
      refine Classical.byContradiction fun hm => ?_
      have h2 : (0 : Rat) < m := by exact_mod_cast Nat.pos_of_ne_zero hm
      have h3 := Rat.mul_pos h2 (p2_pos i)
      rw [hz] at hvx
      cases s <;> simp only [sg, if_true, Bool.false_eq_true, if_false] at hvx <;> grind
    subst hm
    have e : fsqrt x = F64.nearest s 0 i := by
      unfold fsqrt Ieee.Format.sqrt
      rw [hr]
      simp only [Ieee.Datum.root, if_true, Option.map_some, Option.getD_some]
      rfl
    obtain ⟨a, v⟩ := nearest_zero s i
    rw [e, hz]
    refine ⟨a, ?_, ?_, ?_, ?_⟩
    · rw [v]; exact Rat.le_refl
    · rw [v]; decide
    · rw [v]; unfold Ab dl; constructor <;> grind
    · intro _; rw [v]; decide
  · have hp : 0 < val x := by grind
    obtain ⟨mag, place, e, r1, r2, r3⟩ := sqrt_near hx hp
    have p := mag_nonneg mag place
    rw [ev_eq] at r1 r2
    rw [e]
    have hV3 : (mag : Rat) * 2 ^ place ≤ 64 := by
      refine (Ab.of_sq (A := 64) (by grind) ?_).2
      grind
    have hdv : dval (.number false mag place) = (mag : Rat) * 2 ^ place := rfl
    have hn := write_num false mag place (by rw [hdv]; grind) (by rw [hdv]; exact hV3)
    have hv := write_val false mag place hn
    rw [hdv] at hv
    obtain ⟨z0, z1⟩ := nearest_zero false 0
    have l0 := nearest_mono (n1 := false) (m1 := 0) (p1 := 0) (n2 := false) (m2 := mag) (p2 := place) (by
      rw [dval_number, hdv]
      have : sg false (((0 : Nat) : Rat) * 2 ^ (0 : Int)) = 0 := by decide +kernel
      rw [this]; exact p)
    rw [leB_val z0 hn, z1] at l0
    have l0 := of_decide_eq_true l0
    have hone : val x ≤ 1 → val (F64.nearest false mag place) ≤ 1 := by
      intro h
      have n1 : Num (F64.nearest false 1 0) := ⟨false, 4503599627370496, -52, by decide +kernel⟩
      have v1 : val (F64.nearest false 1 0) = 1 := by decide +kernel
      have l1 := nearest_mono (n1 := false) (m1 := mag) (p1 := place) (n2 := false) (m2 := 1) (p2 := 0) (by
        rw [hdv]
        have : dval (.number false 1 0) = 1 := by decide +kernel
        rw [this]; exact r3 h)
      rw [leB_val hn n1, v1] at l1
      exact of_decide_eq_true l1
    generalize (mag : Rat) * 2 ^ place = V at *
    generalize val (F64.nearest false mag place) = R at *
    have V2 : V ≤ 33 / 16 := by
      refine (Ab.of_sq (A := 33 / 16) (by grind) ?_).2
      grind
    have n1 := hv.lo (33 / 16) (by grind) V2
    have n2 := hv.hi (33 / 16) (by grind) V2
    have e2 := et_le
    rw [eu_eq] at n1 n2
    have d1 : Ab (R - V) (1 / 4000000000000000) := by unfold Ab; constructor <;> grind
    have d2 : Ab (R + V) 5 := by unfold Ab; constructor <;> grind
    have d3 := d1.mul d2
    refine ⟨hn, l0, by grind, ?_, hone⟩
    clear hone r3
    unfold Ab dl at *
    constructor <;> grind
end Go.Proofs.Ytagehemimlakpaa.Fl

namespace Go.Proofs.Ytagehemimlakpaa.Fl

theorem write_inf (s : Bool) : F64.read (F64.write (.infinity s)) = .infinity s := by
  unfold Ieee.Format.write
  simp only [ir]
  exact read_inf s

theorem mul_inf_num {a i : Nat} {s t : Bool} {n : Nat} {j : Int} (ha : F64.read a = .infinity s) (hi : F64.read i = .number t n j) (hn : n ≠ 0) : F64.read (fmul a i) = .infinity (s ^^ t) := by
  unfold fmul Ieee.Format.mul
  rw [ha, hi]
  simp only [Ieee.Datum.product, if_neg hn, Option.map_some, Option.getD_some]
  exact write_inf _
theorem mul_num_inf {a i : Nat} {s t : Bool} {m : Nat} {e : Int} (ha : F64.read a = .number s m e) (hi : F64.read i = .infinity t) (hm : m ≠ 0) : F64.read (fmul a i) = .infinity (t ^^ s) := by
  unfold fmul Ieee.Format.mul
  rw [ha, hi]
  simp only [Ieee.Datum.product, if_neg hm, Option.map_some, Option.getD_some]
  exact write_inf _
theorem mul_zero_inf {a i : Nat} {s t : Bool} {e : Int} (ha : F64.read a = .number s 0 e) (hi : F64.read i = .infinity t) : isN (fmul a i) = true := by
  unfold fmul Ieee.Format.mul
  rw [ha, hi]
  simp only [Ieee.Datum.product, if_true, Option.map_none, Option.getD_none]
  exact isN_qnan
theorem mul_inf_inf {a i : Nat} {s t : Bool} (ha : F64.read a = .infinity s) (hi : F64.read i = .infinity t) : F64.read (fmul a i) = .infinity (s ^^ t) := by
  unfold fmul Ieee.Format.mul
  rw [ha, hi]
  simp only [Ieee.Datum.product, Option.map_some, Option.getD_some]
  exact write_inf _

theorem num_sign {x : Nat} {s : Bool} {m : Nat} {e : Int} (h : F64.read x = .number s m e) (hm : m ≠ 0) : if s then val x < 0 else 0 < val x := by
  have hv : val x = sg s ((m : Rat) * 2 ^ e) := by unfold val; rw [h, dval_number]
  have : (0 : Rat) < m := by exact_mod_cast Nat.pos_of_ne_zero hm
  have := Rat.mul_pos this (p2_pos e)
  cases s
  · simp only [Bool.false_eq_true, if_false]
    rw [hv]
    exact this
  · simp only [if_true]
    rw [hv]
    unfold sg
    grind

/-- The product with what is above 0 (t is false), or below it, keeps order, or turns it about. -/
theorem mul_order {a b i : Nat} {t : Bool} (hab : leB a b = true) (hi : (∃ n j, F64.read i = .number t n j ∧ n ≠ 0) ∨ F64.read i = .infinity t) (na : isN (fmul a i) = false) (nb : isN (fmul b i) = false) :
    if t then leB (fmul b i) (fmul a i) = true else leB (fmul a i) (fmul b i) = true := by
  cases ha : F64.read a with
  | nan s f =>
    exfalso
    have : isN a = true := by unfold isN; rw [ha]; rfl
    have := ord_nan_left this b
    unfold leB at hab
    rw [this] at hab
    cases hab
  | infinity s =>
    cases hb : F64.read b with
    | nan u f =>
      exfalso
      have : isN b = true := by unfold isN; rw [hb]; rfl
      have := ord_nan_right this a
      unfold leB at hab
      rw [this] at hab
      cases hab
    | number u m e =>
      have hs : s = true := by
        cases s
        · exfalso
          unfold leB ford Ieee.Format.order at hab
          rw [ha, hb] at hab
          cases hab
        · rfl
      subst hs
      have hr : F64.read (fmul a i) = .infinity (true ^^ t) := by
        rcases hi with ⟨n, j, hi, hn⟩ | hi
        · exact mul_inf_num ha hi hn
        · exact mul_inf_inf ha hi
      cases t
      · exact leB_low hr nb
      · exact leB_high hr nb
    | infinity u =>
      have hra : F64.read (fmul a i) = .infinity (s ^^ t) := by
        rcases hi with ⟨n, j, hi, hn⟩ | hi
        · exact mul_inf_num ha hi hn
        · exact mul_inf_inf ha hi
      have hrb : F64.read (fmul b i) = .infinity (u ^^ t) := by
        rcases hi with ⟨n, j, hi, hn⟩ | hi
        · exact mul_inf_num hb hi hn
        · exact mul_inf_inf hb hi
      cases s
      · have hu : u = false := by
          cases u
          · rfl
          · exfalso
            unfold leB ford Ieee.Format.order at hab
            rw [ha, hb] at hab
            cases hab
        subst hu
        cases t
        · exact leB_high hrb na
        · exact leB_low hrb na
      · cases t
        · exact leB_low hra nb
        · exact leB_high hra nb
  | number s m e =>
    cases hb : F64.read b with
    | nan u f =>
      exfalso
      have : isN b = true := by unfold isN; rw [hb]; rfl
      have := ord_nan_right this a
      unfold leB at hab
      rw [this] at hab
      cases hab
    | infinity u =>
      have hu : u = false := by
        cases u
        · rfl
        · exfalso
          unfold leB ford Ieee.Format.order at hab
          rw [ha, hb] at hab
          cases hab
      subst hu
      have hr : F64.read (fmul b i) = .infinity (false ^^ t) := by
        rcases hi with ⟨n, j, hi, hn⟩ | hi
        · exact mul_inf_num hb hi hn
        · exact mul_inf_inf hb hi
      cases t
      · exact leB_high hr na
      · exact leB_low hr na
    | number u n e2 =>
      have hA : Num a := ⟨_, _, _, ha⟩
      have hB : Num b := ⟨_, _, _, hb⟩
      rw [leB_val hA hB] at hab
      have hle := of_decide_eq_true hab
      rcases hi with ⟨k, j, hi, hk⟩ | hi
      · have hI : Num i := ⟨_, _, _, hi⟩
        have hsg := num_sign hi hk
        cases t
        · simp only [Bool.false_eq_true, if_false] at hsg ⊢
          exact mul_mono hA hI hB hI (Rat.mul_le_mul_of_nonneg_right hle (Rat.le_of_lt hsg))
        · simp only [if_true] at hsg ⊢
          refine mul_mono hB hI hA hI ?_
          have := Rat.mul_le_mul_of_nonneg_right hle (show 0 ≤ -val i by grind)
          grind
      · have hm : m ≠ 0 := by
          intro h0
          subst h0
          rw [mul_zero_inf ha hi] at na
          cases na
        have hn : n ≠ 0 := by
          intro h0
          subst h0
          rw [mul_zero_inf hb hi] at nb
          cases nb
        have hra := mul_num_inf ha hi hm
        have hrb := mul_num_inf hb hi hn
        have sa := num_sign ha hm
        have sb := num_sign hb hn
        cases s
        · have hu : u = false := by
            cases u
            · rfl
            · exfalso
              simp only [Bool.false_eq_true, if_false, if_true] at sa sb
              grind
          subst hu
          cases t
          · exact leB_high hrb na
          · exact leB_low hrb na
        · cases t
          · exact leB_low hra nb
          · exact leB_high hra nb

/-- What is not below the one, and not above the other. -/
theorem leB_trans {x y z : Nat} (h : leB x y = true) (k : leB y z = true) : leB x z = true := by
  have nx : isN x = false := by
    cases hn : isN x
    · rfl
    · unfold leB at h; rw [ord_nan_left hn y] at h; cases h
  have ny : isN y = false := by
    cases hn : isN y
    · rfl
    · unfold leB at k; rw [ord_nan_left hn z] at k; cases k
  have nz : isN z = false := by
    cases hn : isN z
    · rfl
    · unfold leB at k; rw [ord_nan_right hn y] at k; cases k
  cases hx : F64.read x with
  | nan s f => unfold isN at nx; rw [hx] at nx; cases nx
  | infinity s =>
    cases s
    · cases hy : F64.read y with
      | nan s f => unfold isN at ny; rw [hy] at ny; cases ny
      | infinity u =>
        cases u
        · cases hz : F64.read z with
          | nan s f => unfold isN at nz; rw [hz] at nz; cases nz
          | infinity v =>
            cases v
            · exact leB_high hz nx
            · unfold leB ford Ieee.Format.order at k; rw [hy, hz] at k; cases k
          | number s m e => unfold leB ford Ieee.Format.order at k; rw [hy, hz] at k; cases k
        · unfold leB ford Ieee.Format.order at h; rw [hx, hy] at h; cases h
      | number s m e => unfold leB ford Ieee.Format.order at h; rw [hx, hy] at h; cases h
    · exact leB_low hx nz
  | number s m e =>
    cases hz : F64.read z with
    | nan s f => unfold isN at nz; rw [hz] at nz; cases nz
    | infinity v =>
      cases v
      · exact leB_high hz nx
      · cases hy : F64.read y with
        | nan s f => unfold isN at ny; rw [hy] at ny; cases ny
        | infinity u =>
          cases u
          · unfold leB ford Ieee.Format.order at k; rw [hy, hz] at k; cases k
          · unfold leB ford Ieee.Format.order at h; rw [hx, hy] at h; cases h
        | number s m e => unfold leB ford Ieee.Format.order at k; rw [hy, hz] at k; cases k
    | number s' m' e' =>
      cases hy : F64.read y with
      | nan s f => unfold isN at ny; rw [hy] at ny; cases ny
      | infinity u =>
        cases u
        · unfold leB ford Ieee.Format.order at k; rw [hy, hz] at k; cases k
        · unfold leB ford Ieee.Format.order at h; rw [hx, hy] at h; cases h
      | number s'' m'' e'' =>
        have hX : Num x := ⟨_, _, _, hx⟩
        have hY : Num y := ⟨_, _, _, hy⟩
        have hZ : Num z := ⟨_, _, _, hz⟩
        rw [leB_val hX hY] at h
        rw [leB_val hY hZ] at k
        rw [leB_val hX hZ]
        exact decide_eq_true (Rat.le_trans (of_decide_eq_true h) (of_decide_eq_true k))
end Go.Proofs.Ytagehemimlakpaa.Fl

namespace Go.Proofs.Ytagehemimlakpaa.Fl

theorem ford_swap (x y : Nat) : ford y x = (ford x y).map Ordering.swap := by
  unfold ford Ieee.Format.order
  generalize F64.read x = d
  generalize F64.read y = e
  cases d with
  | nan s f => cases e <;> rfl
  | infinity s =>
    cases e with
    | nan t f => rfl
    | infinity t => cases s <;> cases t <;> rfl
    | number t n j => cases s <;> rfl
  | number s m i =>
    cases e with
    | nan t f => rfl
    | infinity t => cases t <;> rfl
    | number t n j =>
      simp only [Ieee.Datum.order, Option.map_some]
      rw [Int.min_comm j i, Int.compare_swap]

theorem ford_some {x y : Nat} (hx : isN x = false) (hy : isN y = false) : ∃ o, ford x y = some o := by
  unfold isN at hx hy
  unfold ford Ieee.Format.order
  generalize F64.read x = d at *
  generalize F64.read y = e at *
  cases d <;> cases e <;> first | exact ⟨_, rfl⟩ | cases (show true = false from hx) | cases (show true = false from hy)

theorem leB_refl {x : Nat} (h : isN x = false) : leB x x = true := by
  unfold leB
  rw [ford_refl h]
  rfl

/-- '>=' is '<=' the other way round. -/
theorem geB_eq (x y : Nat) : (ford x y == some .gt || ford x y == some .eq) = leB y x := by
  unfold leB
  rw [ford_swap x y]
  cases h : ford x y with
  | none => rfl
  | some o => cases o <;> rfl

theorem leB_of_lt {x y : Nat} (h : ford x y = some .lt) : leB x y = true := by unfold leB; rw [h]; rfl
theorem leB_of_gt {x y : Nat} (h : ford x y = some .gt) : leB y x = true := by rw [← geB_eq, h]; rfl
theorem leB_not_nan {x y : Nat} (h : leB x y = true) : isN x = false ∧ isN y = false := by
  constructor
  · cases hn : isN x
    · rfl
    · unfold leB at h; rw [ord_nan_left hn y] at h; cases h
  · cases hn : isN y
    · rfl
    · unfold leB at h; rw [ord_nan_right hn x] at h; cases h

/-- The lesser one, the first, if the second is not; the greater one likewise. -/
def lowF (a b : Nat) : Nat := if ford b a == some .lt then b else a
def highF (a b : Nat) : Nat := if ford b a == some .gt then b else a

theorem high_nan {a b : Nat} (h : isN b = true) : highF a b = a := by unfold highF; rw [ord_nan_left h a]; rfl
theorem low_nan {a b : Nat} (h : isN b = true) : lowF a b = a := by unfold lowF; rw [ord_nan_left h a]; rfl
theorem high_le {a b : Nat} (h : leB b a = true) : highF a b = a := by
  unfold highF
  unfold leB at h
  cases k : ford b a with
  | none => rfl
  | some o =>
    cases o
    · rfl
    · rfl
    · rw [k] at h; cases h
theorem low_le {a b : Nat} (h : leB a b = true) : lowF a b = a := by
  unfold lowF
  rw [← geB_eq] at h
  cases k : ford b a with
  | none => rfl
  | some o =>
    cases o
    · rw [k] at h; cases h
    · rfl
    · rfl
theorem high_ge {a : Nat} (b : Nat) (h : isN a = false) : leB a (highF a b) = true := by
  unfold highF
  cases k : ford b a == some .gt
  · simpa using leB_refl h
  · simp only [if_true]
    exact leB_of_gt (by simpa using k)
theorem low_ge {a : Nat} (b : Nat) (h : isN a = false) : leB (lowF a b) a = true := by
  unfold lowF
  cases k : ford b a == some .lt
  · simpa using leB_refl h
  · simp only [if_true]
    exact leB_of_lt (by simpa using k)
theorem high_ge2 {a b : Nat} (h : isN a = false) (k : isN b = false) : leB b (highF a b) = true := by
  obtain ⟨o, ho⟩ := ford_some k h
  unfold highF
  rw [ho]
  cases o
  · exact leB_of_lt ho
  · show leB b a = true
    unfold leB; rw [ho]; rfl
  · exact leB_refl k
theorem low_ge2 {a b : Nat} (h : isN a = false) (k : isN b = false) : leB (lowF a b) b = true := by
  obtain ⟨o, ho⟩ := ford_some k h
  unfold lowF
  rw [ho]
  cases o
  · exact leB_refl k
  · show leB a b = true
    rw [← geB_eq, ho]; rfl
  · exact leB_of_gt ho
theorem high_or (a b : Nat) : highF a b = a ∨ highF a b = b ∧ ford b a = some .gt := by
  unfold highF
  cases k : ford b a == some .gt
  · left; rfl
  · right; exact ⟨rfl, by simpa using k⟩
theorem low_or (a b : Nat) : lowF a b = a ∨ lowF a b = b ∧ ford b a = some .lt := by
  unfold lowF
  cases k : ford b a == some .lt
  · left; rfl
  · right; exact ⟨rfl, by simpa using k⟩
theorem high_num {a b : Nat} (h : isN a = false) : isN (highF a b) = false := (leB_not_nan (high_ge b h)).2
theorem low_num {a b : Nat} (h : isN a = false) : isN (lowF a b) = false := (leB_not_nan (low_ge b h)).1

/-- A greater start and a greater candidate give a greater one; a candidate that is none says nothing. -/
theorem high_mono {a b x y : Nat} (h : leB a b = true) (k : isN x = true ∨ leB x y = true ∨ leB x a = true) : leB (highF a x) (highF b y) = true := by
  obtain ⟨na, nb⟩ := leB_not_nan h
  have hb := leB_trans h (high_ge y nb)
  rcases k with k | k | k
  · rw [high_nan k]; exact hb
  · rcases high_or a x with e | ⟨e, _⟩
    · rw [e]; exact hb
    · rw [e]; exact leB_trans k (high_ge2 nb (leB_not_nan k).2)
  · rw [high_le k]; exact hb
theorem low_mono {a b x y : Nat} (h : leB a b = true) (k : isN y = true ∨ leB x y = true ∨ leB b y = true) : leB (lowF a x) (lowF b y) = true := by
  obtain ⟨na, nb⟩ := leB_not_nan h
  have hb := leB_trans (low_ge x na) h
  rcases k with k | k | k
  · rw [low_nan k]; exact hb
  · rcases low_or b y with e | ⟨e, _⟩
    · rw [e]; exact hb
    · rw [e]; exact leB_trans (low_ge2 na (leB_not_nan k).1) k
  · rw [low_le k]; exact hb
end Go.Proofs.Ytagehemimlakpaa.Fl
