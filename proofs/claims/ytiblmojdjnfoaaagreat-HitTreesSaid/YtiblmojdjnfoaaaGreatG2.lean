/- Whether a number is near another one, and what the squares' sum tells of its parts. Rounding keeps order. Rounding keeps order: of written words, of differences, of products. Products keep order, infinite ones too. Lesser and greater ones of floats. Numbers that need no rounding; quotients keep order. -/
import Derived.Test.YtiblmojdjnfoaaaGreatG1
namespace Go.Proofs.YtiblmojdjnfoaaaGreat.Fl

/-- The difference, without its sign, is at most q. -/
def nearQ (a b q : Nat) : Bool :=
  let d := fsub a b
  let e := if ford d 0 == some .lt then fsub 0 d else d
  ford e q == some .lt || ford e q == some .eq

theorem num_zero : Num 0 := ⟨_, _, _, read_zero⟩
theorem val_zero : val 0 = 0 := by decide +kernel

/-- Near enough is near. -/
theorem nearQ_true {a b q : Nat} (ha : Num a) (hb : Num b) (hq : Num q) {A Q : Rat} (hQ : val q = Q) (hA : A + 2 * dl ≤ Q) (h1 : A ≤ 1) (h : Ab (val a - val b) A) : nearQ a b q = true := by
  unfold nearQ
  have hd0 : dl ≤ 1 := by unfold dl; grind
  obtain ⟨hn, hd⟩ := sub_ab ha hb (h.mono (by grind))
  have hz := lt_val hn num_zero
  rw [val_zero] at hz
  simp only [hz]
  by_cases hl : val (fsub a b) < 0
  · simp only [hl, decide_true, if_true]
    have hb2 : Ab (val 0 - val (fsub a b)) (A + dl) := by
      rw [val_zero]
      unfold Ab at *
      grind
    obtain ⟨hn2, hd2⟩ := sub_ab num_zero hn (hb2.mono (by grind))
    rw [le_val hn2 hq, hQ]
    apply decide_eq_true
    unfold Ab at *
    grind
  · simp only [hl, decide_false, Bool.false_eq_true, if_false]
    rw [le_val hn hq, hQ]
    apply decide_eq_true
    unfold Ab at *
    grind

theorem nearest_cases (neg : Bool) (mag : Nat) (place : Int) : Num (F64.nearest neg mag place) ∨ F64.read (F64.nearest neg mag place) = .infinity neg := by
  by_cases h0 : mag = 0
  · left
    subst h0
    have : F64.nearest neg 0 place = F64.word neg 0 := by unfold Ieee.Format.nearest; rw [if_pos rfl]
    rw [this]
    have := read_word neg 0 (by decide)
    exact ⟨_, _, _, this⟩
  · rw [nearest_eq neg mag place h0]
    obtain ⟨b1, b2⟩ := kept_bounds neg mag place h0
    rcases Nat.lt_or_ge ((lastP mag place + 1074).toNat * 4503599627370496 + kept neg mag place) 9218868437227405312 with ho | ho
    · rw [Nat.min_eq_left (Nat.le_of_lt ho)]
      obtain ⟨m, e, he, _⟩ := rung_val neg _ _ b1 b2 ho
      exact Or.inl ⟨_, _, _, he⟩
    · rw [Nat.min_eq_right ho, read_inf]
      exact Or.inr rfl

theorem ord_inf {e q : Nat} (h : F64.read e = .infinity false) (hq : Num q) : ford e q = some .gt := by
  obtain ⟨s, m, i, hq⟩ := hq
  unfold ford Ieee.Format.order
  rw [h, hq]
  rfl

/-- r is small where what it is rounded to is. -/
theorem Nr.small {v r A : Rat} (h : Nr v r) (hv : Ab v A) : Ab r (A + A * (1 / 1024) + 1 / 1125899906842624) := by
  have e1 := eu_eq
  have e2 := et_le
  have hA := hv.nonneg
  rcases Rat.le_total (a := 0) (b := r) with hr | hr
  · have := h.lo r (by grind) Rat.le_refl
    rw [e1] at this
    unfold Ab at *
    constructor <;> grind
  · have := h.hi (-r) (by grind) (by grind)
    rw [e1] at this
    unfold Ab at *
    constructor <;> grind

/-- What is near is a number, and near. -/
theorem nearQ_num {a b q : Nat} (hb : Num b) (hq : Num q) {Q : Rat} (hQ : val q = Q) (h : nearQ a b q = true) : Num a ∧ ∃ v, Ab v (Q + Q * (1 / 1024) + 1 / 1125899906842624) ∧ Nr v (val a - val b) := by
  unfold nearQ at h
  have hnum : Num (fsub a b) := by
    generalize fsub a b = d at h
    have hz : F64.read 0 = .number false 0 (-1074) := read_zero
    cases hd : F64.read d with
    | number s m e => exact ⟨_, _, _, hd⟩
    | nan s f =>
      exfalso
      have hN : isN d = true := by unfold isN; rw [hd]; rfl
      have h0 : ford d 0 = none := ord_nan_left hN 0
      have h1 : ford d q = none := ord_nan_left hN q
      simp [h0, h1] at h
    | infinity s =>
      exfalso
      cases s
      · have h0 : ford d 0 = some .gt := ord_inf hd num_zero
        have h1 : ford d q = some .gt := ord_inf hd hq
        simp [h0, h1] at h
      · have h0 : ford d 0 = some .lt := by unfold ford Ieee.Format.order; rw [hd, hz]; rfl
        have h1 : F64.read (fsub 0 d) = .infinity false := by
          unfold fsub Ieee.Format.sub
          rw [hd, hz]
          have : F64.read (F64.word false 9218868437227405312) = .infinity false := read_inf false
          simp only [Ieee.Datum.opposite, Ieee.Datum.sum, Option.map_some, Option.getD_some, Ieee.Format.write, ir, Bool.not_true]
          exact this
        have h2 : ford (fsub 0 d) q = some .gt := ord_inf h1 hq
        simp [h0, h2] at h
  have ha := (num_of_sub hnum).1
  refine ⟨ha, val (fsub a b), ?_, fsub_val ha hb hnum⟩
  have hz := lt_val hnum num_zero
  rw [val_zero] at hz
  simp only [hz] at h
  by_cases hl : val (fsub a b) < 0
  · simp only [hl, decide_true, if_true] at h
    obtain ⟨neg, mag, place, e, hv⟩ := sub_near num_zero hnum
    have hneg : neg = false := by
      cases neg
      · rfl
      · exfalso
        rw [dval_number, val_zero] at hv
        have := mag_nonneg mag place
        simp only [sg, if_true] at hv
        grind
    subst hneg
    have hn2 : Num (fsub 0 (fsub a b)) := by
      rcases nearest_cases false mag place with hc | hc
      · rw [e]; exact hc
      · exfalso
        rw [← e] at hc
        rw [ord_inf hc hq] at h
        simp at h
    have hnr := fsub_val num_zero hnum hn2
    rw [le_val hn2 hq, hQ] at h
    have hle := of_decide_eq_true h
    rw [val_zero] at hnr
    have hpos : 0 ≤ val (fsub 0 (fsub a b)) := by
      obtain ⟨V, hV, h0, _⟩ := nearest_val false mag place (by rw [← e]; exact hn2)
      rw [e, hV]
      exact h0
    have := hnr.small (A := Q) ⟨by grind, hle⟩
    unfold Ab at *
    constructor <;> grind
  · simp only [hl, decide_false, Bool.false_eq_true, if_false] at h
    rw [le_val hnum hq, hQ] at h
    have hle := of_decide_eq_true h
    constructor <;> grind

/-- The parts of a vector whose square is nearly 1. -/
theorem square_parts {x y z : Nat} {u : Rat} (hd : Num (fadd (fadd (fmul x x) (fmul y y)) (fmul z z))) (hu : Ab (val (fadd (fadd (fmul x x) (fmul y y)) (fmul z z)) - 1) u) (h1 : u ≤ 1) :
    Num x ∧ Num y ∧ Num z ∧ Ab (val x * val x + val y * val y + val z * val z - 1) (u + 1 / 281474976710656) := by
  obtain ⟨hg, hzz⟩ := num_of_add hd
  obtain ⟨hxx, hyy⟩ := num_of_add hg
  have hx := num_of_square hxx
  have hy := num_of_square hyy
  have hz := num_of_square hzz
  refine ⟨hx, hy, hz, ?_⟩
  have e1 := eu_eq
  have e2 := et_le
  have e3 := et_pos
  have nx := sq_nonneg (val x)
  have ny := sq_nonneg (val y)
  have nz := sq_nonneg (val z)
  have rx := fmul_val hx hx hxx
  have ry := fmul_val hy hy hyy
  have rz := fmul_val hz hz hzz
  have rg := fadd_val hxx hyy hg
  have rd := fadd_val hg hzz hd
  generalize val (fadd (fadd (fmul x x) (fmul y y)) (fmul z z)) = D at *
  generalize val (fadd (fmul x x) (fmul y y)) = G at *
  generalize val (fmul x x) = XX at *
  generalize val (fmul y y) = YY at *
  generalize val (fmul z z) = ZZ at *
  generalize val x * val x = X at *
  generalize val y * val y = Y at *
  generalize val z * val z = Z at *
  have x1 := rx.lo X (by grind) Rat.le_refl
  have x2 := rx.hi X (by grind) Rat.le_refl
  have y1 := ry.lo Y (by grind) Rat.le_refl
  have y2 := ry.hi Y (by grind) Rat.le_refl
  have z1 := rz.lo Z (by grind) Rat.le_refl
  have z2 := rz.hi Z (by grind) Rat.le_refl
  rw [e1] at x1 x2 y1 y2 z1 z2
  have g1 := rg.lo (XX + YY + 4 * et) (by grind) (by grind)
  have g2 := rg.hi (XX + YY + 4 * et) (by grind) (by grind)
  rw [e1] at g1 g2
  have d1 := rd.lo (G + ZZ + 16 * et) (by grind) (by grind)
  have d2 := rd.hi (G + ZZ + 16 * et) (by grind) (by grind)
  rw [e1] at d1 d2
  unfold Ab at *
  constructor <;> grind
end Go.Proofs.YtiblmojdjnfoaaaGreat.Fl

namespace Go.Proofs.YtiblmojdjnfoaaaGreat.Fl

/-- Between two, the even one. -/
theorem cut_even (neg : Bool) (n drop : Nat) (h : 2 * n = 2 * (Ieee.Toward.even.cut neg n drop * 2 ^ drop) + 2 ^ drop ∨ 2 * (Ieee.Toward.even.cut neg n drop * 2 ^ drop) = 2 * n + 2 ^ drop) : Ieee.Toward.even.cut neg n drop % 2 = 0 := by
  unfold Ieee.Toward.cut at *
  simp only [Nat.one_shiftLeft] at *
  rcases Nat.lt_or_ge (n.log2 + 2) drop with hd | hd
  · rw [Nat.min_eq_right (Nat.le_of_lt hd)] at *
    have h1 : n < 2 ^ (n.log2 + 1) := Nat.lt_log2_self
    have h2 : 2 ^ (n.log2 + 2) = 2 * 2 ^ (n.log2 + 1) := by rw [Nat.pow_succ 2 (n.log2 + 1), Nat.mul_comm]
    have h4 : n / 2 ^ (n.log2 + 2) = 0 := Nat.div_eq_of_lt (by omega)
    have h5 : n % 2 ^ (n.log2 + 2) = n := Nat.mod_eq_of_lt (by omega)
    rw [h4, h5]
    have h6 : decide (2 ^ (n.log2 + 2) < 2 * n) = false := by simp; omega
    have h7 : (2 ^ (n.log2 + 2) == 2 * n) = false := by simp; omega
    rw [h6, h7]
    rfl
  · rw [Nat.min_eq_left hd] at *
    have h1 := Nat.div_add_mod n (2 ^ drop)
    have h2 := Nat.mod_lt n (Nat.two_pow_pos drop)
    generalize n / 2 ^ drop = low at *
    generalize n % 2 ^ drop = rest at *
    generalize 2 ^ drop = gap at *
    rw [Nat.add_mul, Nat.mul_comm low gap] at h
    generalize hg : gap * low = g at *
    by_cases h3 : gap < 2 * rest
    · simp [h3] at h; omega
    · by_cases h4 : gap = 2 * rest
      · by_cases h5 : low % 2 = 1
        · simp [h4, h5]; omega
        · have h7 : (low % 2 == 1) = false := by simpa using h5
          simp [h4, h7]; omega
      · have h6 : (gap == 2 * rest) = false := by simpa using h4
        simp [h3, h6] at h; omega

/-- Where the tie lies, as a number: what is kept is even. -/
theorem kept_even (neg : Bool) (mag : Nat) (place : Int)
    (h : 2 * ((mag : Rat) * 2 ^ place) = 2 * ((kept neg mag place : Rat) * 2 ^ lastP mag place) + 2 ^ lastP mag place ∨ 2 * ((kept neg mag place : Rat) * 2 ^ lastP mag place) = 2 * ((mag : Rat) * 2 ^ place) + 2 ^ lastP mag place) : kept neg mag place % 2 = 0 := by
  unfold kept at *
  apply cut_even
  generalize Ieee.Toward.even.cut neg _ _ = k at *
  rw [Nat.shiftLeft_eq]
  generalize lastP mag place = last at *
  generalize hu : (place - last).toNat = up at *
  generalize hd : (last - place).toNat = drop at *
  have hL := p2_pos last
  have key : (2 : Rat) ^ (up : Int) * 2 ^ last = 2 ^ place * 2 ^ (drop : Int) := by
    rw [← p2_add, ← p2_add]
    congr 1
    omega
  have hne : (2 : Rat) ^ last ≠ 0 := by grind
  have cancel : ∀ a b : Rat, a * 2 ^ last = b * 2 ^ last → a = b := by
    intro a b hab
    have e1 : a * 2 ^ last * (2 ^ last)⁻¹ = b * 2 ^ last * (2 ^ last)⁻¹ := by rw [hab]
    rwa [Rat.mul_assoc, Rat.mul_assoc, Rat.mul_inv_cancel _ hne, Rat.mul_one, Rat.mul_one] at e1
  rcases h with h | h
  · left
    have : (2 : Rat) * (mag * 2 ^ (up : Int)) = 2 * (k * 2 ^ (drop : Int)) + 2 ^ (drop : Int) := by
      apply cancel
      generalize (2 : Rat) ^ (drop : Int) = D at *
      generalize (2 : Rat) ^ last = L at *
      generalize (2 : Rat) ^ place = P at *
      generalize (2 : Rat) ^ (up : Int) = U at *
      grind
    rw [p2_nat, p2_nat] at this
    exact_mod_cast this
  · right
    have : (2 : Rat) * (k * 2 ^ (drop : Int)) = 2 * (mag * 2 ^ (up : Int)) + 2 ^ (drop : Int) := by
      apply cancel
      generalize (2 : Rat) ^ (drop : Int) = D at *
      generalize (2 : Rat) ^ last = L at *
      generalize (2 : Rat) ^ place = P at *
      generalize (2 : Rat) ^ (up : Int) = U at *
      grind
    rw [p2_nat, p2_nat] at this
    exact_mod_cast this

theorem last_mono {m1 m2 : Nat} {p1 p2 : Int} (h1 : m1 ≠ 0) (_ : m2 ≠ 0) (h : (m1 : Rat) * 2 ^ p1 ≤ m2 * 2 ^ p2) : lastP m1 p1 ≤ lastP m2 p2 := by
  have : p1 + m1.log2 ≤ p2 + m2.log2 := by
    by_cases hg : p1 + m1.log2 ≤ p2 + m2.log2
    · exact hg
    · exfalso
      have l1 : ((2 ^ m1.log2 : Nat) : Rat) ≤ m1 := by exact_mod_cast Nat.log2_self_le h1
      have l2 : ((m2 : Nat) : Rat) < ((2 ^ (m2.log2 + 1) : Nat) : Rat) := by exact_mod_cast (Nat.lt_log2_self : m2 < 2 ^ (m2.log2 + 1))
      rw [← p2_nat] at l1 l2
      have k1 := Rat.mul_le_mul_of_nonneg_left l1 (Rat.le_of_lt (p2_pos p1))
      have k2 := Rat.mul_lt_mul_of_pos_left l2 (p2_pos p2)
      rw [← p2_add] at k1 k2
      have k3 := p2_le (show p2 + ((m2.log2 + 1 : Nat) : Int) ≤ p1 + m1.log2 by omega)
      grind
  unfold lastP
  omega

/-- What is kept keeps order, at one place. -/
theorem kept_mono {n1 n2 : Bool} {m1 m2 : Nat} {p1 p2 : Int} (hl : lastP m1 p1 = lastP m2 p2) (h : (m1 : Rat) * 2 ^ p1 ≤ m2 * 2 ^ p2) : kept n1 m1 p1 ≤ kept n2 m2 p2 := by
  obtain ⟨a1, a2⟩ := kept_val n1 m1 p1
  obtain ⟨b1, b2⟩ := kept_val n2 m2 p2
  have ea := kept_even n1 m1 p1
  have eb := kept_even n2 m2 p2
  rw [← hl] at b1 b2 eb
  have hL := p2_pos (lastP m1 p1)
  generalize (2 : Rat) ^ lastP m1 p1 = L at *
  generalize kept n1 m1 p1 = k1 at *
  generalize kept n2 m2 p2 = k2 at *
  generalize (m1 : Rat) * 2 ^ p1 = R1 at *
  generalize (m2 : Rat) * 2 ^ p2 = R2 at *
  rcases Nat.lt_or_ge k2 k1 with hk | hk
  · exfalso
    have hk2 : (k2 : Rat) + 1 ≤ k1 := by exact_mod_cast hk
    have c := Rat.mul_le_mul_of_nonneg_right hk2 (Rat.le_of_lt hL)
    have c2 : ((k2 : Rat) + 1) * L = k2 * L + L := by grind
    rw [c2] at c
    have e1 := ea (Or.inr (by grind))
    have e2 := eb (Or.inl (by grind))
    have hk1 : (k1 : Rat) * L = (k2 + 1) * L := by grind
    have hne : L ≠ 0 := by grind
    have : (k1 : Rat) = k2 + 1 := by
      have e3 : (k1 : Rat) * L * L⁻¹ = (k2 + 1) * L * L⁻¹ := by rw [hk1]
      rwa [Rat.mul_assoc, Rat.mul_assoc, Rat.mul_inv_cancel _ hne, Rat.mul_one, Rat.mul_one] at e3
    have : k1 = k2 + 1 := by exact_mod_cast this
    omega
  · exact hk
end Go.Proofs.YtiblmojdjnfoaaaGreat.Fl

namespace Go.Proofs.YtiblmojdjnfoaaaGreat.Fl

/-- Not above. -/
def leB (x y : Nat) : Bool := ford x y == some .lt || ford x y == some .eq

theorem leB_val {x y : Nat} (hx : Num x) (hy : Num y) : leB x y = decide (val x ≤ val y) := le_val hx hy

theorem leB_low {x y : Nat} (hx : F64.read x = .infinity true) (hy : isN y = false) : leB x y = true := by
  unfold leB ford Ieee.Format.order
  unfold isN at hy
  rw [hx]
  generalize F64.read y = d at *
  cases d with
  | number s m e => rfl
  | infinity s => cases s <;> rfl
  | nan s f => cases hy
theorem leB_high {x y : Nat} (hy : F64.read y = .infinity false) (hx : isN x = false) : leB x y = true := by
  unfold leB ford Ieee.Format.order
  unfold isN at hx
  rw [hy]
  generalize F64.read x = d at *
  cases d with
  | number s m e => rfl
  | infinity s => cases s <;> rfl
  | nan s f => cases hx

abbrev rungOf (neg : Bool) (mag : Nat) (place : Int) : Nat := (lastP mag place + 1074).toNat * 4503599627370496 + kept neg mag place

theorem rung_mono {n1 n2 : Bool} {m1 m2 : Nat} {p1 p2 : Int} (h1 : m1 ≠ 0) (h2 : m2 ≠ 0) (h : (m1 : Rat) * 2 ^ p1 ≤ m2 * 2 ^ p2) :
    rungOf n1 m1 p1 ≤ rungOf n2 m2 p2 ∧ (kept n1 m1 p1 : Rat) * 2 ^ lastP m1 p1 ≤ kept n2 m2 p2 * 2 ^ lastP m2 p2 := by
  have hl := last_mono h1 h2 h
  obtain ⟨b1, _⟩ := kept_bounds n1 m1 p1 h1
  obtain ⟨_, c2⟩ := kept_bounds n2 m2 p2 h2
  have g1 : -1074 ≤ lastP m1 p1 := by unfold lastP; omega
  unfold rungOf
  rcases Int.lt_or_eq_of_le hl with hlt | heq
  · have hk : 4503599627370496 ≤ kept n2 m2 p2 := by rcases c2 with c2 | c2 <;> omega
    refine ⟨by omega, ?_⟩
    have e1 : (kept n1 m1 p1 : Rat) ≤ 9007199254740992 := by exact_mod_cast b1
    have e2 : (4503599627370496 : Rat) ≤ kept n2 m2 p2 := by exact_mod_cast hk
    have q := p2_le (show lastP m1 p1 + 1 ≤ lastP m2 p2 by omega)
    have q1 : (2 : Rat) ^ (lastP m1 p1 + 1) = 2 ^ lastP m1 p1 * 2 := by rw [p2_add]; congr 1
    rw [q1] at q
    have hp1 := p2_pos (lastP m1 p1)
    have hp2 := p2_pos (lastP m2 p2)
    have f1 := Rat.mul_le_mul_of_nonneg_right e1 (Rat.le_of_lt hp1)
    have f2 := Rat.mul_le_mul_of_nonneg_right e2 (Rat.le_of_lt hp2)
    grind
  · have hk := kept_mono (n1 := n1) (n2 := n2) heq h
    refine ⟨by omega, ?_⟩
    rw [heq]
    exact Rat.mul_le_mul_of_nonneg_right (by exact_mod_cast hk) (Rat.le_of_lt (p2_pos _))

/-- What a written word is: what is kept, or infinite. -/
theorem nearest_is (neg : Bool) {mag : Nat} {place : Int} (h : mag ≠ 0) :
    (rungOf neg mag place < 9218868437227405312 ∧ Num (F64.nearest neg mag place) ∧ val (F64.nearest neg mag place) = sg neg (kept neg mag place * 2 ^ lastP mag place)) ∨
    (9218868437227405312 ≤ rungOf neg mag place ∧ F64.read (F64.nearest neg mag place) = .infinity neg) := by
  rw [nearest_eq neg mag place h]
  obtain ⟨b1, b2⟩ := kept_bounds neg mag place h
  have hE : ((lastP mag place + 1074).toNat : Int) - 1074 = lastP mag place := by unfold lastP; omega
  rcases Nat.lt_or_ge (rungOf neg mag place) 9218868437227405312 with ho | ho
  · left
    refine ⟨ho, ?_⟩
    rw [Nat.min_eq_left (Nat.le_of_lt ho)]
    obtain ⟨m, e, he, hv⟩ := rung_val neg _ _ b1 b2 ho
    rw [hE] at hv
    refine ⟨⟨_, _, _, he⟩, ?_⟩
    unfold val
    rw [he, dval_number, hv]
  · right
    refine ⟨ho, ?_⟩
    rw [Nat.min_eq_right ho, read_inf]

theorem nearest_zero (neg : Bool) (place : Int) : Num (F64.nearest neg 0 place) ∧ val (F64.nearest neg 0 place) = 0 := by
  have : F64.nearest neg 0 place = F64.word neg 0 := by unfold Ieee.Format.nearest; rw [if_pos rfl]
  rw [this]
  have := read_word neg 0 (by decide)
  rw [if_pos (by decide)] at this
  refine ⟨⟨_, _, _, this⟩, ?_⟩
  unfold val
  rw [this, dval_number]
  have : ((0 : Nat) : Rat) * 2 ^ (-1074 : Int) = 0 := Rat.zero_mul _
  rw [this]
  cases neg <;> simp [sg]

theorem not_nan_num {x : Nat} (h : Num x) : isN x = false := by
  obtain ⟨s, m, e, h⟩ := h
  unfold isN
  rw [h]
  rfl
theorem not_nan_inf {x : Nat} {s : Bool} (h : F64.read x = .infinity s) : isN x = false := by
  unfold isN
  rw [h]
  rfl
theorem nearest_not_nan (neg : Bool) (mag : Nat) (place : Int) : isN (F64.nearest neg mag place) = false := by
  rcases nearest_cases neg mag place with h | h
  · exact not_nan_num h
  · exact not_nan_inf h

/-- ROUNDING KEEPS ORDER. -/
theorem nearest_mono {n1 n2 : Bool} {m1 m2 : Nat} {p1 p2 : Int} (h : dval (.number n1 m1 p1) ≤ dval (.number n2 m2 p2)) : leB (F64.nearest n1 m1 p1) (F64.nearest n2 m2 p2) = true := by
  rw [dval_number, dval_number] at h
  have r1 := mag_nonneg m1 p1
  have r2 := mag_nonneg m2 p2
  have zero_of : ∀ (m : Nat) (p : Int), (m : Rat) * 2 ^ p = 0 → m = 0 := by
    intro m p h0
    by_cases hm : m = 0
    · exact hm
    · exfalso
      have : (0 : Rat) < m := by exact_mod_cast Nat.pos_of_ne_zero hm
      have := Rat.mul_pos this (p2_pos p)
      grind
  have kp : ∀ (n : Bool) (m : Nat) (p : Int), (0 : Rat) ≤ kept n m p * 2 ^ lastP m p := fun n m p => mag_nonneg _ _
  by_cases z1 : m1 = 0
  · subst z1
    obtain ⟨a1, v1⟩ := nearest_zero n1 p1
    have e1 : ((0 : Nat) : Rat) * 2 ^ p1 = 0 := Rat.zero_mul _
    by_cases z2 : m2 = 0
    · subst z2
      obtain ⟨a2, v2⟩ := nearest_zero n2 p2
      rw [leB_val a1 a2, v1, v2]
      exact decide_eq_true Rat.le_refl
    · have hn2 : n2 = false := by
        cases n2
        · rfl
        · exfalso
          rw [e1] at h
          have : (m2 : Rat) * 2 ^ p2 = 0 := by cases n1 <;> simp only [sg, if_true, Bool.false_eq_true, if_false] at h <;> grind
          exact z2 (zero_of _ _ this)
      subst hn2
      rcases nearest_is false (place := p2) z2 with ⟨_, a2, v2⟩ | ⟨_, i2⟩
      · rw [leB_val a1 a2, v1, v2]
        exact decide_eq_true (kp _ _ _)
      · exact leB_high i2 (not_nan_num a1)
  · by_cases z2 : m2 = 0
    · subst z2
      obtain ⟨a2, v2⟩ := nearest_zero n2 p2
      have e2 : ((0 : Nat) : Rat) * 2 ^ p2 = 0 := Rat.zero_mul _
      have hn1 : n1 = true := by
        cases n1
        · exfalso
          rw [e2] at h
          have : (m1 : Rat) * 2 ^ p1 = 0 := by cases n2 <;> simp only [sg, if_true, Bool.false_eq_true, if_false] at h <;> grind
          exact z1 (zero_of _ _ this)
        · rfl
      subst hn1
      rcases nearest_is true (place := p1) z1 with ⟨_, a1, v1⟩ | ⟨_, i1⟩
      · rw [leB_val a1 a2, v1, v2]
        have := kp true m1 p1
        exact decide_eq_true (by simp only [sg, if_true]; grind)
      · exact leB_low i1 (not_nan_num a2)
    · cases n1
      · have hn2 : n2 = false := by
          cases n2
          · rfl
          · exfalso
            simp only [sg, if_true, Bool.false_eq_true, if_false] at h
            exact z1 (zero_of m1 p1 (by grind))
        subst hn2
        simp only [sg, Bool.false_eq_true, if_false] at h
        obtain ⟨hr, hv⟩ := rung_mono (n1 := false) (n2 := false) z1 z2 h
        rcases nearest_is false (place := p2) z2 with ⟨o2, a2, v2⟩ | ⟨_, i2⟩
        · rcases nearest_is false (place := p1) z1 with ⟨_, a1, v1⟩ | ⟨o1, _⟩
          · rw [leB_val a1 a2, v1, v2]
            exact decide_eq_true hv
          · omega
        · exact leB_high i2 (nearest_not_nan _ _ _)
      · cases n2
        · rcases nearest_is true (place := p1) z1 with ⟨_, a1, v1⟩ | ⟨_, i1⟩
          · rcases nearest_is false (place := p2) z2 with ⟨_, a2, v2⟩ | ⟨_, i2⟩
            · rw [leB_val a1 a2, v1, v2]
              have q1 := kp true m1 p1
              have q2 := kp false m2 p2
              exact decide_eq_true (by simp only [sg, if_true, Bool.false_eq_true, if_false]; grind)
            · exact leB_high i2 (nearest_not_nan _ _ _)
          · exact leB_low i1 (nearest_not_nan _ _ _)
        · simp only [sg, if_true] at h
          obtain ⟨hr, hv⟩ := rung_mono (n1 := true) (n2 := true) z2 z1 (show (m2 : Rat) * 2 ^ p2 ≤ m1 * 2 ^ p1 by grind)
          rcases nearest_is true (place := p1) z1 with ⟨o1, a1, v1⟩ | ⟨_, i1⟩
          · rcases nearest_is true (place := p2) z2 with ⟨_, a2, v2⟩ | ⟨o2, _⟩
            · rw [leB_val a1 a2, v1, v2]
              exact decide_eq_true (by simp only [sg, if_true]; grind)
            · omega
          · exact leB_low i1 (nearest_not_nan _ _ _)

theorem add_mono {x y u v : Nat} (hx : Num x) (hy : Num y) (hu : Num u) (hv : Num v) (h : val x + val y ≤ val u + val v) : leB (fadd x y) (fadd u v) = true := by
  obtain ⟨n1, m1, p1, e1, v1⟩ := add_near hx hy
  obtain ⟨n2, m2, p2, e2, v2⟩ := add_near hu hv
  rw [e1, e2]
  exact nearest_mono (by rw [v1, v2]; exact h)
theorem sub_mono {x y u v : Nat} (hx : Num x) (hy : Num y) (hu : Num u) (hv : Num v) (h : val x - val y ≤ val u - val v) : leB (fsub x y) (fsub u v) = true := by
  obtain ⟨n1, m1, p1, e1, v1⟩ := sub_near hx hy
  obtain ⟨n2, m2, p2, e2, v2⟩ := sub_near hu hv
  rw [e1, e2]
  exact nearest_mono (by rw [v1, v2]; exact h)
theorem mul_mono {x y u v : Nat} (hx : Num x) (hy : Num y) (hu : Num u) (hv : Num v) (h : val x * val y ≤ val u * val v) : leB (fmul x y) (fmul u v) = true := by
  obtain ⟨n1, m1, p1, e1, v1⟩ := mul_near hx hy
  obtain ⟨n2, m2, p2, e2, v2⟩ := mul_near hu hv
  rw [e1, e2]
  exact nearest_mono (by rw [v1, v2]; exact h)
end Go.Proofs.YtiblmojdjnfoaaaGreat.Fl

namespace Go.Proofs.YtiblmojdjnfoaaaGreat.Fl

theorem write_inf (s : Bool) : F64.read (F64.write (.infinity s)) = .infinity s := by
  unfold Ieee.Format.write
  simp only [ir]
  exact read_inf s

theorem mul_inf_num {a i : Nat} {s t : Bool} {n : Nat} {j : Int} (ha : F64.read a = .infinity s) (hi : F64.read i = .number t n j) (hn : n ≠ 0) : F64.read (fmul a i) = .infinity (s ^^ t) := by
  unfold fmul Ieee.Format.mul
  rw [ha, hi]
  simp only [Ieee.Datum.product, if_neg hn, Option.map_some, Option.getD_some]
  exact write_inf _
theorem mul_num_inf {a i : Nat} {s t : Bool} {m : Nat} {e : Int} (ha : F64.read a = .number s m e) (hi : F64.read i = .infinity t) (hm : m ≠ 0) : F64.read (fmul a i) = .infinity (t ^^ s) := by
  unfold fmul Ieee.Format.mul
  rw [ha, hi]
  simp only [Ieee.Datum.product, if_neg hm, Option.map_some, Option.getD_some]
  exact write_inf _
theorem mul_zero_inf {a i : Nat} {s t : Bool} {e : Int} (ha : F64.read a = .number s 0 e) (hi : F64.read i = .infinity t) : isN (fmul a i) = true := by
  unfold fmul Ieee.Format.mul
  rw [ha, hi]
  simp only [Ieee.Datum.product, if_true, Option.map_none, Option.getD_none]
  exact isN_qnan
theorem mul_inf_inf {a i : Nat} {s t : Bool} (ha : F64.read a = .infinity s) (hi : F64.read i = .infinity t) : F64.read (fmul a i) = .infinity (s ^^ t) := by
  unfold fmul Ieee.Format.mul
  rw [ha, hi]
  simp only [Ieee.Datum.product, Option.map_some, Option.getD_some]
  exact write_inf _

theorem num_sign {x : Nat} {s : Bool} {m : Nat} {e : Int} (h : F64.read x = .number s m e) (hm : m ≠ 0) : if s then val x < 0 else 0 < val x := by
  have hv : val x = sg s ((m : Rat) * 2 ^ e) := by unfold val; rw [h, dval_number]
  have : (0 : Rat) < m := by exact_mod_cast Nat.pos_of_ne_zero hm
  have := Rat.mul_pos this (p2_pos e)
  cases s
  · simp only [Bool.false_eq_true, if_false]
    rw [hv]
    exact this
  · simp only [if_true]
    rw [hv]
    unfold sg
    grind

/-- The product with what is above 0 (t is false), or below it, keeps order, or turns it about. -/
theorem mul_order {a b i : Nat} {t : Bool} (hab : leB a b = true) (hi : (∃ n j, F64.read i = .number t n j ∧ n ≠ 0) ∨ F64.read i = .infinity t) (na : isN (fmul a i) = false) (nb : isN (fmul b i) = false) :
    if t then leB (fmul b i) (fmul a i) = true else leB (fmul a i) (fmul b i) = true := by
  cases ha : F64.read a with
  | nan s f =>
    exfalso
    have : isN a = true := by unfold isN; rw [ha]; rfl
    have := ord_nan_left this b
    unfold leB at hab
    rw [this] at hab
    cases hab
  | infinity s =>
    cases hb : F64.read b with
    | nan u f =>
      exfalso
      have : isN b = true := by unfold isN; rw [hb]; rfl
      have := ord_nan_right this a
      unfold leB at hab
      rw [this] at hab
      cases hab
    | number u m e =>
      have hs : s = true := by
        cases s
        · exfalso
          unfold leB ford Ieee.Format.order at hab
          rw [ha, hb] at hab
          cases hab
        · rfl
      subst hs
      have hr : F64.read (fmul a i) = .infinity (true ^^ t) := by
        rcases hi with ⟨n, j, hi, hn⟩ | hi
        · exact mul_inf_num ha hi hn
        · exact mul_inf_inf ha hi
      cases t
      · exact leB_low hr nb
      · exact leB_high hr nb
    | infinity u =>
      have hra : F64.read (fmul a i) = .infinity (s ^^ t) := by
        rcases hi with ⟨n, j, hi, hn⟩ | hi
        · exact mul_inf_num ha hi hn
        · exact mul_inf_inf ha hi
      have hrb : F64.read (fmul b i) = .infinity (u ^^ t) := by
        rcases hi with ⟨n, j, hi, hn⟩ | hi
        · exact mul_inf_num hb hi hn
        · exact mul_inf_inf hb hi
      cases s
      · have hu : u = false := by
          cases u
          · rfl
          · exfalso
            unfold leB ford Ieee.Format.order at hab
            rw [ha, hb] at hab
            cases hab
        subst hu
        cases t
        · exact leB_high hrb na
        · exact leB_low hrb na
      · cases t
        · exact leB_low hra nb
        · exact leB_high hra nb
  | number s m e =>
    cases hb : F64.read b with
    | nan u f =>
      exfalso
      have : isN b = true := by unfold isN; rw [hb]; rfl
      have := ord_nan_right this a
      unfold leB at hab
      rw [this] at hab
      cases hab
    | infinity u =>
      have hu : u = false := by
        cases u
        · rfl
        · exfalso
          unfold leB ford Ieee.Format.order at hab
          rw [ha, hb] at hab
          cases hab
      subst hu
      have hr : F64.read (fmul b i) = .infinity (false ^^ t) := by
        rcases hi with ⟨n, j, hi, hn⟩ | hi
        · exact mul_inf_num hb hi hn
        · exact mul_inf_inf hb hi
      cases t
      · exact leB_high hr na
      · exact leB_low hr na
    | number u n e2 =>
      have hA : Num a := ⟨_, _, _, ha⟩
      have hB : Num b := ⟨_, _, _, hb⟩
      rw [leB_val hA hB] at hab
      have hle := of_decide_eq_true hab
      rcases hi with ⟨k, j, hi, hk⟩ | hi
      · have hI : Num i := ⟨_, _, _, hi⟩
        have hsg := num_sign hi hk
        cases t
        · simp only [Bool.false_eq_true, if_false] at hsg ⊢
          exact mul_mono hA hI hB hI (Rat.mul_le_mul_of_nonneg_right hle (Rat.le_of_lt hsg))
        · simp only [if_true] at hsg ⊢
          refine mul_mono hB hI hA hI ?_
          have := Rat.mul_le_mul_of_nonneg_right hle (show 0 ≤ -val i by grind)
          grind
      · have hm : m ≠ 0 := by
          intro h0
          subst h0
          rw [mul_zero_inf ha hi] at na
          cases na
        have hn : n ≠ 0 := by
          intro h0
          subst h0
          rw [mul_zero_inf hb hi] at nb
          cases nb
        have hra := mul_num_inf ha hi hm
        have hrb := mul_num_inf hb hi hn
        have sa := num_sign ha hm
        have sb := num_sign hb hn
        cases s
        · have hu : u = false := by
            cases u
            · rfl
            · exfalso
              simp only [Bool.false_eq_true, if_false, if_true] at sa sb
              grind
          subst hu
          cases t
          · exact leB_high hrb na
          · exact leB_low hrb na
        · cases t
          · exact leB_low hra nb
          · exact leB_high hra nb

/-- What is not below the one, and not above the other. -/
theorem leB_trans {x y z : Nat} (h : leB x y = true) (k : leB y z = true) : leB x z = true := by
  have nx : isN x = false := by
    cases hn : isN x
    · rfl
    · unfold leB at h; rw [ord_nan_left hn y] at h; cases h
  have ny : isN y = false := by
    cases hn : isN y
    · rfl
    · unfold leB at k; rw [ord_nan_left hn z] at k; cases k
  have nz : isN z = false := by
    cases hn : isN z
    · rfl
    · unfold leB at k; rw [ord_nan_right hn y] at k; cases k
  cases hx : F64.read x with
  | nan s f => unfold isN at nx; rw [hx] at nx; cases nx
  | infinity s =>
    cases s
    · cases hy : F64.read y with
      | nan s f => unfold isN at ny; rw [hy] at ny; cases ny
      | infinity u =>
        cases u
        · cases hz : F64.read z with
          | nan s f => unfold isN at nz; rw [hz] at nz; cases nz
          | infinity v =>
            cases v
            · exact leB_high hz nx
            · unfold leB ford Ieee.Format.order at k; rw [hy, hz] at k; cases k
          | number s m e => unfold leB ford Ieee.Format.order at k; rw [hy, hz] at k; cases k
        · unfold leB ford Ieee.Format.order at h; rw [hx, hy] at h; cases h
      | number s m e => unfold leB ford Ieee.Format.order at h; rw [hx, hy] at h; cases h
    · exact leB_low hx nz
  | number s m e =>
    cases hz : F64.read z with
    | nan s f => unfold isN at nz; rw [hz] at nz; cases nz
    | infinity v =>
      cases v
      · exact leB_high hz nx
      · cases hy : F64.read y with
        | nan s f => unfold isN at ny; rw [hy] at ny; cases ny
        | infinity u =>
          cases u
          · unfold leB ford Ieee.Format.order at k; rw [hy, hz] at k; cases k
          · unfold leB ford Ieee.Format.order at h; rw [hx, hy] at h; cases h
        | number s m e => unfold leB ford Ieee.Format.order at k; rw [hy, hz] at k; cases k
    | number s' m' e' =>
      cases hy : F64.read y with
      | nan s f => unfold isN at ny; rw [hy] at ny; cases ny
      | infinity u =>
        cases u
        · unfold leB ford Ieee.Format.order at k; rw [hy, hz] at k; cases k
        · unfold leB ford Ieee.Format.order at h; rw [hx, hy] at h; cases h
      | number s'' m'' e'' =>
        have hX : Num x := ⟨_, _, _, hx⟩
        have hY : Num y := ⟨_, _, _, hy⟩
        have hZ : Num z := ⟨_, _, _, hz⟩
        rw [leB_val hX hY] at h
        rw [leB_val hY hZ] at k
        rw [leB_val hX hZ]
        exact decide_eq_true (Rat.le_trans (of_decide_eq_true h) (of_decide_eq_true k))
end Go.Proofs.YtiblmojdjnfoaaaGreat.Fl

namespace Go.Proofs.YtiblmojdjnfoaaaGreat.Fl

theorem ford_swap (x y : Nat) : ford y x = (ford x y).map Ordering.swap := by
  unfold ford Ieee.Format.order
  generalize F64.read x = d
  generalize F64.read y = e
  cases d with
  | nan s f => cases e <;> rfl
  | infinity s =>
    cases e with
    | nan t f => rfl
    | infinity t => cases s <;> cases t <;> rfl
    | number t n j => cases s <;> rfl
  | number s m i =>
    cases e with
    | nan t f => rfl
    | infinity t => cases t <;> rfl
    | number t n j =>
      simp only [Ieee.Datum.order, Option.map_some]
      rw [Int.min_comm j i, Int.compare_swap]

theorem ford_some {x y : Nat} (hx : isN x = false) (hy : isN y = false) : ∃ o, ford x y = some o := by
  unfold isN at hx hy
  unfold ford Ieee.Format.order
  generalize F64.read x = d at *
  generalize F64.read y = e at *
  cases d <;> cases e <;> first | exact ⟨_, rfl⟩ | cases (show true = false from hx) | cases (show true = false from hy)

theorem leB_refl {x : Nat} (h : isN x = false) : leB x x = true := by
  unfold leB
  rw [ford_refl h]
  rfl

/-- '>=' is '<=' the other way round. -/
theorem geB_eq (x y : Nat) : (ford x y == some .gt || ford x y == some .eq) = leB y x := by
  unfold leB
  rw [ford_swap x y]
  cases h : ford x y with
  | none => rfl
  | some o => cases o <;> rfl

theorem leB_of_lt {x y : Nat} (h : ford x y = some .lt) : leB x y = true := by unfold leB; rw [h]; rfl
theorem leB_of_gt {x y : Nat} (h : ford x y = some .gt) : leB y x = true := by rw [← geB_eq, h]; rfl
theorem leB_not_nan {x y : Nat} (h : leB x y = true) : isN x = false ∧ isN y = false := by
  constructor
  · cases hn : isN x
    · rfl
    · unfold leB at h; rw [ord_nan_left hn y] at h; cases h
  · cases hn : isN y
    · rfl
    · unfold leB at h; rw [ord_nan_right hn x] at h; cases h

/-- The lesser one, the first, if the second is not; the greater one likewise. -/
def lowF (a b : Nat) : Nat := if ford b a == some .lt then b else a
def highF (a b : Nat) : Nat := if ford b a == some .gt then b else a

theorem high_nan {a b : Nat} (h : isN b = true) : highF a b = a := by unfold highF; rw [ord_nan_left h a]; rfl
theorem low_nan {a b : Nat} (h : isN b = true) : lowF a b = a := by unfold lowF; rw [ord_nan_left h a]; rfl
theorem high_le {a b : Nat} (h : leB b a = true) : highF a b = a := by
  unfold highF
  unfold leB at h
  cases k : ford b a with
  | none => rfl
  | some o =>
    cases o
    · rfl
    · rfl
    · rw [k] at h; cases h
theorem low_le {a b : Nat} (h : leB a b = true) : lowF a b = a := by
  unfold lowF
  rw [← geB_eq] at h
  cases k : ford b a with
  | none => rfl
  | some o =>
    cases o
    · rw [k] at h; cases h
    · rfl
    · rfl
theorem high_ge {a : Nat} (b : Nat) (h : isN a = false) : leB a (highF a b) = true := by
  unfold highF
  cases k : ford b a == some .gt
  · simpa using leB_refl h
  · simp only [if_true]
    exact leB_of_gt (by simpa using k)
theorem low_ge {a : Nat} (b : Nat) (h : isN a = false) : leB (lowF a b) a = true := by
  unfold lowF
  cases k : ford b a == some .lt
  · simpa using leB_refl h
  · simp only [if_true]
    exact leB_of_lt (by simpa using k)
theorem high_ge2 {a b : Nat} (h : isN a = false) (k : isN b = false) : leB b (highF a b) = true := by
  obtain ⟨o, ho⟩ := ford_some k h
  unfold highF
  rw [ho]
  cases o
  · exact leB_of_lt ho
  · show leB b a = true
    unfold leB; rw [ho]; rfl
  · exact leB_refl k
theorem low_ge2 {a b : Nat} (h : isN a = false) (k : isN b = false) : leB (lowF a b) b = true := by
  obtain ⟨o, ho⟩ := ford_some k h
  unfold lowF
  rw [ho]
  cases o
  · exact leB_refl k
  · show leB a b = true
    rw [← geB_eq, ho]; rfl
  · exact leB_of_gt ho
theorem high_or (a b : Nat) : highF a b = a ∨ highF a b = b ∧ ford b a = some .gt := by
  unfold highF
  cases k : ford b a == some .gt
  · left; rfl
  · right; exact ⟨rfl, by simpa using k⟩
theorem low_or (a b : Nat) : lowF a b = a ∨ lowF a b = b ∧ ford b a = some .lt := by
  unfold lowF
  cases k : ford b a == some .lt
  · left; rfl
  · right; exact ⟨rfl, by simpa using k⟩
theorem high_num {a b : Nat} (h : isN a = false) : isN (highF a b) = false := (leB_not_nan (high_ge b h)).2
theorem low_num {a b : Nat} (h : isN a = false) : isN (lowF a b) = false := (leB_not_nan (low_ge b h)).1

/-- A greater start and a greater candidate give a greater one; a candidate that is none says nothing. -/
theorem high_mono {a b x y : Nat} (h : leB a b = true) (k : isN x = true ∨ leB x y = true ∨ leB x a = true) : leB (highF a x) (highF b y) = true := by
  obtain ⟨na, nb⟩ := leB_not_nan h
  have hb := leB_trans h (high_ge y nb)
  rcases k with k | k | k
  · rw [high_nan k]; exact hb
  · rcases high_or a x with e | ⟨e, _⟩
    · rw [e]; exact hb
    · rw [e]; exact leB_trans k (high_ge2 nb (leB_not_nan k).2)
  · rw [high_le k]; exact hb
theorem low_mono {a b x y : Nat} (h : leB a b = true) (k : isN y = true ∨ leB x y = true ∨ leB b y = true) : leB (lowF a x) (lowF b y) = true := by
  obtain ⟨na, nb⟩ := leB_not_nan h
  have hb := leB_trans (low_ge x na) h
  rcases k with k | k | k
  · rw [low_nan k]; exact hb
  · rcases low_or b y with e | ⟨e, _⟩
    · rw [e]; exact hb
    · rw [e]; exact leB_trans (low_ge2 na (leB_not_nan k).1) k
  · rw [low_le k]; exact hb
end Go.Proofs.YtiblmojdjnfoaaaGreat.Fl

namespace Go.Proofs.YtiblmojdjnfoaaaGreat.Fl

theorem read_low {x : Nat} {s : Bool} {m : Nat} {e : Int} (h : F64.read x = .number s m e) : -1074 ≤ e := by
  unfold Ieee.Format.read at h
  simp only [sw, bn, ir, lp] at h
  generalize x % 9223372036854775808 = r at *
  split at h
  · injection h with _ _ h2; omega
  · split at h
    · injection h with _ _ h2; omega
    · split at h <;> cases h

theorem cut_none (neg : Bool) (n : Nat) : Ieee.Toward.even.cut neg n 0 = n := by
  unfold Ieee.Toward.cut
  simp [Nat.mod_one]

/-- What a word stands for is written as it is. -/
theorem nearest_exact {x : Nat} {s : Bool} {m : Nat} {e : Int} (h : F64.read x = .number s m e) : Num (F64.nearest s m e) ∧ val (F64.nearest s m e) = val x := by
  have hv : val x = sg s ((m : Rat) * 2 ^ e) := by unfold val; rw [h, dval_number]
  by_cases hm : m = 0
  · subst hm
    obtain ⟨a, v⟩ := nearest_zero s e
    refine ⟨a, ?_⟩
    rw [v, hv]
    have : ((0 : Nat) : Rat) * 2 ^ e = 0 := Rat.zero_mul _
    rw [this]
    cases s <;> simp [sg]
  · obtain ⟨b1, b2⟩ := number_bounds h
    have b3 := read_low h
    have l1 : m < 2 ^ 53 := by omega
    have l2 : m.log2 < 53 := (Nat.log2_lt hm).2 l1
    have hl : lastP m e ≤ e := by unfold lastP; omega
    have hd : (lastP m e - e).toNat = 0 := by omega
    have hk : kept s m e = m * 2 ^ (e - lastP m e).toNat := by
      unfold kept
      rw [hd, cut_none, Nat.shiftLeft_eq]
    have l3 : m < 2 ^ (m.log2 + 1) := Nat.lt_log2_self
    have hk2 : kept s m e < 9007199254740992 := by
      rw [hk]
      have e1 : m * 2 ^ (e - lastP m e).toNat < 2 ^ (m.log2 + 1) * 2 ^ (e - lastP m e).toNat := Nat.mul_lt_mul_of_pos_right l3 (Nat.two_pow_pos _)
      have e2 : 2 ^ (m.log2 + 1) * 2 ^ (e - lastP m e).toNat ≤ 2 ^ 53 := by
        rw [← Nat.pow_add]
        exact Nat.pow_le_pow_right (by decide) (by unfold lastP; omega)
      omega
    have hr : (lastP m e + 1074).toNat ≤ 2045 := by omega
    rcases nearest_is s (place := e) hm with ⟨_, a, v⟩ | ⟨o, _⟩
    · refine ⟨a, ?_⟩
      rw [v, hv, hk]
      congr 1
      rw [Rat.natCast_mul, ← p2_nat, Rat.mul_assoc, ← p2_add]
      congr 2
      omega
    · exfalso
      unfold rungOf at o
      omega

theorem log2_gap {q d a : Nat} (hq : q ≠ 0) (h1 : a < 2 ^ d) : (q * 2 ^ d + a).log2 = q.log2 + d := by
  have hp := Nat.two_pow_pos d
  have hne : q * 2 ^ d + a ≠ 0 := by
    have := Nat.mul_pos (Nat.pos_of_ne_zero hq) hp
    omega
  rw [Nat.log2_eq_iff hne]
  have l1 : 2 ^ q.log2 ≤ q := Nat.log2_self_le hq
  have l2 : q < 2 ^ (q.log2 + 1) := Nat.lt_log2_self
  constructor
  · rw [Nat.pow_add]
    exact Nat.le_trans (Nat.mul_le_mul_right _ l1) (Nat.le_add_right _ _)
  · rw [show q.log2 + d + 1 = (q.log2 + 1) + d by omega, Nat.pow_add]
    have : (q + 1) * 2 ^ d ≤ 2 ^ (q.log2 + 1) * 2 ^ d := Nat.mul_le_mul_right _ l2
    rw [Nat.add_mul, Nat.one_mul] at this
    omega

theorem cut_gap (neg : Bool) {q d a g : Nat} (hq : q ≠ 0) (h0 : 0 < a) (h1 : a < 2 ^ d) (hd : 0 < d) (hg : 2 ≤ g) :
    Ieee.Toward.even.cut neg (q * 2 ^ d + a) (g + d - 1) = Ieee.Toward.even.cut neg (2 * q + 1) g := by
  have e1 : (2 * q + 1).log2 = q.log2 + 1 := by
    have := log2_gap (d := 1) (a := 1) hq (by decide)
    rwa [show q * 2 ^ 1 + 1 = 2 * q + 1 by omega] at this
  unfold Ieee.Toward.cut
  simp only [Nat.one_shiftLeft]
  rw [log2_gap hq h1, e1]
  have e2 : min (g + d - 1) (q.log2 + d + 2) = min g (q.log2 + 1 + 2) - 2 + 1 + d := by omega
  have e3 : min g (q.log2 + 1 + 2) = min g (q.log2 + 1 + 2) - 2 + 2 := by omega
  rw [e2]
  rw [e3]
  generalize min g (q.log2 + 1 + 2) - 2 = c
  have f1 : 2 ^ (c + 1 + d) = 2 * 2 ^ c * 2 ^ d := by rw [Nat.pow_add, Nat.pow_succ, Nat.mul_comm (2 ^ c) 2]
  have f2 : 2 ^ (c + 2) = 4 * 2 ^ c := by rw [Nat.pow_add]; omega
  rw [show c + 2 - 2 + 1 + d = c + 1 + d by omega, f1, f2]
  have hH := Nat.two_pow_pos c
  generalize 2 ^ c = H at *
  generalize 2 ^ d = D at *
  have hD : 0 < D := by omega
  have hqe := Nat.div_add_mod q (2 * H)
  have ht := Nat.mod_lt q (show 0 < 2 * H by omega)
  generalize q / (2 * H) = l at *
  generalize q % (2 * H) = t at *
  -- the one
  have n1 : q * D + a = 2 * H * D * l + (t * D + a) := by
    rw [← hqe, Nat.add_mul]
    have : 2 * H * l * D = 2 * H * D * l := by rw [Nat.mul_assoc, Nat.mul_comm l D, ← Nat.mul_assoc]
    omega
  have r1 : t * D + a < 2 * H * D := by
    have : (t + 1) * D ≤ 2 * H * D := Nat.mul_le_mul_right _ ht
    rw [Nat.add_mul, Nat.one_mul] at this
    omega
  have d1 : (q * D + a) / (2 * H * D) = l := by
    rw [n1, Nat.mul_add_div (by omega), Nat.div_eq_of_lt r1, Nat.add_zero]
  have m1 : (q * D + a) % (2 * H * D) = t * D + a := by
    rw [n1, Nat.mul_add_mod, Nat.mod_eq_of_lt r1]
  -- the other
  have n2 : 2 * q + 1 = 4 * H * l + (2 * t + 1) := by
    rw [← hqe]
    have : 4 * H * l = 2 * (2 * H * l) := by rw [← Nat.mul_assoc, ← Nat.mul_assoc]
    omega
  have d2 : (2 * q + 1) / (4 * H) = l := by
    rw [n2, Nat.mul_add_div (by omega), Nat.div_eq_of_lt (by omega), Nat.add_zero]
  have m2 : (2 * q + 1) % (4 * H) = 2 * t + 1 := by
    rw [n2, Nat.mul_add_mod, Nat.mod_eq_of_lt (by omega)]
  rw [d1, m1, d2, m2]
  have c2 : (4 * H == 2 * (2 * t + 1)) = false := by simp; omega
  have key : (2 * H * D < 2 * (t * D + a)) ↔ H ≤ t := by
    constructor
    · intro h
      rcases Nat.lt_or_ge t H with k | k
      · have : (t + 1) * D ≤ H * D := Nat.mul_le_mul_right _ k
        rw [Nat.add_mul, Nat.one_mul] at this
        have e : 2 * H * D = 2 * (H * D) := Nat.mul_assoc _ _ _
        omega
      · exact k
    · intro h
      have : H * D ≤ t * D := Nat.mul_le_mul_right _ h
      have e : 2 * H * D = 2 * (H * D) := Nat.mul_assoc _ _ _
      omega
  have key2 : (2 * H * D == 2 * (t * D + a)) = false := by
    simp only [beq_eq_false_iff_ne, ne_eq]
    intro h
    have e : 2 * H * D = 2 * (H * D) := Nat.mul_assoc _ _ _
    rcases Nat.lt_or_ge t H with k | k
    · have : (t + 1) * D ≤ H * D := Nat.mul_le_mul_right _ k
      rw [Nat.add_mul, Nat.one_mul] at this
      omega
    · have : H * D ≤ t * D := Nat.mul_le_mul_right _ k
      omega
  have c1 : decide (2 * H * D < 2 * (t * D + a)) = decide (4 * H < 2 * (2 * t + 1)) := decide_eq_decide.2 (key.trans (by omega))
  simp only [key2, c2, c1]

/-- Between two halves of a unit all is written as one. -/
theorem nearest_gap (neg : Bool) {q d a : Nat} {p : Int} (hq : 9007199254740992 ≤ q) (h0 : 0 < a) (h1 : a < 2 ^ d) (hd : 0 < d) :
    F64.nearest neg (q * 2 ^ d + a) p = F64.nearest neg (2 * q + 1) (p + d - 1) := by
  have hq0 : q ≠ 0 := by omega
  have hl : 53 ≤ q.log2 := (Nat.le_log2 hq0).2 hq
  have e1 : (2 * q + 1).log2 = q.log2 + 1 := by
    have := log2_gap (d := 1) (a := 1) hq0 (by decide)
    rwa [show q * 2 ^ 1 + 1 = 2 * q + 1 by omega] at this
  have e0 := log2_gap (d := d) (a := a) hq0 h1
  have hne : q * 2 ^ d + a ≠ 0 := by omega
  rw [nearest_eq neg _ p hne, nearest_eq neg (2 * q + 1) _ (by omega)]
  have hlast : lastP (2 * q + 1) (p + d - 1) = lastP (q * 2 ^ d + a) p := by
    unfold lastP; rw [e1, e0]; omega
  have hk : kept neg (q * 2 ^ d + a) p = kept neg (2 * q + 1) (p + d - 1) := by
    unfold kept
    rw [hlast]
    have z1 : (p - lastP (q * 2 ^ d + a) p).toNat = 0 := by unfold lastP; rw [e0]; omega
    have z2 : (p + d - 1 - lastP (q * 2 ^ d + a) p).toNat = 0 := by unfold lastP; rw [e0]; omega
    rw [z1, z2, Nat.shiftLeft_zero, Nat.shiftLeft_zero]
    have hg : 2 ≤ (lastP (q * 2 ^ d + a) p - (p + d - 1)).toNat := by unfold lastP; rw [e0]; omega
    have hgd : (lastP (q * 2 ^ d + a) p - p).toNat = (lastP (q * 2 ^ d + a) p - (p + d - 1)).toNat + d - 1 := by omega
    rw [hgd]
    exact cut_gap neg hq0 h0 h1 hd hg
  rw [hlast, hk]

/-- A quotient's digits. -/
theorem div_form {x y : Nat} {s : Bool} {m n : Nat} {i j : Int} (hx : F64.read x = .number s m i) (hy : F64.read y = .number false n j) (hn : n ≠ 0) :
    fdiv x y = F64.nearest s (2 * (m * 2 ^ (54 + n.log2 - m.log2) / n) + (m * 2 ^ (54 + n.log2 - m.log2) % n != 0).toNat) (i - j - ((54 + n.log2 - m.log2 : Nat) : Int) - 1) := by
  unfold fdiv Ieee.Format.div
  have hf : F64.fractionBits + 2 = 54 := by decide +kernel
  rw [hx, hy, hf]
  simp only [Ieee.Datum.quotient, hn, if_false, Option.map_some, Option.getD_some, Nat.shiftLeft_eq, Bool.xor_false]
  rfl

theorem ne_toNat (r : Nat) : (r != 0).toNat = 0 ∧ r = 0 ∨ (r != 0).toNat = 1 ∧ 0 < r := by
  rcases Nat.eq_zero_or_pos r with h0 | h0
  · left; subst h0; exact ⟨rfl, rfl⟩
  · right
    have : (r != 0) = true := by simp; omega
    rw [this]; exact ⟨rfl, h0⟩

/-- Quotients by one divisor, as whole numbers. -/
theorem quot_mono {D1 D2 n dl : Nat} (hn : 0 < n) (h : D1 ≤ D2 * 2 ^ dl) :
    2 * (D1 / n) + (D1 % n != 0).toNat ≤ (2 * (D2 / n) + (D2 % n != 0).toNat) * 2 ^ dl ∨
    ∃ a, 0 < a ∧ a < 2 ^ (dl + 1) ∧ 2 * (D1 / n) + (D1 % n != 0).toNat = D2 / n * 2 ^ (dl + 1) + a ∧ 2 * (D2 / n) + (D2 % n != 0).toNat = 2 * (D2 / n) + 1 := by
  have e1 := Nat.div_add_mod D1 n
  have e2 := Nat.div_add_mod D2 n
  have r1 := Nat.mod_lt D1 hn
  have r2 := Nat.mod_lt D2 hn
  rcases Nat.lt_or_ge ((2 * (D2 / n) + (D2 % n != 0).toNat) * 2 ^ dl) (2 * (D1 / n) + (D1 % n != 0).toNat) with k | k
  · right
    have hp := Nat.two_pow_pos dl
    rw [Nat.pow_succ]
    generalize 2 ^ dl = P at *
    generalize D1 / n = q1 at *
    generalize D2 / n = q2 at *
    generalize D1 % n = a1 at *
    generalize D2 % n = a2 at *
    have hlt : n * q1 < n * ((q2 + 1) * P) := by
      have : D2 * P < n * (q2 + 1) * P := by
        refine Nat.mul_lt_mul_of_pos_right ?_ hp
        rw [Nat.mul_add]
        omega
      rw [← Nat.mul_assoc]
      omega
    have hlt2 : q1 < (q2 + 1) * P := Nat.lt_of_mul_lt_mul_left hlt
    rw [Nat.add_mul, Nat.one_mul] at hlt2
    have z : 2 * (q2 * P) = q2 * (P * 2) := by rw [← Nat.mul_assoc, Nat.mul_comm 2, Nat.mul_assoc, Nat.mul_comm 2]
    rcases ne_toNat a2 with ⟨b2, c2⟩ | ⟨b2, c2⟩
    · exfalso
      rw [b2, Nat.add_zero, Nat.mul_assoc] at k
      subst c2
      have hle : n * q1 + a1 ≤ n * (q2 * P) := by
        rw [← Nat.mul_assoc]
        rw [Nat.add_zero] at e2
        rw [e2, e1]
        exact h
      have hle2 : q1 ≤ q2 * P := Nat.le_of_mul_le_mul_left (Nat.le_trans (Nat.le_add_right _ _) hle) hn
      rcases ne_toNat a1 with ⟨b1, c1⟩ | ⟨b1, c1⟩
      · omega
      · have : q1 = q2 * P := by omega
        rw [this] at hle
        omega
    · rw [b2, Nat.add_mul, Nat.one_mul, Nat.mul_assoc] at k
      refine ⟨2 * q1 + (a1 != 0).toNat - q2 * (P * 2), ?_, ?_, ?_, by rw [b2]⟩
      · omega
      · rcases ne_toNat a1 with ⟨b1, c1⟩ | ⟨b1, c1⟩ <;> omega
      · omega
  · left
    exact k

theorem quot_big {m n : Nat} (hm : m ≠ 0) (hn : n ≠ 0) : 9007199254740992 ≤ m * 2 ^ (54 + n.log2 - m.log2) / n := by
  rw [Nat.le_div_iff_mul_le (Nat.pos_of_ne_zero hn)]
  have l1 : 2 ^ m.log2 ≤ m := Nat.log2_self_le hm
  have l2 : n < 2 ^ (n.log2 + 1) := Nat.lt_log2_self
  have l3 : 2 ^ (54 + n.log2) ≤ m * 2 ^ (54 + n.log2 - m.log2) := by
    refine Nat.le_trans ?_ (Nat.mul_le_mul_right _ l1)
    rw [← Nat.pow_add]
    exact Nat.pow_le_pow_right (by decide) (by omega)
  have l4 : 2 ^ (54 + n.log2) = 9007199254740992 * 2 ^ (n.log2 + 1) := by
    rw [show 54 + n.log2 = 53 + (n.log2 + 1) by omega, Nat.pow_add]
  omega

theorem log2_52 {x : Nat} {s : Bool} {m : Nat} {e : Int} (h : F64.read x = .number s m e) : m.log2 ≤ 52 := by
  by_cases hm : m = 0
  · subst hm; decide
  · have b := (number_bounds h).1
    have : m.log2 < 53 := (Nat.log2_lt hm).2 (by omega)
    omega

/-- QUOTIENTS BY ONE DIVISOR ABOVE 0 KEEP ORDER (of numbers not below 0). -/
theorem div_mono {x1 x2 y : Nat} (h1 : Num x1) (h2 : Num x2) (hy : Num y) (y0 : 0 < val y) (x0 : 0 ≤ val x1) (h : val x1 ≤ val x2) : leB (fdiv x1 y) (fdiv x2 y) = true := by
  obtain ⟨s1, m1, i1, h1⟩ := h1
  obtain ⟨s2, m2, i2, h2⟩ := h2
  obtain ⟨t, n, j, hy⟩ := hy
  have v1 : val x1 = sg s1 ((m1 : Rat) * 2 ^ i1) := by unfold val; rw [h1, dval_number]
  have v2 : val x2 = sg s2 ((m2 : Rat) * 2 ^ i2) := by unfold val; rw [h2, dval_number]
  have vy : val y = sg t ((n : Rat) * 2 ^ j) := by unfold val; rw [hy, dval_number]
  have ny := mag_nonneg n j
  have p1 := mag_nonneg m1 i1
  have p2 := mag_nonneg m2 i2
  have ht : t = false := by
    cases t
    · rfl
    · exfalso
      simp only [sg, if_true] at vy
      grind
  subst ht
  have hn : n ≠ 0 := by
    intro h0
    subst h0
    have : ((0 : Nat) : Rat) * 2 ^ j = 0 := Rat.zero_mul _
    simp only [sg, Bool.false_eq_true, if_false, this] at vy
    grind
  have pos_of : ∀ (m : Nat) (p : Int), m ≠ 0 → (0 : Rat) < (m : Rat) * 2 ^ p := by
    intro m p hm
    have : (0 : Rat) < m := by exact_mod_cast Nat.pos_of_ne_zero hm
    exact Rat.mul_pos this (p2_pos p)
  rw [div_form h1 hy hn, div_form h2 hy hn]
  have q0 : ∀ k : Nat, 0 * 2 ^ k / n = 0 := fun k => by rw [Nat.zero_mul, Nat.zero_div]
  have q1 : ∀ k : Nat, 0 * 2 ^ k % n = 0 := fun k => by rw [Nat.zero_mul, Nat.zero_mod]
  have z0 : ((0 != 0 : Bool)).toNat = 0 := rfl
  have zz : ∀ (s : Bool) (p : Int), dval (.number s 0 p) = 0 := by
    intro s p
    rw [dval_number]
    have : ((0 : Nat) : Rat) * 2 ^ p = 0 := Rat.zero_mul _
    rw [this]
    cases s <;> simp [sg]
  by_cases z2 : m2 = 0
  · subst z2
    have e2 : ((0 : Nat) : Rat) * 2 ^ i2 = 0 := Rat.zero_mul _
    have z1 : m1 = 0 := by
      refine Classical.byContradiction fun hm => ?_
      have := pos_of m1 i1 hm
      rw [v1] at h x0
      rw [v2, e2] at h
      cases s1 <;> cases s2 <;> simp only [sg, if_true, Bool.false_eq_true, if_false] at h x0 <;> grind
    subst z1
    rw [q0, q1]
    exact nearest_mono (by rw [z0, Nat.mul_zero, Nat.zero_add, zz, zz]; exact Rat.le_refl)
  · have s2f : s2 = false := by
      cases s2
      · rfl
      · exfalso
        have := pos_of m2 i2 z2
        rw [v2] at h
        simp only [sg, if_true] at h
        grind
    subst s2f
    by_cases z1 : m1 = 0
    · subst z1
      rw [q0, q1]
      refine nearest_mono ?_
      rw [z0, Nat.mul_zero, Nat.zero_add, zz, dval_number]
      simp only [sg, Bool.false_eq_true, if_false]
      exact mag_nonneg _ _
    · have s1f : s1 = false := by
        cases s1
        · rfl
        · exfalso
          have := pos_of m1 i1 z1
          rw [v1] at x0
          simp only [sg, if_true] at x0
          grind
      subst s1f
      simp only [sg, Bool.false_eq_true, if_false] at v1 v2
      rw [v1, v2] at h
      have l1 := log2_52 h1
      have l2 := log2_52 h2
      -- the places of the first digits
      have hpl : i1 + m1.log2 ≤ i2 + m2.log2 := by
        refine Classical.byContradiction fun hc => ?_
        have a1 : 2 ^ m1.log2 ≤ m1 := Nat.log2_self_le z1
        have a2 : m2 < 2 ^ (m2.log2 + 1) := Nat.lt_log2_self
        have b1 : (2 : Rat) ^ (m1.log2 : Int) ≤ m1 := by rw [p2_nat]; exact_mod_cast a1
        have b2 : (m2 : Rat) < 2 ^ ((m2.log2 + 1 : Nat) : Int) := by rw [p2_nat]; exact_mod_cast a2
        have c1 := Rat.mul_le_mul_of_nonneg_right b1 (Rat.le_of_lt (p2_pos i1))
        have c2 := Rat.mul_lt_mul_of_pos_right b2 (p2_pos i2)
        rw [← p2_add] at c1 c2
        have c3 := p2_le (show ((m2.log2 + 1 : Nat) : Int) + i2 ≤ (m1.log2 : Int) + i1 by omega)
        grind
      generalize hk1 : 54 + n.log2 - m1.log2 = k1
      generalize hk2 : 54 + n.log2 - m2.log2 = k2
      have hq := quot_big (n := n) z2 hn
      rw [hk2] at hq
      have hle : i1 - k1 ≤ i2 - k2 := by omega
      generalize hdl : ((i2 - k2) - (i1 - k1)).toNat = dl
      have hD : m1 * 2 ^ k1 ≤ m2 * 2 ^ k2 * 2 ^ dl := by
        have e1 : (m1 : Rat) * 2 ^ i1 = ((m1 * 2 ^ k1 : Nat) : Rat) * 2 ^ (i1 - k1) := by
          rw [Rat.natCast_mul, ← p2_nat, Rat.mul_assoc, ← p2_add]
          congr 2
          omega
        have e2 : (m2 : Rat) * 2 ^ i2 = ((m2 * 2 ^ k2 * 2 ^ dl : Nat) : Rat) * 2 ^ (i1 - k1) := by
          rw [Rat.natCast_mul, Rat.natCast_mul, ← p2_nat, ← p2_nat, Rat.mul_assoc, Rat.mul_assoc, ← p2_add, ← p2_add]
          congr 2
          omega
        rw [e1, e2] at h
        have := Rat.le_of_mul_le_mul_right h (p2_pos (i1 - k1))
        exact_mod_cast this
      rcases quot_mono (Nat.pos_of_ne_zero hn) hD with k | ⟨a, a0, a1, ea, eb⟩
      · refine nearest_mono ?_
        rw [dval_number, dval_number]
        simp only [sg, Bool.false_eq_true, if_false]
        generalize 2 * (m1 * 2 ^ k1 / n) + (m1 * 2 ^ k1 % n != 0).toNat = Q1 at *
        generalize 2 * (m2 * 2 ^ k2 / n) + (m2 * 2 ^ k2 % n != 0).toNat = Q2 at *
        have e2 : (Q2 : Rat) * 2 ^ (i2 - j - (k2 : Int) - 1) = ((Q2 * 2 ^ dl : Nat) : Rat) * 2 ^ (i1 - j - (k1 : Int) - 1) := by
          rw [Rat.natCast_mul, ← p2_nat, Rat.mul_assoc, ← p2_add]
          congr 2
          omega
        rw [e2]
        exact Rat.mul_le_mul_of_nonneg_right (by exact_mod_cast k) (Rat.le_of_lt (p2_pos _))
      · rw [ea, eb, nearest_gap false hq a0 a1 (by omega), show i1 - j - (k1 : Int) - 1 + ((dl + 1 : Nat) : Int) - 1 = i2 - j - (k2 : Int) - 1 by omega]
        exact leB_refl (nearest_not_nan _ _ _)
end Go.Proofs.YtiblmojdjnfoaaaGreat.Fl
