/- Rounding keeps order: of written words, of differences, of products. Products keep order, infinite ones too. Lesser and greater ones of floats. Numbers that need no rounding; quotients keep order. Words not below 0, infinite or not: sums, products, quotients keep order; what is cut off behind the point. What a light weighs, of a number not below 0: at least 1, at most 2^20; of a greater one not less. -/
import Derived.Laws.FloatArith
import Derived.Test.YtijoaklknpkdoaaGreatG3
namespace Go.Proofs.YtijoaklknpkdoaaGreat.Fl

/-- Not above. -/
def leB (x y : Nat) : Bool := ford x y == some .lt || ford x y == some .eq

theorem leB_val {x y : Nat} (hx : Num x) (hy : Num y) : leB x y = decide (val x ≤ val y) := le_val hx hy

theorem leB_low {x y : Nat} (hx : F64.read x = .infinity true) (hy : isN y = false) : leB x y = true := by
  unfold leB ford Ieee.Format.order
  unfold isN at hy
  rw [hx]
  generalize F64.read y = d at *
  cases d with
  | number s m e => rfl
  | infinity s => cases s <;> rfl
  | nan s f => cases hy
theorem leB_high {x y : Nat} (hy : F64.read y = .infinity false) (hx : isN x = false) : leB x y = true := by
  unfold leB ford Ieee.Format.order
  unfold isN at hx
  rw [hy]
  generalize F64.read x = d at *
  cases d with
  | number s m e => rfl
  | infinity s => cases s <;> rfl
  | nan s f => cases hx

abbrev rungOf (neg : Bool) (mag : Nat) (place : Int) : Nat := (lastP mag place + 1074).toNat * 4503599627370496 + kept neg mag place

theorem rung_mono {n1 n2 : Bool} {m1 m2 : Nat} {p1 p2 : Int} (h1 : m1 ≠ 0) (h2 : m2 ≠ 0) (h : (m1 : Rat) * 2 ^ p1 ≤ m2 * 2 ^ p2) :
    rungOf n1 m1 p1 ≤ rungOf n2 m2 p2 ∧ (kept n1 m1 p1 : Rat) * 2 ^ lastP m1 p1 ≤ kept n2 m2 p2 * 2 ^ lastP m2 p2 := by
  have hl := last_mono h1 h2 h
  obtain ⟨b1, _⟩ := kept_bounds n1 m1 p1 h1
  obtain ⟨_, c2⟩ := kept_bounds n2 m2 p2 h2
  have g1 : -1074 ≤ lastP m1 p1 := by unfold lastP; omega
  unfold rungOf
  rcases Int.lt_or_eq_of_le hl with hlt | heq
  · have hk : 4503599627370496 ≤ kept n2 m2 p2 := by rcases c2 with c2 | c2 <;> omega
    refine ⟨by omega, ?_⟩
    have e1 : (kept n1 m1 p1 : Rat) ≤ 9007199254740992 := by exact_mod_cast b1
    have e2 : (4503599627370496 : Rat) ≤ kept n2 m2 p2 := by exact_mod_cast hk
    have q := p2_le (show lastP m1 p1 + 1 ≤ lastP m2 p2 by omega)
    have q1 : (2 : Rat) ^ (lastP m1 p1 + 1) = 2 ^ lastP m1 p1 * 2 := by rw [p2_add]; congr 1
    rw [q1] at q
    have hp1 := p2_pos (lastP m1 p1)
    have hp2 := p2_pos (lastP m2 p2)
    have f1 := Rat.mul_le_mul_of_nonneg_right e1 (Rat.le_of_lt hp1)
    have f2 := Rat.mul_le_mul_of_nonneg_right e2 (Rat.le_of_lt hp2)
    grind
  · have hk := kept_mono (n1 := n1) (n2 := n2) heq h
    refine ⟨by omega, ?_⟩
    rw [heq]
    exact Rat.mul_le_mul_of_nonneg_right (by exact_mod_cast hk) (Rat.le_of_lt (p2_pos _))

/-- What a written word is: what is kept, or infinite. -/
theorem nearest_is (neg : Bool) {mag : Nat} {place : Int} (h : mag ≠ 0) :
    (rungOf neg mag place < 9218868437227405312 ∧ Num (F64.nearest neg mag place) ∧ val (F64.nearest neg mag place) = sg neg (kept neg mag place * 2 ^ lastP mag place)) ∨
    (9218868437227405312 ≤ rungOf neg mag place ∧ F64.read (F64.nearest neg mag place) = .infinity neg) := by
  rw [nearest_eq neg mag place h]
  obtain ⟨b1, b2⟩ := kept_bounds neg mag place h
  have hE : ((lastP mag place + 1074).toNat : Int) - 1074 = lastP mag place := by unfold lastP; omega
  rcases Nat.lt_or_ge (rungOf neg mag place) 9218868437227405312 with ho | ho
  · left
    refine ⟨ho, ?_⟩
    rw [Nat.min_eq_left (Nat.le_of_lt ho)]
    obtain ⟨m, e, he, hv⟩ := rung_val neg _ _ b1 b2 ho
    rw [hE] at hv
    refine ⟨⟨_, _, _, he⟩, ?_⟩
    unfold val
    rw [he, dval_number, hv]
  · right
    refine ⟨ho, ?_⟩
    rw [Nat.min_eq_right ho, read_inf]

theorem nearest_zero (neg : Bool) (place : Int) : Num (F64.nearest neg 0 place) ∧ val (F64.nearest neg 0 place) = 0 := by
  have : F64.nearest neg 0 place = F64.word neg 0 := by unfold Ieee.Format.nearest; rw [if_pos rfl]
  rw [this]
  have := read_word neg 0 (by decide)
  rw [if_pos (by decide)] at this
  refine ⟨⟨_, _, _, this⟩, ?_⟩
  unfold val
  rw [this, dval_number]
  have : ((0 : Nat) : Rat) * 2 ^ (-1074 : Int) = 0 := Rat.zero_mul _
  rw [this]
  cases neg <;> simp [sg]

theorem not_nan_num {x : Nat} (h : Num x) : isN x = false := by
  obtain ⟨s, m, e, h⟩ := h
  unfold isN
  rw [h]
  rfl
theorem not_nan_inf {x : Nat} {s : Bool} (h : F64.read x = .infinity s) : isN x = false := by
  unfold isN
  rw [h]
  rfl
theorem nearest_not_nan (neg : Bool) (mag : Nat) (place : Int) : isN (F64.nearest neg mag place) = false := by
  rcases nearest_cases neg mag place with h | h
  · exact not_nan_num h
  · exact not_nan_inf h

/-- ROUNDING KEEPS ORDER. -/
theorem nearest_mono {n1 n2 : Bool} {m1 m2 : Nat} {p1 p2 : Int} (h : dval (.number n1 m1 p1) ≤ dval (.number n2 m2 p2)) : leB (F64.nearest n1 m1 p1) (F64.nearest n2 m2 p2) = true := by
  rw [dval_number, dval_number] at h
  have r1 := mag_nonneg m1 p1
  have r2 := mag_nonneg m2 p2
  have zero_of : ∀ (m : Nat) (p : Int), (m : Rat) * 2 ^ p = 0 → m = 0 := by
    intro m p h0
    by_cases hm : m = 0
    · exact hm
    · exfalso
      have : (0 : Rat) < m := by exact_mod_cast Nat.pos_of_ne_zero hm
      have := Rat.mul_pos this (p2_pos p)
      grind
  have kp : ∀ (n : Bool) (m : Nat) (p : Int), (0 : Rat) ≤ kept n m p * 2 ^ lastP m p := fun n m p => mag_nonneg _ _
  by_cases z1 : m1 = 0
  · subst z1
    obtain ⟨a1, v1⟩ := nearest_zero n1 p1
    have e1 : ((0 : Nat) : Rat) * 2 ^ p1 = 0 := Rat.zero_mul _
    by_cases z2 : m2 = 0
    · subst z2
      obtain ⟨a2, v2⟩ := nearest_zero n2 p2
      rw [leB_val a1 a2, v1, v2]
      exact decide_eq_true Rat.le_refl
    · have hn2 : n2 = false := by
        cases n2
        · rfl
        · exfalso
          rw [e1] at h
          have : (m2 : Rat) * 2 ^ p2 = 0 := by cases n1 <;> simp only [sg, if_true, Bool.false_eq_true, if_false] at h <;> grind
          exact z2 (zero_of _ _ this)
      subst hn2
      rcases nearest_is false (place := p2) z2 with ⟨_, a2, v2⟩ | ⟨_, i2⟩
      · rw [leB_val a1 a2, v1, v2]
        exact decide_eq_true (kp _ _ _)
      · exact leB_high i2 (not_nan_num a1)
  · by_cases z2 : m2 = 0
    · subst z2
      obtain ⟨a2, v2⟩ := nearest_zero n2 p2
      have e2 : ((0 : Nat) : Rat) * 2 ^ p2 = 0 := Rat.zero_mul _
      have hn1 : n1 = true := by
        cases n1
        · exfalso
          rw [e2] at h
          have : (m1 : Rat) * 2 ^ p1 = 0 := by cases n2 <;> simp only [sg, if_true, Bool.false_eq_true, if_false] at h <;> grind
          exact z1 (zero_of _ _ this)
        · rfl
      subst hn1
      rcases nearest_is true (place := p1) z1 with ⟨_, a1, v1⟩ | ⟨_, i1⟩
      · rw [leB_val a1 a2, v1, v2]
        have := kp true m1 p1
        exact decide_eq_true (by simp only [sg, if_true]; grind)
      · exact leB_low i1 (not_nan_num a2)
    · cases n1
      · have hn2 : n2 = false := by
          cases n2
          · rfl
          · exfalso
            simp only [sg, if_true, Bool.false_eq_true, if_false] at h
            exact z1 (zero_of m1 p1 (by grind))
        subst hn2
        simp only [sg, Bool.false_eq_true, if_false] at h
        obtain ⟨hr, hv⟩ := rung_mono (n1 := false) (n2 := false) z1 z2 h
        rcases nearest_is false (place := p2) z2 with ⟨o2, a2, v2⟩ | ⟨_, i2⟩
        · rcases nearest_is false (place := p1) z1 with ⟨_, a1, v1⟩ | ⟨o1, _⟩
          · rw [leB_val a1 a2, v1, v2]
            exact decide_eq_true hv
          · omega
        · exact leB_high i2 (nearest_not_nan _ _ _)
      · cases n2
        · rcases nearest_is true (place := p1) z1 with ⟨_, a1, v1⟩ | ⟨_, i1⟩
          · rcases nearest_is false (place := p2) z2 with ⟨_, a2, v2⟩ | ⟨_, i2⟩
            · rw [leB_val a1 a2, v1, v2]
              have q1 := kp true m1 p1
              have q2 := kp false m2 p2
              exact decide_eq_true (by simp only [sg, if_true, Bool.false_eq_true, if_false]; grind)
            · exact leB_high i2 (nearest_not_nan _ _ _)
          · exact leB_low i1 (nearest_not_nan _ _ _)
        · simp only [sg, if_true] at h
          obtain ⟨hr, hv⟩ := rung_mono (n1 := true) (n2 := true) z2 z1 (show (m2 : Rat) * 2 ^ p2 ≤ m1 * 2 ^ p1 by grind)
          rcases nearest_is true (place := p1) z1 with ⟨o1, a1, v1⟩ | ⟨_, i1⟩
          · rcases nearest_is true (place := p2) z2 with ⟨_, a2, v2⟩ | ⟨o2, _⟩
            · rw [leB_val a1 a2, v1, v2]
              exact decide_eq_true (by simp only [sg, if_true]; grind)
            · omega
          · exact leB_low i1 (nearest_not_nan _ _ _)

theorem add_mono {x y u v : Nat} (hx : Num x) (hy : Num y) (hu : Num u) (hv : Num v) (h : val x + val y ≤ val u + val v) : leB (fadd x y) (fadd u v) = true := by
  obtain ⟨n1, m1, p1, e1, v1⟩ := add_near hx hy
  obtain ⟨n2, m2, p2, e2, v2⟩ := add_near hu hv
  rw [e1, e2]
  exact nearest_mono (by rw [v1, v2]; exact h)
theorem sub_mono {x y u v : Nat} (hx : Num x) (hy : Num y) (hu : Num u) (hv : Num v) (h : val x - val y ≤ val u - val v) : leB (fsub x y) (fsub u v) = true := by
  obtain ⟨n1, m1, p1, e1, v1⟩ := sub_near hx hy
  obtain ⟨n2, m2, p2, e2, v2⟩ := sub_near hu hv
  rw [e1, e2]
  exact nearest_mono (by rw [v1, v2]; exact h)
theorem mul_mono {x y u v : Nat} (hx : Num x) (hy : Num y) (hu : Num u) (hv : Num v) (h : val x * val y ≤ val u * val v) : leB (fmul x y) (fmul u v) = true := by
  obtain ⟨n1, m1, p1, e1, v1⟩ := mul_near hx hy
  obtain ⟨n2, m2, p2, e2, v2⟩ := mul_near hu hv
  rw [e1, e2]
  exact nearest_mono (by rw [v1, v2]; exact h)
end Go.Proofs.YtijoaklknpkdoaaGreat.Fl

namespace Go.Proofs.YtijoaklknpkdoaaGreat.Fl

theorem write_inf (s : Bool) : F64.read (F64.write (.infinity s)) = .infinity s := by
  unfold Ieee.Format.write
  simp only [ir]
  exact read_inf s

theorem mul_inf_num {a i : Nat} {s t : Bool} {n : Nat} {j : Int} (ha : F64.read a = .infinity s) (hi : F64.read i = .number t n j) (hn : n ≠ 0) : F64.read (fmul a i) = .infinity (s ^^ t) := by
  unfold fmul Ieee.Format.mul
  rw [ha, hi]
  simp only [Ieee.Datum.product, if_neg hn, Option.map_some, Option.getD_some]
  exact write_inf _
theorem mul_num_inf {a i : Nat} {s t : Bool} {m : Nat} {e : Int} (ha : F64.read a = .number s m e) (hi : F64.read i = .infinity t) (hm : m ≠ 0) : F64.read (fmul a i) = .infinity (t ^^ s) := by
  unfold fmul Ieee.Format.mul
  rw [ha, hi]
  simp only [Ieee.Datum.product, if_neg hm, Option.map_some, Option.getD_some]
  exact write_inf _
theorem mul_zero_inf {a i : Nat} {s t : Bool} {e : Int} (ha : F64.read a = .number s 0 e) (hi : F64.read i = .infinity t) : isN (fmul a i) = true := by
  unfold fmul Ieee.Format.mul
  rw [ha, hi]
  simp only [Ieee.Datum.product, if_true, Option.map_none, Option.getD_none]
  exact isN_qnan
theorem mul_inf_inf {a i : Nat} {s t : Bool} (ha : F64.read a = .infinity s) (hi : F64.read i = .infinity t) : F64.read (fmul a i) = .infinity (s ^^ t) := by
  unfold fmul Ieee.Format.mul
  rw [ha, hi]
  simp only [Ieee.Datum.product, Option.map_some, Option.getD_some]
  exact write_inf _

theorem num_sign {x : Nat} {s : Bool} {m : Nat} {e : Int} (h : F64.read x = .number s m e) (hm : m ≠ 0) : if s then val x < 0 else 0 < val x := by
  have hv : val x = sg s ((m : Rat) * 2 ^ e) := by unfold val; rw [h, dval_number]
  have : (0 : Rat) < m := by exact_mod_cast Nat.pos_of_ne_zero hm
  have := Rat.mul_pos this (p2_pos e)
  cases s
  · simp only [Bool.false_eq_true, if_false]
    rw [hv]
    exact this
  · simp only [if_true]
    rw [hv]
    unfold sg
    grind

/-- The product with what is above 0 (t is false), or below it, keeps order, or turns it about. -/
theorem mul_order {a b i : Nat} {t : Bool} (hab : leB a b = true) (hi : (∃ n j, F64.read i = .number t n j ∧ n ≠ 0) ∨ F64.read i = .infinity t) (na : isN (fmul a i) = false) (nb : isN (fmul b i) = false) :
    if t then leB (fmul b i) (fmul a i) = true else leB (fmul a i) (fmul b i) = true := by
  cases ha : F64.read a with
  | nan s f =>
    exfalso
    have : isN a = true := by unfold isN; rw [ha]; rfl
    have := ord_nan_left this b
    unfold leB at hab
    rw [this] at hab
    cases hab
  | infinity s =>
    cases hb : F64.read b with
    | nan u f =>
      exfalso
      have : isN b = true := by unfold isN; rw [hb]; rfl
      have := ord_nan_right this a
      unfold leB at hab
      rw [this] at hab
      cases hab
    | number u m e =>
      have hs : s = true := by
        cases s
        · exfalso
          unfold leB ford Ieee.Format.order at hab
          rw [ha, hb] at hab
          cases hab
        · rfl
      subst hs
      have hr : F64.read (fmul a i) = .infinity (true ^^ t) := by
        rcases hi with ⟨n, j, hi, hn⟩ | hi
        · exact mul_inf_num ha hi hn
        · exact mul_inf_inf ha hi
      cases t
      · exact leB_low hr nb
      · exact leB_high hr nb
    | infinity u =>
      have hra : F64.read (fmul a i) = .infinity (s ^^ t) := by
        rcases hi with ⟨n, j, hi, hn⟩ | hi
        · exact mul_inf_num ha hi hn
        · exact mul_inf_inf ha hi
      have hrb : F64.read (fmul b i) = .infinity (u ^^ t) := by
        rcases hi with ⟨n, j, hi, hn⟩ | hi
        · exact mul_inf_num hb hi hn
        · exact mul_inf_inf hb hi
      cases s
      · have hu : u = false := by
          cases u
          · rfl
          · exfalso
            unfold leB ford Ieee.Format.order at hab
            rw [ha, hb] at hab
            cases hab
        subst hu
        cases t
        · exact leB_high hrb na
        · exact leB_low hrb na
      · cases t
        · exact leB_low hra nb
        · exact leB_high hra nb
  | number s m e =>
    cases hb : F64.read b with
    | nan u f =>
      exfalso
      have : isN b = true := by unfold isN; rw [hb]; rfl
      have := ord_nan_right this a
      unfold leB at hab
      rw [this] at hab
      cases hab
    | infinity u =>
      have hu : u = false := by
        cases u
        · rfl
        · exfalso
          unfold leB ford Ieee.Format.order at hab
          rw [ha, hb] at hab
          cases hab
      subst hu
      have hr : F64.read (fmul b i) = .infinity (false ^^ t) := by
        rcases hi with ⟨n, j, hi, hn⟩ | hi
        · exact mul_inf_num hb hi hn
        · exact mul_inf_inf hb hi
      cases t
      · exact leB_high hr na
      · exact leB_low hr na
    | number u n e2 =>
      have hA : Num a := ⟨_, _, _, ha⟩
      have hB : Num b := ⟨_, _, _, hb⟩
      rw [leB_val hA hB] at hab
      have hle := of_decide_eq_true hab
      rcases hi with ⟨k, j, hi, hk⟩ | hi
      · have hI : Num i := ⟨_, _, _, hi⟩
        have hsg := num_sign hi hk
        cases t
        · simp only [Bool.false_eq_true, if_false] at hsg ⊢
          exact mul_mono hA hI hB hI (Rat.mul_le_mul_of_nonneg_right hle (Rat.le_of_lt hsg))
        · simp only [if_true] at hsg ⊢
          refine mul_mono hB hI hA hI ?_
          have := Rat.mul_le_mul_of_nonneg_right hle (show 0 ≤ -val i by grind)
          grind
      · have hm : m ≠ 0 := by
          intro h0
          subst h0
          rw [mul_zero_inf ha hi] at na
          cases na
        have hn : n ≠ 0 := by
          intro h0
          subst h0
          rw [mul_zero_inf hb hi] at nb
          cases nb
        have hra := mul_num_inf ha hi hm
        have hrb := mul_num_inf hb hi hn
        have sa := num_sign ha hm
        have sb := num_sign hb hn
        cases s
        · have hu : u = false := by
            cases u
            · rfl
            · exfalso
              simp only [Bool.false_eq_true, if_false, if_true] at sa sb
              grind
          subst hu
          cases t
          · exact leB_high hrb na
          · exact leB_low hrb na
        · cases t
          · exact leB_low hra nb
          · exact leB_high hra nb

/-- What is not below the one, and not above the other. -/
theorem leB_trans {x y z : Nat} (h : leB x y = true) (k : leB y z = true) : leB x z = true := by
  have nx : isN x = false := by
    cases hn : isN x
    · rfl
    · unfold leB at h; rw [ord_nan_left hn y] at h; cases h
  have ny : isN y = false := by
    cases hn : isN y
    · rfl
    · unfold leB at k; rw [ord_nan_left hn z] at k; cases k
  have nz : isN z = false := by
    cases hn : isN z
    · rfl
    · unfold leB at k; rw [ord_nan_right hn y] at k; cases k
  cases hx : F64.read x with
  | nan s f => unfold isN at nx; rw [hx] at nx; cases nx
  | infinity s =>
    cases s
    · cases hy : F64.read y with
      | nan s f => unfold isN at ny; rw [hy] at ny; cases ny
      | infinity u =>
        cases u
        · cases hz : F64.read z with
          | nan s f => unfold isN at nz; rw [hz] at nz; cases nz
          | infinity v =>
            cases v
            · exact leB_high hz nx
            · unfold leB ford Ieee.Format.order at k; rw [hy, hz] at k; cases k
          | number s m e => unfold leB ford Ieee.Format.order at k; rw [hy, hz] at k; cases k
        · unfold leB ford Ieee.Format.order at h; rw [hx, hy] at h; cases h
      | number s m e => unfold leB ford Ieee.Format.order at h; rw [hx, hy] at h; cases h
    · exact leB_low hx nz
  | number s m e =>
    cases hz : F64.read z with
    | nan s f => unfold isN at nz; rw [hz] at nz; cases nz
    | infinity v =>
      cases v
      · exact leB_high hz nx
      · cases hy : F64.read y with
        | nan s f => unfold isN at ny; rw [hy] at ny; cases ny
        | infinity u =>
          cases u
          · unfold leB ford Ieee.Format.order at k; rw [hy, hz] at k; cases k
          · unfold leB ford Ieee.Format.order at h; rw [hx, hy] at h; cases h
        | number s m e => unfold leB ford Ieee.Format.order at k; rw [hy, hz] at k; cases k
    | number s' m' e' =>
      cases hy : F64.read y with
      | nan s f => unfold isN at ny; rw [hy] at ny; cases ny
      | infinity u =>
        cases u
        · unfold leB ford Ieee.Format.order at k; rw [hy, hz] at k; cases k
        · unfold leB ford Ieee.Format.order at h; rw [hx, hy] at h; cases h
      | number s'' m'' e'' =>
        have hX : Num x := ⟨_, _, _, hx⟩
        have hY : Num y := ⟨_, _, _, hy⟩
        have hZ : Num z := ⟨_, _, _, hz⟩
        rw [leB_val hX hY] at h
        rw [leB_val hY hZ] at k
        rw [leB_val hX hZ]
        exact decide_eq_true (Rat.le_trans (of_decide_eq_true h) (of_decide_eq_true k))
end Go.Proofs.YtijoaklknpkdoaaGreat.Fl

namespace Go.Proofs.YtijoaklknpkdoaaGreat.Fl

theorem ford_swap (x y : Nat) : ford y x = (ford x y).map Ordering.swap := by
  unfold ford Ieee.Format.order
  generalize F64.read x = d
  generalize F64.read y = e
  cases d with
  | nan s f => cases e <;> rfl
  | infinity s =>
    cases e with
    | nan t f => rfl
    | infinity t => cases s <;> cases t <;> rfl
    | number t n j => cases s <;> rfl
  | number s m i =>
    cases e with
    | nan t f => rfl
    | infinity t => cases t <;> rfl
    | number t n j =>
      simp only [Ieee.Datum.order, Option.map_some]
      rw [Int.min_comm j i, Int.compare_swap]

theorem ford_some {x y : Nat} (hx : isN x = false) (hy : isN y = false) : ∃ o, ford x y = some o := by
  unfold isN at hx hy
  unfold ford Ieee.Format.order
  generalize F64.read x = d at *
  generalize F64.read y = e at *
  cases d <;> cases e <;> first | exact ⟨_, rfl⟩ | cases (show true = false from hx) | cases (show true = false from hy)

theorem leB_refl {x : Nat} (h : isN x = false) : leB x x = true := by
  unfold leB
  rw [ford_refl h]
  rfl

/-- '>=' is '<=' the other way round. -/
theorem geB_eq (x y : Nat) : (ford x y == some .gt || ford x y == some .eq) = leB y x := by
  unfold leB
  rw [ford_swap x y]
  cases h : ford x y with
  | none => rfl
  | some o => cases o <;> rfl

theorem leB_of_lt {x y : Nat} (h : ford x y = some .lt) : leB x y = true := by unfold leB; rw [h]; rfl
theorem leB_of_gt {x y : Nat} (h : ford x y = some .gt) : leB y x = true := by rw [← geB_eq, h]; rfl
theorem leB_not_nan {x y : Nat} (h : leB x y = true) : isN x = false ∧ isN y = false := by
  constructor
  · cases hn : isN x
    · rfl
    · unfold leB at h; rw [ord_nan_left hn y] at h; cases h
  · cases hn : isN y
    · rfl
    · unfold leB at h; rw [ord_nan_right hn x] at h; cases h

/-- The lesser one, the first, if the second is not; the greater one likewise. -/
def lowF (a b : Nat) : Nat := if ford b a == some .lt then b else a
def highF (a b : Nat) : Nat := if ford b a == some .gt then b else a

theorem high_nan {a b : Nat} (h : isN b = true) : highF a b = a := by unfold highF; rw [ord_nan_left h a]; rfl
theorem low_nan {a b : Nat} (h : isN b = true) : lowF a b = a := by unfold lowF; rw [ord_nan_left h a]; rfl
theorem high_le {a b : Nat} (h : leB b a = true) : highF a b = a := by
  unfold highF
  unfold leB at h
  cases k : ford b a with
  | none => rfl
  | some o =>
    cases o
    · rfl
    · rfl
    · rw [k] at h; cases h
theorem low_le {a b : Nat} (h : leB a b = true) : lowF a b = a := by
  unfold lowF
  rw [← geB_eq] at h
  cases k : ford b a with
  | none => rfl
  | some o =>
    cases o
    · rw [k] at h; cases h
    · rfl
    · rfl
theorem high_ge {a : Nat} (b : Nat) (h : isN a = false) : leB a (highF a b) = true := by
  unfold highF
  cases k : ford b a == some .gt
  · simpa using leB_refl h
  · simp only [if_true]
    exact leB_of_gt (by simpa using k)
theorem low_ge {a : Nat} (b : Nat) (h : isN a = false) : leB (lowF a b) a = true := by
  unfold lowF
  cases k : ford b a == some .lt
  · simpa using leB_refl h
  · simp only [if_true]
    exact leB_of_lt (by simpa using k)
theorem high_ge2 {a b : Nat} (h : isN a = false) (k : isN b = false) : leB b (highF a b) = true := by
  obtain ⟨o, ho⟩ := ford_some k h
  unfold highF
  rw [ho]
  cases o
  · exact leB_of_lt ho
  · show leB b a = true
    unfold leB; rw [ho]; rfl
  · exact leB_refl k
theorem low_ge2 {a b : Nat} (h : isN a = false) (k : isN b = false) : leB (lowF a b) b = true := by
  obtain ⟨o, ho⟩ := ford_some k h
  unfold lowF
  rw [ho]
  cases o
  · exact leB_refl k
  · show leB a b = true
    rw [← geB_eq, ho]; rfl
  · exact leB_of_gt ho
theorem high_or (a b : Nat) : highF a b = a ∨ highF a b = b ∧ ford b a = some .gt := by
  unfold highF
  cases k : ford b a == some .gt
  · left; rfl
  · right; exact ⟨rfl, by simpa using k⟩
theorem low_or (a b : Nat) : lowF a b = a ∨ lowF a b = b ∧ ford b a = some .lt := by
  unfold lowF
  cases k : ford b a == some .lt
  · left; rfl
  · right; exact ⟨rfl, by simpa using k⟩
theorem high_num {a b : Nat} (h : isN a = false) : isN (highF a b) = false := (leB_not_nan (high_ge b h)).2
theorem low_num {a b : Nat} (h : isN a = false) : isN (lowF a b) = false := (leB_not_nan (low_ge b h)).1

/-- A greater start and a greater candidate give a greater one; a candidate that is none says nothing. -/
theorem high_mono {a b x y : Nat} (h : leB a b = true) (k : isN x = true ∨ leB x y = true ∨ leB x a = true) : leB (highF a x) (highF b y) = true := by
  obtain ⟨na, nb⟩ := leB_not_nan h
  have hb := leB_trans h (high_ge y nb)
  rcases k with k | k | k
  · rw [high_nan k]; exact hb
  · rcases high_or a x with e | ⟨e, _⟩
    · rw [e]; exact hb
    · rw [e]; exact leB_trans k (high_ge2 nb (leB_not_nan k).2)
  · rw [high_le k]; exact hb
theorem low_mono {a b x y : Nat} (h : leB a b = true) (k : isN y = true ∨ leB x y = true ∨ leB b y = true) : leB (lowF a x) (lowF b y) = true := by
  obtain ⟨na, nb⟩ := leB_not_nan h
  have hb := leB_trans (low_ge x na) h
  rcases k with k | k | k
  · rw [low_nan k]; exact hb
  · rcases low_or b y with e | ⟨e, _⟩
    · rw [e]; exact hb
    · rw [e]; exact leB_trans (low_ge2 na (leB_not_nan k).1) k
  · rw [low_le k]; exact hb
end Go.Proofs.YtijoaklknpkdoaaGreat.Fl

namespace Go.Proofs.YtijoaklknpkdoaaGreat.Fl

theorem read_low {x : Nat} {s : Bool} {m : Nat} {e : Int} (h : F64.read x = .number s m e) : -1074 ≤ e := by
  unfold Ieee.Format.read at h
  simp only [sw, bn, ir, lp] at h
  generalize x % 9223372036854775808 = r at *
  split at h
  · injection h with _ _ h2; omega
  · split at h
    · injection h with _ _ h2; omega
    · split at h <;> cases h

theorem cut_none (neg : Bool) (n : Nat) : Ieee.Toward.even.cut neg n 0 = n := by
  unfold Ieee.Toward.cut
  simp [Nat.mod_one]

/-- What a word stands for is written as it is. -/
theorem nearest_exact {x : Nat} {s : Bool} {m : Nat} {e : Int} (h : F64.read x = .number s m e) : Num (F64.nearest s m e) ∧ val (F64.nearest s m e) = val x := by
  have hv : val x = sg s ((m : Rat) * 2 ^ e) := by unfold val; rw [h, dval_number]
  by_cases hm : m = 0
  · subst hm
    obtain ⟨a, v⟩ := nearest_zero s e
    refine ⟨a, ?_⟩
    rw [v, hv]
    have : ((0 : Nat) : Rat) * 2 ^ e = 0 := Rat.zero_mul _
    rw [this]
    cases s <;> simp [sg]
  · obtain ⟨b1, b2⟩ := number_bounds h
    have b3 := read_low h
    have l1 : m < 2 ^ 53 := by omega
    have l2 : m.log2 < 53 := (Nat.log2_lt hm).2 l1
    have hl : lastP m e ≤ e := by unfold lastP; omega
    have hd : (lastP m e - e).toNat = 0 := by omega
    have hk : kept s m e = m * 2 ^ (e - lastP m e).toNat := by
      unfold kept
      rw [hd, cut_none, Nat.shiftLeft_eq]
    have l3 : m < 2 ^ (m.log2 + 1) := Nat.lt_log2_self
    have hk2 : kept s m e < 9007199254740992 := by
      rw [hk]
      have e1 : m * 2 ^ (e - lastP m e).toNat < 2 ^ (m.log2 + 1) * 2 ^ (e - lastP m e).toNat := Nat.mul_lt_mul_of_pos_right l3 (Nat.two_pow_pos _)
      have e2 : 2 ^ (m.log2 + 1) * 2 ^ (e - lastP m e).toNat ≤ 2 ^ 53 := by
        rw [← Nat.pow_add]
        exact Nat.pow_le_pow_right (by decide) (by unfold lastP; omega)
      omega
    have hr : (lastP m e + 1074).toNat ≤ 2045 := by omega
    rcases nearest_is s (place := e) hm with ⟨_, a, v⟩ | ⟨o, _⟩
    · refine ⟨a, ?_⟩
      rw [v, hv, hk]
      congr 1
      rw [Rat.natCast_mul, ← p2_nat, Rat.mul_assoc, ← p2_add]
      congr 2
      omega
    · exfalso
      unfold rungOf at o
      omega

theorem log2_gap {q d a : Nat} (hq : q ≠ 0) (h1 : a < 2 ^ d) : (q * 2 ^ d + a).log2 = q.log2 + d := by
  have hp := Nat.two_pow_pos d
  have hne : q * 2 ^ d + a ≠ 0 := by
    have := Nat.mul_pos (Nat.pos_of_ne_zero hq) hp
    omega
  rw [Nat.log2_eq_iff hne]
  have l1 : 2 ^ q.log2 ≤ q := Nat.log2_self_le hq
  have l2 : q < 2 ^ (q.log2 + 1) := Nat.lt_log2_self
  constructor
  · rw [Nat.pow_add]
    exact Nat.le_trans (Nat.mul_le_mul_right _ l1) (Nat.le_add_right _ _)
  · rw [show q.log2 + d + 1 = (q.log2 + 1) + d by omega, Nat.pow_add]
    have : (q + 1) * 2 ^ d ≤ 2 ^ (q.log2 + 1) * 2 ^ d := Nat.mul_le_mul_right _ l2
    rw [Nat.add_mul, Nat.one_mul] at this
    omega

theorem cut_gap (neg : Bool) {q d a g : Nat} (hq : q ≠ 0) (h0 : 0 < a) (h1 : a < 2 ^ d) (hd : 0 < d) (hg : 2 ≤ g) :
    Ieee.Toward.even.cut neg (q * 2 ^ d + a) (g + d - 1) = Ieee.Toward.even.cut neg (2 * q + 1) g := by
  have e1 : (2 * q + 1).log2 = q.log2 + 1 := by
    have := log2_gap (d := 1) (a := 1) hq (by decide)
    rwa [show q * 2 ^ 1 + 1 = 2 * q + 1 by omega] at this
  unfold Ieee.Toward.cut
  simp only [Nat.one_shiftLeft]
  rw [log2_gap hq h1, e1]
  have e2 : min (g + d - 1) (q.log2 + d + 2) = min g (q.log2 + 1 + 2) - 2 + 1 + d := by omega
  have e3 : min g (q.log2 + 1 + 2) = min g (q.log2 + 1 + 2) - 2 + 2 := by omega
  rw [e2]
  rw [e3]
  generalize min g (q.log2 + 1 + 2) - 2 = c
  have f1 : 2 ^ (c + 1 + d) = 2 * 2 ^ c * 2 ^ d := by rw [Nat.pow_add, Nat.pow_succ, Nat.mul_comm (2 ^ c) 2]
  have f2 : 2 ^ (c + 2) = 4 * 2 ^ c := by rw [Nat.pow_add]; omega
  rw [show c + 2 - 2 + 1 + d = c + 1 + d by omega, f1, f2]
  have hH := Nat.two_pow_pos c
  generalize 2 ^ c = H at *
  generalize 2 ^ d = D at *
  have hD : 0 < D := by omega
  have hqe := Nat.div_add_mod q (2 * H)
  have ht := Nat.mod_lt q (show 0 < 2 * H by omega)
  generalize q / (2 * H) = l at *
  generalize q % (2 * H) = t at *
  -- the one
  have n1 : q * D + a = 2 * H * D * l + (t * D + a) := by
    rw [← hqe, Nat.add_mul]
    have : 2 * H * l * D = 2 * H * D * l := by rw [Nat.mul_assoc, Nat.mul_comm l D, ← Nat.mul_assoc]
    omega
  have r1 : t * D + a < 2 * H * D := by
    have : (t + 1) * D ≤ 2 * H * D := Nat.mul_le_mul_right _ ht
    rw [Nat.add_mul, Nat.one_mul] at this
    omega
  have d1 : (q * D + a) / (2 * H * D) = l := by
    rw [n1, Nat.mul_add_div (by omega), Nat.div_eq_of_lt r1, Nat.add_zero]
  have m1 : (q * D + a) % (2 * H * D) = t * D + a := by
    rw [n1, Nat.mul_add_mod, Nat.mod_eq_of_lt r1]
  -- the other
  have n2 : 2 * q + 1 = 4 * H * l + (2 * t + 1) := by
    rw [← hqe]
    have : 4 * H * l = 2 * (2 * H * l) := by rw [← Nat.mul_assoc, ← Nat.mul_assoc]
    omega
  have d2 : (2 * q + 1) / (4 * H) = l := by
    rw [n2, Nat.mul_add_div (by omega), Nat.div_eq_of_lt (by omega), Nat.add_zero]
  have m2 : (2 * q + 1) % (4 * H) = 2 * t + 1 := by
    rw [n2, Nat.mul_add_mod, Nat.mod_eq_of_lt (by omega)]
  rw [d1, m1, d2, m2]
  have c2 : (4 * H == 2 * (2 * t + 1)) = false := by simp; omega
  have key : (2 * H * D < 2 * (t * D + a)) ↔ H ≤ t := by
    constructor
    · intro h
      rcases Nat.lt_or_ge t H with k | k
      · have : (t + 1) * D ≤ H * D := Nat.mul_le_mul_right _ k
        rw [Nat.add_mul, Nat.one_mul] at this
        have e : 2 * H * D = 2 * (H * D) := Nat.mul_assoc _ _ _
        omega
      · exact k
    · intro h
      have : H * D ≤ t * D := Nat.mul_le_mul_right _ h
      have e : 2 * H * D = 2 * (H * D) := Nat.mul_assoc _ _ _
      omega
  have key2 : (2 * H * D == 2 * (t * D + a)) = false := by
    simp only [beq_eq_false_iff_ne, ne_eq]
    intro h
    have e : 2 * H * D = 2 * (H * D) := Nat.mul_assoc _ _ _
    rcases Nat.lt_or_ge t H with k | k
    · have : (t + 1) * D ≤ H * D := Nat.mul_le_mul_right _ k
      rw [Nat.add_mul, Nat.one_mul] at this
      omega
    · have : H * D ≤ t * D := Nat.mul_le_mul_right _ k
      omega
  have c1 : decide (2 * H * D < 2 * (t * D + a)) = decide (4 * H < 2 * (2 * t + 1)) := decide_eq_decide.2 (key.trans (by omega))
  simp only [key2, c2, c1]

/-- Between two halves of a unit all is written as one. -/
theorem nearest_gap (neg : Bool) {q d a : Nat} {p : Int} (hq : 9007199254740992 ≤ q) (h0 : 0 < a) (h1 : a < 2 ^ d) (hd : 0 < d) :
    F64.nearest neg (q * 2 ^ d + a) p = F64.nearest neg (2 * q + 1) (p + d - 1) := by
  have hq0 : q ≠ 0 := by omega
  have hl : 53 ≤ q.log2 := (Nat.le_log2 hq0).2 hq
  have e1 : (2 * q + 1).log2 = q.log2 + 1 := by
    have := log2_gap (d := 1) (a := 1) hq0 (by decide)
    rwa [show q * 2 ^ 1 + 1 = 2 * q + 1 by omega] at this
  have e0 := log2_gap (d := d) (a := a) hq0 h1
  have hne : q * 2 ^ d + a ≠ 0 := by omega
  rw [nearest_eq neg _ p hne, nearest_eq neg (2 * q + 1) _ (by omega)]
  have hlast : lastP (2 * q + 1) (p + d - 1) = lastP (q * 2 ^ d + a) p := by
    unfold lastP; rw [e1, e0]; omega
  have hk : kept neg (q * 2 ^ d + a) p = kept neg (2 * q + 1) (p + d - 1) := by
    unfold kept
    rw [hlast]
    have z1 : (p - lastP (q * 2 ^ d + a) p).toNat = 0 := by unfold lastP; rw [e0]; omega
    have z2 : (p + d - 1 - lastP (q * 2 ^ d + a) p).toNat = 0 := by unfold lastP; rw [e0]; omega
    rw [z1, z2, Nat.shiftLeft_zero, Nat.shiftLeft_zero]
    have hg : 2 ≤ (lastP (q * 2 ^ d + a) p - (p + d - 1)).toNat := by unfold lastP; rw [e0]; omega
    have hgd : (lastP (q * 2 ^ d + a) p - p).toNat = (lastP (q * 2 ^ d + a) p - (p + d - 1)).toNat + d - 1 := by omega
    rw [hgd]
    exact cut_gap neg hq0 h0 h1 hd hg
  rw [hlast, hk]

/-- A quotient's digits. -/
theorem div_form {x y : Nat} {s : Bool} {m n : Nat} {i j : Int} (hx : F64.read x = .number s m i) (hy : F64.read y = .number false n j) (hn : n ≠ 0) :
    fdiv x y = F64.nearest s (2 * (m * 2 ^ (54 + n.log2 - m.log2) / n) + (m * 2 ^ (54 + n.log2 - m.log2) % n != 0).toNat) (i - j - ((54 + n.log2 - m.log2 : Nat) : Int) - 1) := by
  unfold fdiv Ieee.Format.div
  have hf : F64.fractionBits + 2 = 54 := by decide +kernel
  rw [hx, hy, hf]
  simp only [Ieee.Datum.quotient, hn, if_false, Option.map_some, Option.getD_some, Nat.shiftLeft_eq, Bool.xor_false]
  rfl

theorem ne_toNat (r : Nat) : (r != 0).toNat = 0 ∧ r = 0 ∨ (r != 0).toNat = 1 ∧ 0 < r := by
  rcases Nat.eq_zero_or_pos r with h0 | h0
  · left; subst h0; exact ⟨rfl, rfl⟩
  · right
    have : (r != 0) = true := by simp; omega
    rw [this]; exact ⟨rfl, h0⟩

/-- Quotients by one divisor, as whole numbers. -/
theorem quot_mono {D1 D2 n dl : Nat} (hn : 0 < n) (h : D1 ≤ D2 * 2 ^ dl) :
    2 * (D1 / n) + (D1 % n != 0).toNat ≤ (2 * (D2 / n) + (D2 % n != 0).toNat) * 2 ^ dl ∨
    ∃ a, 0 < a ∧ a < 2 ^ (dl + 1) ∧ 2 * (D1 / n) + (D1 % n != 0).toNat = D2 / n * 2 ^ (dl + 1) + a ∧ 2 * (D2 / n) + (D2 % n != 0).toNat = 2 * (D2 / n) + 1 := by
  have e1 := Nat.div_add_mod D1 n
  have e2 := Nat.div_add_mod D2 n
  have r1 := Nat.mod_lt D1 hn
  have r2 := Nat.mod_lt D2 hn
  rcases Nat.lt_or_ge ((2 * (D2 / n) + (D2 % n != 0).toNat) * 2 ^ dl) (2 * (D1 / n) + (D1 % n != 0).toNat) with k | k
  · right
    have hp := Nat.two_pow_pos dl
    rw [Nat.pow_succ]
    generalize 2 ^ dl = P at *
    generalize D1 / n = q1 at *
    generalize D2 / n = q2 at *
    generalize D1 % n = a1 at *
    generalize D2 % n = a2 at *
    have hlt : n * q1 < n * ((q2 + 1) * P) := by
      have : D2 * P < n * (q2 + 1) * P := by
        refine Nat.mul_lt_mul_of_pos_right ?_ hp
        rw [Nat.mul_add]
        omega
      rw [← Nat.mul_assoc]
      omega
    have hlt2 : q1 < (q2 + 1) * P := Nat.lt_of_mul_lt_mul_left hlt
    rw [Nat.add_mul, Nat.one_mul] at hlt2
    have z : 2 * (q2 * P) = q2 * (P * 2) := by rw [← Nat.mul_assoc, Nat.mul_comm 2, Nat.mul_assoc, Nat.mul_comm 2]
    rcases ne_toNat a2 with ⟨b2, c2⟩ | ⟨b2, c2⟩
    · exfalso
      rw [b2, Nat.add_zero, Nat.mul_assoc] at k
      subst c2
      have hle : n * q1 + a1 ≤ n * (q2 * P) := by
        rw [← Nat.mul_assoc]
        rw [Nat.add_zero] at e2
        rw [e2, e1]
        exact h
      have hle2 : q1 ≤ q2 * P := Nat.le_of_mul_le_mul_left (Nat.le_trans (Nat.le_add_right _ _) hle) hn
      rcases ne_toNat a1 with ⟨b1, c1⟩ | ⟨b1, c1⟩
      · omega
      · have : q1 = q2 * P := by omega
        rw [this] at hle
        omega
    · rw [b2, Nat.add_mul, Nat.one_mul, Nat.mul_assoc] at k
      refine ⟨2 * q1 + (a1 != 0).toNat - q2 * (P * 2), ?_, ?_, ?_, by rw [b2]⟩
      · omega
      · rcases ne_toNat a1 with ⟨b1, c1⟩ | ⟨b1, c1⟩ <;> omega
      · omega
  · left
    exact k

theorem quot_big {m n : Nat} (hm : m ≠ 0) (hn : n ≠ 0) : 9007199254740992 ≤ m * 2 ^ (54 + n.log2 - m.log2) / n := by
  rw [Nat.le_div_iff_mul_le (Nat.pos_of_ne_zero hn)]
  have l1 : 2 ^ m.log2 ≤ m := Nat.log2_self_le hm
  have l2 : n < 2 ^ (n.log2 + 1) := Nat.lt_log2_self
  have l3 : 2 ^ (54 + n.log2) ≤ m * 2 ^ (54 + n.log2 - m.log2) := by
    refine Nat.le_trans ?_ (Nat.mul_le_mul_right _ l1)
    rw [← Nat.pow_add]
    exact Nat.pow_le_pow_right (by decide) (by omega)
  have l4 : 2 ^ (54 + n.log2) = 9007199254740992 * 2 ^ (n.log2 + 1) := by
    rw [show 54 + n.log2 = 53 + (n.log2 + 1) by omega, Nat.pow_add]
  omega

theorem log2_52 {x : Nat} {s : Bool} {m : Nat} {e : Int} (h : F64.read x = .number s m e) : m.log2 ≤ 52 := by
  by_cases hm : m = 0
  · subst hm; decide
  · have b := (number_bounds h).1
    have : m.log2 < 53 := (Nat.log2_lt hm).2 (by omega)
    omega

/-- QUOTIENTS BY ONE DIVISOR ABOVE 0 KEEP ORDER (of numbers not below 0). -/
theorem div_mono {x1 x2 y : Nat} (h1 : Num x1) (h2 : Num x2) (hy : Num y) (y0 : 0 < val y) (x0 : 0 ≤ val x1) (h : val x1 ≤ val x2) : leB (fdiv x1 y) (fdiv x2 y) = true := by
  obtain ⟨s1, m1, i1, h1⟩ := h1
  obtain ⟨s2, m2, i2, h2⟩ := h2
  obtain ⟨t, n, j, hy⟩ := hy
  have v1 : val x1 = sg s1 ((m1 : Rat) * 2 ^ i1) := by unfold val; rw [h1, dval_number]
  have v2 : val x2 = sg s2 ((m2 : Rat) * 2 ^ i2) := by unfold val; rw [h2, dval_number]
  have vy : val y = sg t ((n : Rat) * 2 ^ j) := by unfold val; rw [hy, dval_number]
  have ny := mag_nonneg n j
  have p1 := mag_nonneg m1 i1
  have p2 := mag_nonneg m2 i2
  have ht : t = false := by
    cases t
    · rfl
    · exfalso
      simp only [sg, if_true] at vy
      grind
  subst ht
  have hn : n ≠ 0 := by
    intro h0
    subst h0
    have : ((0 : Nat) : Rat) * 2 ^ j = 0 := Rat.zero_mul _
    simp only [sg, Bool.false_eq_true, if_false, this] at vy
    grind
  have pos_of : ∀ (m : Nat) (p : Int), m ≠ 0 → (0 : Rat) < (m : Rat) * 2 ^ p := by
    intro m p hm
    have : (0 : Rat) < m := by exact_mod_cast Nat.pos_of_ne_zero hm
    exact Rat.mul_pos this (p2_pos p)
  rw [div_form h1 hy hn, div_form h2 hy hn]
  have q0 : ∀ k : Nat, 0 * 2 ^ k / n = 0 := fun k => by rw [Nat.zero_mul, Nat.zero_div]
  have q1 : ∀ k : Nat, 0 * 2 ^ k % n = 0 := fun k => by rw [Nat.zero_mul, Nat.zero_mod]
  have z0 : ((0 != 0 : Bool)).toNat = 0 := rfl
  have zz : ∀ (s : Bool) (p : Int), dval (.number s 0 p) = 0 := by
    intro s p
    rw [dval_number]
    have : ((0 : Nat) : Rat) * 2 ^ p = 0 := Rat.zero_mul _
    rw [this]
    cases s <;> simp [sg]
  by_cases z2 : m2 = 0
  · subst z2
    have e2 : ((0 : Nat) : Rat) * 2 ^ i2 = 0 := Rat.zero_mul _
    have z1 : m1 = 0 := by
      refine Classical.byContradiction fun hm => ?_
      have := pos_of m1 i1 hm
      rw [v1] at h x0
      rw [v2, e2] at h
      cases s1 <;> cases s2 <;> simp only [sg, if_true, Bool.false_eq_true, if_false] at h x0 <;> grind
    subst z1
    rw [q0, q1]
    exact nearest_mono (by rw [z0, Nat.mul_zero, Nat.zero_add, zz, zz]; exact Rat.le_refl)
  · have s2f : s2 = false := by
      cases s2
      · rfl
      · exfalso
        have := pos_of m2 i2 z2
        rw [v2] at h
        simp only [sg, if_true] at h
        grind
    subst s2f
    by_cases z1 : m1 = 0
    · subst z1
      rw [q0, q1]
      refine nearest_mono ?_
      rw [z0, Nat.mul_zero, Nat.zero_add, zz, dval_number]
      simp only [sg, Bool.false_eq_true, if_false]
      exact mag_nonneg _ _
    · have s1f : s1 = false := by
        cases s1
        · rfl
        · exfalso
          have := pos_of m1 i1 z1
          rw [v1] at x0
          simp only [sg, if_true] at x0
          grind
      subst s1f
      simp only [sg, Bool.false_eq_true, if_false] at v1 v2
      rw [v1, v2] at h
      have l1 := log2_52 h1
      have l2 := log2_52 h2
      -- the places of the first digits
      have hpl : i1 + m1.log2 ≤ i2 + m2.log2 := by
        refine Classical.byContradiction fun hc => ?_
        have a1 : 2 ^ m1.log2 ≤ m1 := Nat.log2_self_le z1
        have a2 : m2 < 2 ^ (m2.log2 + 1) := Nat.lt_log2_self
        have b1 : (2 : Rat) ^ (m1.log2 : Int) ≤ m1 := by rw [p2_nat]; exact_mod_cast a1
        have b2 : (m2 : Rat) < 2 ^ ((m2.log2 + 1 : Nat) : Int) := by rw [p2_nat]; exact_mod_cast a2
        have c1 := Rat.mul_le_mul_of_nonneg_right b1 (Rat.le_of_lt (p2_pos i1))
        have c2 := Rat.mul_lt_mul_of_pos_right b2 (p2_pos i2)
        rw [← p2_add] at c1 c2
        have c3 := p2_le (show ((m2.log2 + 1 : Nat) : Int) + i2 ≤ (m1.log2 : Int) + i1 by omega)
        grind
      generalize hk1 : 54 + n.log2 - m1.log2 = k1
      generalize hk2 : 54 + n.log2 - m2.log2 = k2
      have hq := quot_big (n := n) z2 hn
      rw [hk2] at hq
      have hle : i1 - k1 ≤ i2 - k2 := by omega
      generalize hdl : ((i2 - k2) - (i1 - k1)).toNat = dl
      have hD : m1 * 2 ^ k1 ≤ m2 * 2 ^ k2 * 2 ^ dl := by
        have e1 : (m1 : Rat) * 2 ^ i1 = ((m1 * 2 ^ k1 : Nat) : Rat) * 2 ^ (i1 - k1) := by
          rw [Rat.natCast_mul, ← p2_nat, Rat.mul_assoc, ← p2_add]
          congr 2
          omega
        have e2 : (m2 : Rat) * 2 ^ i2 = ((m2 * 2 ^ k2 * 2 ^ dl : Nat) : Rat) * 2 ^ (i1 - k1) := by
          rw [Rat.natCast_mul, Rat.natCast_mul, ← p2_nat, ← p2_nat, Rat.mul_assoc, Rat.mul_assoc, ← p2_add, ← p2_add]
          congr 2
          omega
        rw [e1, e2] at h
        have := Rat.le_of_mul_le_mul_right h (p2_pos (i1 - k1))
        exact_mod_cast this
      rcases quot_mono (Nat.pos_of_ne_zero hn) hD with k | ⟨a, a0, a1, ea, eb⟩
      · refine nearest_mono ?_
        rw [dval_number, dval_number]
        simp only [sg, Bool.false_eq_true, if_false]
        generalize 2 * (m1 * 2 ^ k1 / n) + (m1 * 2 ^ k1 % n != 0).toNat = Q1 at *
        generalize 2 * (m2 * 2 ^ k2 / n) + (m2 * 2 ^ k2 % n != 0).toNat = Q2 at *
        have e2 : (Q2 : Rat) * 2 ^ (i2 - j - (k2 : Int) - 1) = ((Q2 * 2 ^ dl : Nat) : Rat) * 2 ^ (i1 - j - (k1 : Int) - 1) := by
          rw [Rat.natCast_mul, ← p2_nat, Rat.mul_assoc, ← p2_add]
          congr 2
          omega
        rw [e2]
        exact Rat.mul_le_mul_of_nonneg_right (by exact_mod_cast k) (Rat.le_of_lt (p2_pos _))
      · rw [ea, eb, nearest_gap false hq a0 a1 (by omega), show i1 - j - (k1 : Int) - 1 + ((dl + 1 : Nat) : Int) - 1 = i2 - j - (k2 : Int) - 1 by omega]
        exact leB_refl (nearest_not_nan _ _ _)
end Go.Proofs.YtijoaklknpkdoaaGreat.Fl

namespace Go.Proofs.YtijoaklknpkdoaaGreat.Fl

/-- Not below 0: a number, or infinite. -/
def Nn (x : Nat) : Prop := (Num x ∧ 0 ≤ val x) ∨ F64.read x = .infinity false

theorem Nn.not_nan {x : Nat} (h : Nn x) : isN x = false := h.elim (fun h => not_nan_num h.1) not_nan_inf
theorem nn_of_le {x : Nat} (h : leB 0 x = true) : Nn x := by
  cases hr : F64.read x with
  | nan s f =>
    exfalso
    have : isN x = true := by unfold isN; rw [hr]; rfl
    have := (leB_not_nan h).2
    simp_all
  | infinity s =>
    cases s
    · exact .inr hr
    · exfalso
      unfold leB ford Ieee.Format.order at h
      rw [read_zero, hr] at h
      cases h
  | number s m e =>
    have hn : Num x := ⟨_, _, _, hr⟩
    refine .inl ⟨hn, ?_⟩
    rw [leB_val num_zero hn, val_zero] at h
    exact of_decide_eq_true h
theorem Nn.le {x : Nat} (h : Nn x) : leB 0 x = true := by
  rcases h with ⟨hn, h⟩ | h
  · rw [leB_val num_zero hn, val_zero]; exact decide_eq_true h
  · exact leB_high h (not_nan_num num_zero)
theorem num_of_fin {x : Nat} (h : numB x = true) : Num x := by
  cases hr : F64.read x with
  | nan s f =>
    exfalso
    have : isN x = true := by unfold isN; rw [hr]; rfl
    unfold numB at h
    rw [this] at h
    cases h
  | infinity s =>
    exfalso
    unfold numB at h
    rw [is_inf hr] at h
    simp at h
  | number s m e => exact ⟨_, _, _, hr⟩
theorem nearest_nn {neg : Bool} {m : Nat} {p : Int} (h : 0 ≤ dval (.number neg m p)) : Nn (F64.nearest neg m p) := by
  refine nn_of_le ?_
  have e : F64.nearest false 0 0 = 0 := by decide +kernel
  have hz : dval (.number false 0 0) = 0 := by
    rw [dval_number]
    have : ((0 : Nat) : Rat) * 2 ^ (0 : Int) = 0 := Rat.zero_mul _
    rw [this]
    rfl
  have := nearest_mono (n1 := false) (m1 := 0) (p1 := 0) (n2 := neg) (m2 := m) (p2 := p) (by rw [hz]; exact h)
  rwa [e] at this

/-- An order among them. -/
theorem Nn.cases {x y : Nat} (hy : Nn y) (h : leB x y = true) (hx : Nn x) : F64.read y = .infinity false ∨ (Num x ∧ Num y ∧ 0 ≤ val x ∧ val x ≤ val y) := by
  rcases hy with ⟨ny, y0⟩ | hy
  · right
    rcases hx with ⟨nx, x0⟩ | hx
    · refine ⟨nx, ny, x0, ?_⟩
      rw [leB_val nx ny] at h
      exact of_decide_eq_true h
    · exfalso
      obtain ⟨s, m, e, hr⟩ := ny
      unfold leB ford Ieee.Format.order at h
      rw [hx, hr] at h
      cases h
  · exact .inl hy

theorem sum_in (s t : Bool) (m : Nat) (e : Int) : (Ieee.Datum.infinity s).sum (.number t m e) = some (.infinity s) := rfl
theorem sum_ni (s t : Bool) (m : Nat) (e : Int) : (Ieee.Datum.number t m e).sum (.infinity s) = some (.infinity s) := rfl
theorem sum_ii : (Ieee.Datum.infinity false).sum (.infinity false) = some (.infinity false) := rfl
theorem add_is {x y : Nat} {s : Bool} (h : (F64.read x).sum (F64.read y) = some (.infinity s)) : F64.read (fadd x y) = .infinity s := by
  unfold fadd Ieee.Format.add
  rw [h, Option.map_some, Option.getD_some]
  exact write_inf s
theorem add_inf_left {x y : Nat} (hx : F64.read x = .infinity false) (hy : Nn y) : F64.read (fadd x y) = .infinity false := by
  rcases hy with ⟨⟨s, m, e, hr⟩, _⟩ | hr
  · exact add_is (by rw [hx, hr, sum_in])
  · exact add_is (by rw [hx, hr, sum_ii])
theorem add_inf_right {x y : Nat} (hy : F64.read y = .infinity false) (hx : Nn x) : F64.read (fadd x y) = .infinity false := by
  rcases hx with ⟨⟨s, m, e, hr⟩, _⟩ | hr
  · exact add_is (by rw [hy, hr, sum_ni])
  · exact add_is (by rw [hy, hr, sum_ii])

theorem add_nn {x y : Nat} (hx : Nn x) (hy : Nn y) : Nn (fadd x y) := by
  have hx' := hx
  have hy' := hy
  rcases hx with ⟨nx, x0⟩ | hx
  · rcases hy with ⟨ny, y0⟩ | hy
    · obtain ⟨n, m, p, e, v⟩ := add_near nx ny
      rw [e]
      exact nearest_nn (by rw [v]; grind)
    · exact .inr (add_inf_right hy hx')
  · exact .inr (add_inf_left hx hy')
theorem add_nn_mono {x y u v : Nat} (hx : Nn x) (hy : Nn y) (hu : Nn u) (hv : Nn v) (h : leB x u = true) (k : leB y v = true) : leB (fadd x y) (fadd u v) = true := by
  rcases hu.cases h hx with iu | ⟨nx, nu, x0, hle⟩
  · exact leB_high (add_inf_left iu hv) (add_nn hx hy).not_nan
  · rcases hv.cases k hy with iv | ⟨ny, nv, y0, kle⟩
    · exact leB_high (add_inf_right iv hu) (add_nn hx hy).not_nan
    · exact add_mono nx ny nu nv (by grind)
/-- A sum is not less than a part of it. -/
theorem le_add {x y : Nat} (hx : Num x) (hy : Num y) (y0 : 0 ≤ val y) : leB x (fadd x y) = true := by
  obtain ⟨n, m, p, e, v⟩ := add_near hx hy
  obtain ⟨s, m1, e1, hr⟩ := hx
  obtain ⟨a, b⟩ := nearest_exact hr
  have hxn : Num x := ⟨_, _, _, hr⟩
  have h1 : leB x (F64.nearest s m1 e1) = true := by rw [leB_val hxn a, b]; exact decide_eq_true Rat.le_refl
  refine leB_trans h1 ?_
  rw [e]
  refine nearest_mono ?_
  rw [v]
  have : val x = dval (.number s m1 e1) := by unfold val; rw [hr]
  grind

def three : Nat := 4613937818241073152
def sixteen : Nat := 4625196817309499392
def one16 : Nat := 4607182418800017408
def maxW : Nat := 4697254411347427328
theorem read_three : F64.read three = .number false 6755399441055744 (-51) := by decide +kernel
theorem read_sixteen : F64.read sixteen = .number false 4503599627370496 (-48) := by decide +kernel
theorem num_three : Num three := ⟨_, _, _, read_three⟩
theorem val_three : val three = 3 := by unfold val; rw [read_three]; decide +kernel
theorem num_sixteen : Num sixteen := ⟨_, _, _, read_sixteen⟩
theorem val_sixteen : val sixteen = 16 := by unfold val; rw [read_sixteen]; decide +kernel
theorem num_one16 : Num one16 := ⟨false, 4503599627370496, -52, by decide +kernel⟩
theorem val_one16 : val one16 = 1 := by
  unfold val
  rw [show F64.read one16 = .number false 4503599627370496 (-52) by decide +kernel]
  decide +kernel
theorem num_max : Num maxW := ⟨false, 4503599627370496, -32, by decide +kernel⟩
theorem val_max : val maxW = 1048576 := by
  unfold val
  rw [show F64.read maxW = .number false 4503599627370496 (-32) by decide +kernel]
  decide +kernel

theorem div_inf_num {x : Nat} (hx : F64.read x = .infinity false) : F64.read (fdiv x three) = .infinity false := by
  unfold fdiv Ieee.Format.div
  rw [hx, read_three]
  simp only [Ieee.Datum.quotient, Option.map_some, Option.getD_some, Bool.xor_false]
  exact write_inf false
theorem div_nn {x : Nat} (hx : Nn x) : Nn (fdiv x three) := by
  rcases hx with ⟨nx, x0⟩ | hx
  · refine nn_of_le ?_
    have h := div_mono num_zero nx num_three (by rw [val_three]; decide) (by rw [val_zero]; exact Rat.le_refl) (by rw [val_zero]; exact x0)
    have e : fdiv 0 three = 0 := by decide +kernel
    rwa [e] at h
  · exact .inr (div_inf_num hx)
theorem div_nn_mono {x u : Nat} (hx : Nn x) (hu : Nn u) (h : leB x u = true) : leB (fdiv x three) (fdiv u three) = true := by
  rcases hu.cases h hx with iu | ⟨nx, nu, x0, hle⟩
  · exact leB_high (div_inf_num iu) (div_nn hx).not_nan
  · exact div_mono nx nu num_three (by rw [val_three]; decide) x0 hle
theorem mul_nn {x : Nat} (hx : Nn x) : Nn (fmul x sixteen) := by
  rcases hx with ⟨nx, x0⟩ | hx
  · obtain ⟨n, m, p, e, v⟩ := mul_near nx num_sixteen
    rw [e]
    exact nearest_nn (by rw [v, val_sixteen]; grind)
  · exact .inr (mul_inf_num hx read_sixteen (by decide))
theorem mul_nn_mono {x u : Nat} (hx : Nn x) (hu : Nn u) (h : leB x u = true) : leB (fmul x sixteen) (fmul u sixteen) = true :=
  mul_order (t := false) h (.inl ⟨_, _, read_sixteen, by decide⟩) (mul_nn hx).not_nan (mul_nn hu).not_nan

/-- What is ahead of the point. -/
def truncF (x : Nat) : Int := ((F64.read x).toInt .zero).getD 0

theorem cut_zero (n drop : Nat) : Ieee.Toward.zero.cut false n drop = n / 2 ^ drop := by
  unfold Ieee.Toward.cut
  simp only [Nat.one_shiftLeft, Bool.toNat_false, Nat.add_zero]
  rcases Nat.lt_or_ge (n.log2 + 2) drop with hd | hd
  · rw [Nat.min_eq_right (Nat.le_of_lt hd)]
    have h1 : n < 2 ^ (n.log2 + 1) := Nat.lt_log2_self
    have h2 : 2 ^ (n.log2 + 1) ≤ 2 ^ (n.log2 + 2) := Nat.pow_le_pow_right (by decide) (by omega)
    have h3 : 2 ^ (n.log2 + 1) ≤ 2 ^ drop := Nat.pow_le_pow_right (by decide) (by omega)
    rw [Nat.div_eq_of_lt (by omega), Nat.div_eq_of_lt (by omega)]
  · rw [Nat.min_eq_left hd]

theorem floor_of {v : Rat} {t : Nat} (h : (t : Rat) ≤ v) (k : v < (t : Rat) + 1) : v.floor = (t : Int) := by
  have h1 : (t : Int) ≤ v.floor := Rat.le_floor_iff.2 (by rw [Rat.intCast_natCast]; exact h)
  have h2 := Rat.floor_le v
  have h3 : ((v.floor : Int) : Rat) < (((t : Int) + 1 : Int) : Rat) := by
    have e : (((t : Int) + 1 : Int) : Rat) = (t : Rat) + 1 := by rw [Rat.intCast_add, Rat.intCast_natCast]; rfl
    rw [e]
    grind
  have h4 : v.floor < (t : Int) + 1 := by exact_mod_cast h3
  omega

theorem trunc_floor {x : Nat} (hx : Num x) (h0 : 0 ≤ val x) : (F64.read x).toInt .zero = some (val x).floor := by
  obtain ⟨s, m, e, hr⟩ := hx
  have hv : val x = sg s ((m : Rat) * 2 ^ e) := by unfold val; rw [hr, dval_number]
  have p := mag_nonneg m e
  cases s
  · simp only [sg, Bool.false_eq_true, if_false] at hv
    have hi : (F64.read x).toInt .zero = some ((m * 2 ^ e.toNat / 2 ^ (-e).toNat : Nat) : Int) := by
      rw [hr]
      unfold Ieee.Datum.toInt Ieee.Datum.integral
      simp only [cut_zero, Nat.shiftLeft_eq]
      simp [Ieee.signed]
    rw [hi, hv]
    congr 1
    symm
    generalize hn : m * 2 ^ e.toNat = n
    generalize hd : (-e).toNat = d
    have hval : (m : Rat) * 2 ^ e * 2 ^ (d : Int) = (n : Rat) := by
      rw [← hn, Rat.natCast_mul, ← p2_nat, Rat.mul_assoc, ← p2_add]
      congr 2
      omega
    have hp := p2_pos (d : Int)
    have e1 := Nat.div_add_mod n (2 ^ d)
    have r1 := Nat.mod_lt n (Nat.two_pow_pos d)
    have lo : n / 2 ^ d * 2 ^ d ≤ n := Nat.div_mul_le_self _ _
    have hi2 : n < (n / 2 ^ d + 1) * 2 ^ d := by rw [Nat.add_mul, Nat.one_mul, Nat.mul_comm]; omega
    have lo' : ((n / 2 ^ d : Nat) : Rat) * 2 ^ (d : Int) ≤ n := by rw [p2_nat]; exact_mod_cast lo
    have hi' : (n : Rat) < (((n / 2 ^ d : Nat) : Rat) + 1) * 2 ^ (d : Int) := by rw [p2_nat]; exact_mod_cast hi2
    rw [← hval] at lo' hi'
    refine floor_of ?_ ?_
    · exact Rat.le_of_mul_le_mul_right lo' hp
    · exact Rat.lt_of_mul_lt_mul_right hi' (Rat.le_of_lt hp)
  · simp only [sg, if_true] at hv
    have z : (m : Rat) * 2 ^ e = 0 := by grind
    have hm : m = 0 := by
      refine Classical.byContradiction fun hm => ?_
      have : (0 : Rat) < m := by exact_mod_cast Nat.pos_of_ne_zero hm
      have := Rat.mul_pos this (p2_pos e)
      grind
    subst hm
    have hv0 : val x = 0 := by rw [hv, z]; rfl
    rw [hv0, hr]
    unfold Ieee.Datum.toInt Ieee.Datum.integral Ieee.Toward.cut
    simp [Ieee.signed]
    decide +kernel
end Go.Proofs.YtijoaklknpkdoaaGreat.Fl

namespace Go.Proofs.YtijoaklknpkdoaaGreat.Fl

def wOf (m : Nat) : Int := if (ford m one16 == some .lt) = true then 1 else if (ford m maxW == some .gt) = true then 1048576 else truncF m
/-- The reference's. -/
def rOf (m : Nat) : Int := if (ford m maxW == some .gt || ford m maxW == some .eq) = true then 1048576 else if (ford m one16 == some .lt) = true then 1 else truncF m

theorem inf_gt {m y : Nat} (h : F64.read m = .infinity false) (hy : Num y) : ford m y = some .gt := by
  obtain ⟨s, k, e, hr⟩ := hy
  unfold ford Ieee.Format.order
  rw [h, hr]
  rfl
theorem wOf_inf {m : Nat} (h : F64.read m = .infinity false) : wOf m = 1048576 := by
  unfold wOf
  rw [inf_gt h num_one16, inf_gt h num_max]
  rfl
theorem wOf_num {m : Nat} (h : Num m) (h0 : 0 ≤ val m) : wOf m = if val m < 1 then 1 else if 1048576 < val m then 1048576 else (val m).floor := by
  unfold wOf truncF
  rw [lt_val h num_one16, gt_val h num_max, val_one16, val_max, trunc_floor h h0]
  simp only [decide_eq_true_eq, Option.getD_some]
theorem floor_mono {x y : Rat} (h : x ≤ y) : x.floor ≤ y.floor := by
  have h2 := Rat.floor_le x
  exact Rat.le_floor_iff.2 (by grind)
theorem floor_nat (n : Nat) : ((n : Nat) : Rat).floor = n := floor_of (by grind) (by grind)
theorem floor_lo {x : Rat} (h : ¬ x < 1) : 1 ≤ x.floor := by
  have := floor_mono (x := ((1 : Nat) : Rat)) (y := x) (by have : ((1 : Nat) : Rat) = 1 := rfl; grind)
  rw [floor_nat] at this
  exact this
theorem floor_hi {x : Rat} (h : ¬ 1048576 < x) : x.floor ≤ 1048576 := by
  have := floor_mono (x := x) (y := ((1048576 : Nat) : Rat)) (by have : ((1048576 : Nat) : Rat) = 1048576 := rfl; grind)
  rw [floor_nat] at this
  exact this
theorem wOf_lo {m : Nat} (h : Nn m) : 1 ≤ wOf m := by
  rcases h with ⟨hn, h0⟩ | h
  · rw [wOf_num hn h0]
    split
    · omega
    · rename_i h1
      split
      · omega
      · exact floor_lo h1
  · rw [wOf_inf h]; omega
theorem wOf_hi {m : Nat} (h : Nn m) : wOf m ≤ 1048576 := by
  rcases h with ⟨hn, h0⟩ | h
  · rw [wOf_num hn h0]
    split
    · omega
    · split
      · omega
      · rename_i h1; exact floor_hi h1
  · rw [wOf_inf h]; omega
theorem wOf_mono {m n : Nat} (hm : Nn m) (hn : Nn n) (h : leB m n = true) : wOf m ≤ wOf n := by
  rcases hn.cases h hm with i | ⟨n1, n2, h0, hle⟩
  · rw [wOf_inf i]; exact wOf_hi hm
  · have h0' : 0 ≤ val n := by grind
    have l2 := wOf_lo hn
    rw [wOf_num n2 h0'] at l2 ⊢
    rw [wOf_num n1 h0]
    by_cases a : val m < 1
    · rw [if_pos a]; exact l2
    · have c1 : ¬ val n < 1 := by grind
      rw [if_neg a, if_neg c1]
      by_cases b : 1048576 < val m
      · have c2 : 1048576 < val n := by grind
        rw [if_pos b, if_pos c2]; exact Int.le_refl _
      · rw [if_neg b]
        by_cases c : 1048576 < val n
        · rw [if_pos c]; exact floor_hi b
        · rw [if_neg c]; exact floor_mono hle
theorem rOf_eq {m : Nat} (h : Nn m) : rOf m = wOf m := by
  rcases h with ⟨hn, h0⟩ | h
  · rw [wOf_num hn h0]
    unfold rOf truncF
    rw [geB_eq, leB_val num_max hn, lt_val hn num_one16, val_one16, val_max, trunc_floor hn h0]
    simp only [decide_eq_true_eq, Option.getD_some]
    by_cases a : val m < 1
    · have c1 : ¬ 1048576 ≤ val m := by grind
      rw [if_pos a, if_pos a, if_neg c1]
    · rw [if_neg a, if_neg a]
      by_cases b : 1048576 < val m
      · have c2 : 1048576 ≤ val m := by grind
        rw [if_pos b, if_pos c2]
      · rw [if_neg b]
        by_cases c : 1048576 ≤ val m
        · have e : val m = ((1048576 : Nat) : Rat) := by
            have : ((1048576 : Nat) : Rat) = 1048576 := rfl
            grind
          rw [if_pos c, e, floor_nat]
          rfl
        · rw [if_neg c]
  · rw [wOf_inf h]
    unfold rOf
    rw [inf_gt h num_max]
    rfl
/-- The conversion to a whole number, where it is come to. -/
theorem conv_of {m : Nat} (h : Nn m) (h1 : (ford m one16 == some .lt) = false) (h2 : (ford m maxW == some .gt) = false) : floatToIntVal .f64 m .i64 = some (truncF m) := by
  rcases h with ⟨hn, h0⟩ | h
  · rw [lt_val hn num_one16, val_one16] at h1
    rw [gt_val hn num_max, val_max] at h2
    have a := of_decide_eq_false h1
    have b := of_decide_eq_false h2
    have l := floor_lo a
    have u := floor_hi b
    have e := trunc_floor hn h0
    have e' : truncF m = (val m).floor := by unfold truncF; rw [e]; rfl
    rw [e']
    unfold floatToIntVal
    rw [show (FloatKind.f64.decode m).toInt .zero = some (val m).floor from e]
    have lo : IntKind.i64.min = -9223372036854775808 := by decide +kernel
    have hi : IntKind.i64.max = 9223372036854775807 := by decide +kernel
    dsimp only
    rw [lo, hi, if_pos ⟨by omega, by omega⟩]
  · rw [inf_gt h num_max] at h2; cases h2
theorem wOf_lt {m : Nat} (h1 : (ford m one16 == some .lt) = true) : wOf m = 1 := by unfold wOf; rw [if_pos h1]
theorem wOf_gt {m : Nat} (h1 : (ford m one16 == some .lt) = false) (h2 : (ford m maxW == some .gt) = true) : wOf m = 1048576 := by
  unfold wOf; rw [if_neg (by rw [h1]; exact Bool.false_ne_true), if_pos h2]
theorem wOf_in {m : Nat} (h1 : (ford m one16 == some .lt) = false) (h2 : (ford m maxW == some .gt) = false) : wOf m = truncF m := by
  unfold wOf; rw [if_neg (by rw [h1]; exact Bool.false_ne_true), if_neg (by rw [h2]; exact Bool.false_ne_true)]
theorem gt_of_ge {m : Nat} (h2 : (ford m maxW == some .gt || ford m maxW == some .eq) = false) : (ford m maxW == some .gt) = false := by
  rw [Bool.or_eq_false_iff] at h2; exact h2.1
theorem rOf_ge {m : Nat} (h : (ford m maxW == some .gt || ford m maxW == some .eq) = true) : rOf m = 1048576 := by unfold rOf; rw [if_pos h]
theorem rOf_lt {m : Nat} (h : (ford m maxW == some .gt || ford m maxW == some .eq) = false) (h1 : (ford m one16 == some .lt) = true) : rOf m = 1 := by
  unfold rOf; rw [if_neg (by rw [h]; exact Bool.false_ne_true), if_pos h1]
theorem rOf_in {m : Nat} (h : (ford m maxW == some .gt || ford m maxW == some .eq) = false) (h1 : (ford m one16 == some .lt) = false) : rOf m = truncF m := by
  unfold rOf; rw [if_neg (by rw [h]; exact Bool.false_ne_true), if_neg (by rw [h1]; exact Bool.false_ne_true)]
end Go.Proofs.YtijoaklknpkdoaaGreat.Fl
