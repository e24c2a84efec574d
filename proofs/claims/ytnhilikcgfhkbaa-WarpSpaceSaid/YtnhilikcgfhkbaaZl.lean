/- How far a direction is within its sector: the code's way and the reference's. -/
import Derived.Test.YtnhilikcgfhkbaaZk
import Derived.Test.YtnhilikcgfhkbaaZg
import Derived.Test.YtnhilikcgfhkbaaXb
import Derived.Test.YtnhilikcgfhkbaaYe
namespace Go.Proofs.Ytnhilikcgfhkbaa.Fl

theorem num_fin {x : Nat} (h : Num x) : numB x = true := by
  obtain ⟨s, m, e, hr⟩ := h
  unfold numB
  rw [not_nan_num ⟨s, m, e, hr⟩, not_inf hr]
  rfl
theorem not_fin_inf {x : Nat} {s : Bool} (h : F64.read x = .infinity s) : numB x = false := by
  unfold numB
  rw [is_inf h]
  simp
theorem not_fin_nan {x : Nat} (h : isN x = true) : numB x = false := by
  unfold numB
  rw [h]
  rfl
/-- What is no NaN is a number or infinite. -/
theorem num_or_inf {x : Nat} (h : isN x = false) : Num x ∨ ∃ s, F64.read x = .infinity s := by
  cases hr : F64.read x with
  | nan s f => exfalso; unfold isN at h; rw [hr] at h; exact absurd h (by simp [Ieee.Datum.isNaN])
  | infinity s => exact .inr ⟨s, rfl⟩
  | number s m e => exact .inl ⟨_, _, _, hr⟩
theorem ge_num {x : Nat} (h : Num x) : geZ x = decide (0 ≤ val x) := by
  show (ford x 0 == some .gt || ford x 0 == some .eq) = _
  rw [geB_eq, leB_val num_zero h, val_zero]

theorem abs_num {x : Nat} (hx : Num x) : Num (fabs x) ∧ Num (absR x) ∧ val (fabs x) = val (absR x) ∧ 0 ≤ val (fabs x) ∧ (val (fabs x) = val x ∨ val (fabs x) = -val x) := by
  have hn := not_nan_num hx
  have hg := ge_num hx
  obtain ⟨nn, vn⟩ := neg_val hx
  have hx0 := hx
  obtain ⟨s, m, e, hr⟩ := hx
  have ra := read_abs x
  rw [hr] at ra
  have va : val (fabs x) = (m : Rat) * 2 ^ e := by unfold val; rw [ra]; rfl
  have vx : val x = sg s ((m : Rat) * 2 ^ e) := by unfold val; rw [hr, dval_number]
  have p := mag_nonneg m e
  have h0 : 0 ≤ val (fabs x) := by rw [va]; exact p
  unfold absR
  rw [hn, Bool.or_false, hg]
  by_cases k : 0 ≤ val x
  · rw [decide_eq_true k]
    have e1 : val (fabs x) = val x := by
      rw [va, vx]
      cases s
      · rfl
      · rw [vx] at k
        simp only [sg, if_true] at k ⊢
        grind
    exact ⟨⟨_, _, _, ra⟩, hx0, e1, h0, .inl e1⟩
  · rw [decide_eq_false k]
    have e1 : val (fabs x) = -val x := by
      rw [va, vx]
      rw [vx] at k
      cases s <;> simp only [sg, if_true, Bool.false_eq_true, if_false] at k ⊢
      · exact absurd p k
      · grind
    exact ⟨⟨_, _, _, ra⟩, nn, by simp only [Bool.false_eq_true, if_false]; rw [vn, e1], h0, .inr e1⟩
theorem abs_inf {x : Nat} {s : Bool} (h : F64.read x = .infinity s) : F64.read (fabs x) = .infinity false ∧ F64.read (absR x) = .infinity false := by
  have ra := read_abs x
  rw [h] at ra
  refine ⟨ra, ?_⟩
  have hn := not_nan_inf h
  unfold absR
  rw [hn, Bool.or_false]
  cases s
  · have : geZ x = true := by
      unfold geZ ford Ieee.Format.order
      rw [h, read_zero]
      rfl
    rw [this]
    exact h
  · have : geZ x = false := by
      unfold geZ ford Ieee.Format.order
      rw [h, read_zero]
      rfl
    rw [this]
    simp only [Bool.false_eq_true, if_false]
    unfold fsub Ieee.Format.sub
    rw [h, read_zero]
    exact write_inf false
theorem abs_nan {x : Nat} (h : isN x = true) : isN (fabs x) = true ∧ isN (absR x) = true := by
  obtain ⟨s, f, hr⟩ := read_nan h
  have ra := read_abs x
  rw [hr] at ra
  refine ⟨by unfold isN; rw [ra]; rfl, ?_⟩
  unfold absR
  rw [h, Bool.or_true]
  exact h
/-- Equal numbers stand alike to equal numbers. -/
theorem ord_same {a b c d : Nat} (ha : Num a) (hb : Num b) (hc : Num c) (hd : Num d) (h : val a = val c) (k : val b = val d) : ford a b = ford c d := by
  obtain ⟨p, e⟩ := ford_some (not_nan_num ha) (not_nan_num hb)
  obtain ⟨q, f⟩ := ford_some (not_nan_num hc) (not_nan_num hd)
  have l1 := lt_val ha hb
  have l2 := lt_val hc hd
  have g1 := gt_val ha hb
  have g2 := gt_val hc hd
  rw [h, k] at l1 g1
  rw [← l2, e, f] at l1
  rw [← g2, e, f] at g1
  rw [e, f]
  cases p <;> cases q <;> first | rfl | (exact absurd l1 (by decide)) | (exact absurd g1 (by decide))
theorem ord_abs {x y : Nat} (hx : isN x = false) (hy : isN y = false) : ford (absR x) (absR y) = ford (fabs x) (fabs y) := by
  rcases num_or_inf hx with nx | ⟨s, ix⟩
  · obtain ⟨a1, a2, a3, _, _⟩ := abs_num nx
    rcases num_or_inf hy with ny | ⟨t, iy⟩
    · obtain ⟨b1, b2, b3, _, _⟩ := abs_num ny
      exact ord_same a2 b2 a1 b1 a3.symm b3.symm
    · obtain ⟨j1, j2⟩ := abs_inf iy
      obtain ⟨_, _, _, r1⟩ := a1
      obtain ⟨_, _, _, r2⟩ := a2
      unfold ford Ieee.Format.order
      rw [j1, j2, r1, r2]
      rfl
  · obtain ⟨i1, i2⟩ := abs_inf ix
    rcases num_or_inf hy with ny | ⟨t, iy⟩
    · obtain ⟨b1, b2, _, _, _⟩ := abs_num ny
      obtain ⟨_, _, _, r1⟩ := b1
      obtain ⟨_, _, _, r2⟩ := b2
      unfold ford Ieee.Format.order
      rw [i1, i2, r1, r2]
      rfl
    · obtain ⟨j1, j2⟩ := abs_inf iy
      unfold ford Ieee.Format.order
      rw [i1, i2, j1, j2]

theorem fdiv_self {m : Nat} (hm : Num m) (m0 : 0 < val m) : fdiv m m = w1 := by
  obtain ⟨s, n, j, hr⟩ := hm
  have vm : val m = sg s ((n : Rat) * 2 ^ j) := by unfold val; rw [hr, dval_number]
  have p := mag_nonneg n j
  have n0 : n ≠ 0 := by
    rintro rfl
    rw [vm] at m0
    have z : ((0 : Nat) : Rat) * 2 ^ j = 0 := Rat.zero_mul _
    rw [z] at m0
    cases s <;> simp [sg] at m0 <;> exact absurd m0 (by decide)
  have hs : s = false := by
    cases s
    · rfl
    · exfalso
      rw [vm] at m0
      simp only [sg, if_true] at m0
      grind
  subst hs
  rw [div_form hr hr n0]
  have e1 : 54 + n.log2 - n.log2 = 54 := by omega
  rw [e1, Nat.mul_div_cancel_left _ (Nat.pos_of_ne_zero n0), Nat.mul_mod_right]
  rw [show j - j - ((54 : Nat) : Int) - 1 = -55 by omega]
  decide +kernel
theorem fdiv_zero {m : Nat} (hm : Num m) (m0 : 0 < val m) : fdiv 0 m = 0 := by
  obtain ⟨s, n, j, hr⟩ := hm
  have vm : val m = sg s ((n : Rat) * 2 ^ j) := by unfold val; rw [hr, dval_number]
  have p := mag_nonneg n j
  have n0 : n ≠ 0 := by
    rintro rfl
    rw [vm] at m0
    have z : ((0 : Nat) : Rat) * 2 ^ j = 0 := Rat.zero_mul _
    rw [z] at m0
    cases s <;> simp [sg] at m0 <;> exact absurd m0 (by decide)
  have hs : s = false := by
    cases s
    · rfl
    · exfalso
      rw [vm] at m0
      simp only [sg, if_true] at m0
      grind
  subst hs
  rw [div_form read_zero hr n0]
  rw [Nat.zero_mul, Nat.zero_div, Nat.zero_mod]
  have e : 2 * 0 + ((0 : Nat) != 0).toNat = 0 := rfl
  rw [e]
  unfold Ieee.Format.nearest
  rw [if_pos rfl]
  decide +kernel
/-- A quotient of a lesser number by a greater one. -/
theorem div_unit {l m : Nat} (hl : Num l) (hm : Num m) (l0 : 0 ≤ val l) (h : val l ≤ val m) (m0 : 0 < val m) : Num (fdiv l m) ∧ 0 ≤ val (fdiv l m) ∧ val (fdiv l m) ≤ 1 := by
  have a := div_mono num_zero hl hm m0 (by rw [val_zero]; exact Rat.le_refl) (by rw [val_zero]; exact l0)
  have b := div_mono hl hm hm m0 l0 h
  rw [fdiv_zero hm m0] at a
  rw [fdiv_self hm m0] at b
  have n1 : Nn w1 := .inl ⟨num_w1, by rw [val_w1]; decide⟩
  rcases Nn.cases n1 b (nn_of_le a) with i | ⟨n, _, x, y⟩
  · obtain ⟨s, k, e, r⟩ := num_w1
    rw [r] at i
    cases i
  · exact ⟨n, x, by rw [val_w1] at y; exact y⟩
theorem div_same {l m k n : Nat} (hl : Num l) (hm : Num m) (hk : Num k) (hn : Num n) (l0 : 0 ≤ val l) (h : val l ≤ val m) (m0 : 0 < val m) (e : val l = val k) (f : val m = val n) : val (fdiv l m) = val (fdiv k n) := by
  have em : F64.read m = F64.read n := read_same hm hn f (by grind)
  by_cases z : val l = 0
  · obtain ⟨a1, a2, _⟩ := div_unit hl hm l0 h m0
    obtain ⟨b1, b2, _⟩ := div_unit hk hn (by grind) (by grind) (by grind)
    have c := div_mono hl num_zero hm m0 l0 (by rw [val_zero]; grind)
    have d := div_mono hk num_zero hn (by grind) (by grind) (by rw [val_zero]; grind)
    rw [fdiv_zero hm m0, leB_val a1 num_zero, val_zero] at c
    rw [fdiv_zero hn (by grind), leB_val b1 num_zero, val_zero] at d
    have c' := of_decide_eq_true c
    have d' := of_decide_eq_true d
    grind
  · rw [fdiv_read (read_same hl hk e z) em]
/-- The densities of equal places. -/
theorem dens_same {f g : Nat} (hf : Num f) (hg : Num g) (f0 : 0 ≤ val f) (f1 : val f ≤ 1) (h : val f = val g) : Num (fmul f f) ∧ Num (secQ f) ∧ Num (densF f) ∧ Num (fmul g g) ∧ Num (secQ g) ∧ Num (densF g) ∧ val (densF f) = val (densF g) := by
  have a := (unit_mul hf hf f0 f1 f0 f1).1
  have b := (unit_mul hg hg (by grind) (by grind) (by grind) (by grind)).1
  have sf := (sec_vals hf f0 f1).nq
  have sg := (sec_vals hg (by grind) (by grind)).nq
  have df := (dens_range hf f0 f1).1
  have dg := (dens_range hg (by grind) (by grind)).1
  obtain ⟨_, e1⟩ := mul_same hf hf hg hg (by rw [h]) b
  have e2 : val (secQ f) = val (secQ g) := (num_between sg (add_mono num_w1 a num_w1 b (by rw [e1]; exact Rat.le_refl)) (add_mono num_w1 b num_w1 a (by rw [e1]; exact Rat.le_refl))).2
  obtain ⟨_, e3⟩ := mul_same sf num_eighth sg num_eighth (by rw [e2]) dg
  exact ⟨a, sf, df, b, sg, dg, e3⟩

/-- How far, of two numbers without signs: the code's way. -/
def shareF (a b : Nat) : Nat := if numB a && numB b && !(ford (maxF a b) 0 == some .eq) then fdiv (minF a b) (maxF a b) else 0
/-- The reference's way. -/
def shareR (a b : Nat) : Nat := if numB a && numB b && !(ford a 0 == some .eq && ford b 0 == some .eq) then (if ford a b == some .lt then fdiv a b else fdiv b a) else 0
/-- The greater and the lesser of two that are not below 0. -/
theorem pick_two {a b : Nat} (ha : F64.read a ≠ .nan true 0 ∧ ∃ d, F64.read a = d ∧ d.neg = false) (hb : isN b = false) (ha' : isN a = false) : maxF a b = (if ford a b == some .lt then b else a) ∧ minF a b = (if ford a b == some .lt then a else b) := by
  obtain ⟨_, d, hd, hn⟩ := ha
  obtain ⟨o, ho⟩ := ford_some ha' hb
  have hneg : (FloatKind.f64.decode a).neg = false := by
    show (F64.read a).neg = false
    rw [hd]; exact hn
  unfold maxF minF
  rw [ho]
  cases o
  · exact ⟨rfl, rfl⟩
  · simp only [hneg, Bool.false_eq_true, if_false]; exact ⟨rfl, rfl⟩
  · exact ⟨rfl, rfl⟩
theorem abs_pos (x : Nat) : ∃ d, F64.read (fabs x) = d ∧ d.neg = false := by
  refine ⟨_, rfl, ?_⟩
  rw [read_abs]
  cases F64.read x <;> rfl
theorem abs_pick {x y : Nat} (hx : isN x = false) (hy : isN y = false) : maxF (fabs x) (fabs y) = (if steepB x y then fabs y else fabs x) ∧ minF (fabs x) (fabs y) = (if steepB x y then fabs x else fabs y) := by
  have nx : isN (fabs x) = false := by
    rcases num_or_inf hx with h | ⟨s, h⟩
    · exact not_nan_num (abs_num h).1
    · exact not_nan_inf (abs_inf h).1
  have ny : isN (fabs y) = false := by
    rcases num_or_inf hy with h | ⟨s, h⟩
    · exact not_nan_num (abs_num h).1
    · exact not_nan_inf (abs_inf h).1
  refine pick_two ⟨?_, abs_pos x⟩ ny nx
  intro h
  unfold isN at nx
  rw [h] at nx
  exact absurd nx (by simp [Ieee.Datum.isNaN])
/-- Whether the greater of both is a number. -/
theorem max_fin {x y : Nat} (hx : isN x = false) (hy : isN y = false) : numB (maxF (fabs x) (fabs y)) = (numB (fabs x) && numB (fabs y)) := by
  rw [(abs_pick hx hy).1]
  rcases num_or_inf hx with nx | ⟨s, ix⟩
  · obtain ⟨a1, _⟩ := abs_num nx
    rcases num_or_inf hy with ny | ⟨t, iy⟩
    · obtain ⟨b1, _⟩ := abs_num ny
      rw [num_fin a1, num_fin b1]
      split
      · exact num_fin b1
      · exact num_fin a1
    · obtain ⟨j1, _⟩ := abs_inf iy
      have : steepB x y = true := by
        obtain ⟨_, _, _, r1⟩ := a1
        unfold steepB ford Ieee.Format.order
        rw [r1, j1]
        rfl
      rw [this, not_fin_inf j1, Bool.and_false]
      exact not_fin_inf j1
  · obtain ⟨i1, _⟩ := abs_inf ix
    rw [not_fin_inf i1, Bool.false_and]
    rcases num_or_inf hy with ny | ⟨t, iy⟩
    · obtain ⟨b1, _⟩ := abs_num ny
      have : steepB x y = false := by
        obtain ⟨_, _, _, r1⟩ := b1
        unfold steepB ford Ieee.Format.order
        rw [r1, i1]
        rfl
      rw [this]
      exact not_fin_inf i1
    · obtain ⟨j1, _⟩ := abs_inf iy
      split
      · exact not_fin_inf j1
      · exact not_fin_inf i1
/-- What the quotient is of, and that both ways tell one number. -/
theorem share_good {x y : Nat} (nx : Num x) (ny : Num y) (h : ford (maxF (fabs x) (fabs y)) 0 ≠ some .eq) :
    (Num (maxF (fabs x) (fabs y)) ∧ Num (minF (fabs x) (fabs y)) ∧ 0 < val (maxF (fabs x) (fabs y)) ∧ 0 ≤ val (minF (fabs x) (fabs y)) ∧ val (minF (fabs x) (fabs y)) ≤ val (maxF (fabs x) (fabs y))) := by
  obtain ⟨a1, a2, a3, a4, _⟩ := abs_num nx
  obtain ⟨b1, b2, b3, b4, _⟩ := abs_num ny
  obtain ⟨e1, e2⟩ := abs_pick (not_nan_num nx) (not_nan_num ny)
  rw [e1] at h
  rw [e1, e2]
  have l := lt_val a1 b1
  have l' : steepB x y = decide (val (fabs x) < val (fabs y)) := l
  rw [l'] at h ⊢
  by_cases k : val (fabs x) < val (fabs y)
  · rw [decide_eq_true k]
    simp only [if_true]
    exact ⟨b1, a1, by grind, a4, by grind⟩
  · rw [decide_eq_false k] at h ⊢
    simp only [Bool.false_eq_true, if_false] at h ⊢
    refine ⟨a1, b1, ?_, b4, by grind⟩
    have : val (fabs x) ≠ 0 := fun z => h (ord_eq a1 num_zero (by rw [val_zero, z]))
    grind
theorem share_same (x y : Nat) : Num (shareF (fabs x) (fabs y)) ∧ Num (shareR (absR x) (absR y)) ∧ 0 ≤ val (shareF (fabs x) (fabs y)) ∧ val (shareF (fabs x) (fabs y)) ≤ 1 ∧ val (shareF (fabs x) (fabs y)) = val (shareR (absR x) (absR y)) := by
  have bad : ∀ a b c d : Nat, (numB a && numB b) = false → (numB c && numB d) = false → Num (shareF a b) ∧ Num (shareR c d) ∧ 0 ≤ val (shareF a b) ∧ val (shareF a b) ≤ 1 ∧ val (shareF a b) = val (shareR c d) := by
    intro a b c d h k
    unfold shareF shareR
    rw [h, k, Bool.false_and, Bool.false_and]
    simp only [Bool.false_eq_true, if_false]
    exact ⟨num_zero, num_zero, by rw [val_zero]; exact Rat.le_refl, by rw [val_zero]; decide, by first | trivial | rfl⟩
  cases hx : isN x
  · cases hy : isN y
    · rcases num_or_inf hx with nx | ⟨s, ix⟩
      · rcases num_or_inf hy with ny | ⟨t, iy⟩
        · obtain ⟨a1, a2, a3, a4, _⟩ := abs_num nx
          obtain ⟨b1, b2, b3, b4, _⟩ := abs_num ny
          have hz : (ford (absR x) 0 == some .eq && ford (absR y) 0 == some .eq) = (ford (maxF (fabs x) (fabs y)) 0 == some .eq) := by
            rw [ord_same a2 num_zero a1 num_zero a3.symm rfl, ord_same b2 num_zero b1 num_zero b3.symm rfl, (abs_pick hx hy).1]
            have l' : steepB x y = decide (val (fabs x) < val (fabs y)) := lt_val a1 b1
            rw [l']
            have eqv : ∀ c, Num c → (ford c 0 == some .eq) = decide (val c = 0) := by
              intro c hc
              by_cases z : val c = 0
              · rw [decide_eq_true z, ord_eq hc num_zero (by rw [val_zero, z])]; rfl
              · rw [decide_eq_false z]
                obtain ⟨o, ho⟩ := ford_some (not_nan_num hc) (not_nan_num num_zero)
                have l := lt_val hc num_zero
                have g := gt_val hc num_zero
                rw [ho, val_zero] at l g
                rw [ho]
                cases o
                · rfl
                · exfalso
                  have l' := of_decide_eq_false l.symm
                  have g' := of_decide_eq_false g.symm
                  grind
                · rfl
            by_cases k : val (fabs x) < val (fabs y)
            · rw [decide_eq_true k]
              simp only [if_true]
              rw [eqv _ a1, eqv _ b1]
              have : val (fabs y) ≠ 0 := by grind
              rw [decide_eq_false this, Bool.and_false]
            · rw [decide_eq_false k]
              simp only [Bool.false_eq_true, if_false]
              rw [eqv _ a1, eqv _ b1]
              by_cases z : val (fabs x) = 0
              · rw [decide_eq_true z, decide_eq_true (show val (fabs y) = 0 by grind)]; rfl
              · rw [decide_eq_false z, Bool.false_and]
          unfold shareF shareR
          rw [num_fin a1, num_fin b1, num_fin a2, num_fin b2, hz]
          cases hm : (ford (maxF (fabs x) (fabs y)) 0 == some .eq)
          · simp only [Bool.not_false, Bool.and_self, if_true]
            obtain ⟨g1, g2, g3, g4, g5⟩ := share_good nx ny (by intro h; rw [h] at hm; exact absurd hm (by decide))
            obtain ⟨d1, d2, d3⟩ := div_unit g2 g1 g4 g5 g3
            obtain ⟨e1, e2⟩ := abs_pick hx hy
            rw [ord_abs hx hy]
            cases hst : steepB x y
            · have hst' : (ford (fabs x) (fabs y) == some .lt) = false := hst
              rw [hst] at e1 e2
              simp only [Bool.false_eq_true, if_false] at e1 e2
              rw [hst']
              simp only [Bool.false_eq_true, if_false]
              rw [e1, e2] at d1 d2 d3
              rw [e1] at g1 g3 g5
              rw [e2] at g2 g4 g5
              rw [e1, e2]
              have s := div_same g2 g1 b2 a2 g4 g5 g3 b3 a3
              have n := (div_unit b2 a2 (by rw [← b3]; exact g4) (by rw [← b3, ← a3]; exact g5) (by rw [← a3]; exact g3)).1
              exact ⟨d1, n, d2, d3, s⟩
            · have hst' : (ford (fabs x) (fabs y) == some .lt) = true := hst
              rw [hst] at e1 e2
              simp only [if_true] at e1 e2
              rw [hst']
              simp only [if_true]
              rw [e1, e2] at d1 d2 d3
              rw [e1] at g1 g3 g5
              rw [e2] at g2 g4 g5
              rw [e1, e2]
              have s := div_same g2 g1 a2 b2 g4 g5 g3 a3 b3
              have n := (div_unit a2 b2 (by rw [← a3]; exact g4) (by rw [← a3, ← b3]; exact g5) (by rw [← b3]; exact g3)).1
              exact ⟨d1, n, d2, d3, s⟩
          · simp only [Bool.not_true, Bool.and_false, Bool.false_eq_true, if_false]
            exact ⟨num_zero, num_zero, by rw [val_zero]; exact Rat.le_refl, by rw [val_zero]; decide, by first | trivial | rfl⟩
        · obtain ⟨j1, j2⟩ := abs_inf iy
          exact bad _ _ _ _ (by rw [not_fin_inf j1, Bool.and_false]) (by rw [not_fin_inf j2, Bool.and_false])
      · obtain ⟨j1, j2⟩ := abs_inf ix
        exact bad _ _ _ _ (by rw [not_fin_inf j1, Bool.false_and]) (by rw [not_fin_inf j2, Bool.false_and])
    · obtain ⟨j1, j2⟩ := abs_nan hy
      exact bad _ _ _ _ (by rw [not_fin_nan j1, Bool.and_false]) (by rw [not_fin_nan j2, Bool.and_false])
  · obtain ⟨j1, j2⟩ := abs_nan hx
    exact bad _ _ _ _ (by rw [not_fin_nan j1, Bool.false_and]) (by rw [not_fin_nan j2, Bool.false_and])
end Go.Proofs.Ytnhilikcgfhkbaa.Fl
