/- Products keep order, infinite ones too. -/
import Derived.Test.YtnhilikcgfhkbaaFp
namespace Go.Proofs.Ytnhilikcgfhkbaa.Fl

theorem write_inf (s : Bool) : F64.read (F64.write (.infinity s)) = .infinity s := by
  unfold Ieee.Format.write
  simp only [ir]
  exact read_inf s

theorem mul_inf_num {a i : Nat} {s t : Bool} {n : Nat} {j : Int} (ha : F64.read a = .infinity s) (hi : F64.read i = .number t n j) (hn : n ≠ 0) : F64.read (fmul a i) = .infinity (s ^^ t) := by
  unfold fmul Ieee.Format.mul
  rw [ha, hi]
  simp only [Ieee.Datum.product, if_neg hn, Option.map_some, Option.getD_some]
  exact write_inf _
theorem mul_num_inf {a i : Nat} {s t : Bool} {m : Nat} {e : Int} (ha : F64.read a = .number s m e) (hi : F64.read i = .infinity t) (hm : m ≠ 0) : F64.read (fmul a i) = .infinity (t ^^ s) := by
  unfold fmul Ieee.Format.mul
  rw [ha, hi]
  simp only [Ieee.Datum.product, if_neg hm, Option.map_some, Option.getD_some]
  exact write_inf _
theorem mul_zero_inf {a i : Nat} {s t : Bool} {e : Int} (ha : F64.read a = .number s 0 e) (hi : F64.read i = .infinity t) : isN (fmul a i) = true := by
  unfold fmul Ieee.Format.mul
  rw [ha, hi]
  simp only [Ieee.Datum.product, if_true, Option.map_none, Option.getD_none]
  exact isN_qnan
theorem mul_inf_inf {a i : Nat} {s t : Bool} (ha : F64.read a = .infinity s) (hi : F64.read i = .infinity t) : F64.read (fmul a i) = .infinity (s ^^ t) := by
  unfold fmul Ieee.Format.mul
  rw [ha, hi]
  simp only [Ieee.Datum.product, Option.map_some, Option.getD_some]
  exact write_inf _

theorem num_sign {x : Nat} {s : Bool} {m : Nat} {e : Int} (h : F64.read x = .number s m e) (hm : m ≠ 0) : if s then val x < 0 else 0 < val x := by
  have hv : val x = sg s ((m : Rat) * 2 ^ e) := by unfold val; rw [h, dval_number]
  have : (0 : Rat) < m := by exact_mod_cast Nat.pos_of_ne_zero hm
  have := Rat.mul_pos this (p2_pos e)
  cases s
  · simp only [Bool.false_eq_true, if_false]
    rw [hv]
    exact this
  · simp only [if_true]
    rw [hv]
    unfold sg
    grind

/-- The product with what is above 0 (t is false), or below it, keeps order, or turns it about. -/
theorem mul_order {a b i : Nat} {t : Bool} (hab : leB a b = true) (hi : (∃ n j, F64.read i = .number t n j ∧ n ≠ 0) ∨ F64.read i = .infinity t) (na : isN (fmul a i) = false) (nb : isN (fmul b i) = false) :
    if t then leB (fmul b i) (fmul a i) = true else leB (fmul a i) (fmul b i) = true := by
  cases ha : F64.read a with
  | nan s f =>
    exfalso
    have : isN a = true := by unfold isN; rw [ha]; rfl
    have := ord_nan_left this b
    unfold leB at hab
    rw [this] at hab
    cases hab
  | infinity s =>
    cases hb : F64.read b with
    | nan u f =>
      exfalso
      have : isN b = true := by unfold isN; rw [hb]; rfl
      have := ord_nan_right this a
      unfold leB at hab
      rw [this] at hab
      cases hab
    | number u m e =>
      have hs : s = true := by
        cases s
        · exfalso
          unfold leB ford Ieee.Format.order at hab
          rw [ha, hb] at hab
          cases hab
        · rfl
      subst hs
      have hr : F64.read (fmul a i) = .infinity (true ^^ t) := by
        rcases hi with ⟨n, j, hi, hn⟩ | hi
        · exact mul_inf_num ha hi hn
        · exact mul_inf_inf ha hi
      cases t
      · exact leB_low hr nb
      · exact leB_high hr nb
    | infinity u =>
      have hra : F64.read (fmul a i) = .infinity (s ^^ t) := by
        rcases hi with ⟨n, j, hi, hn⟩ | hi
        · exact mul_inf_num ha hi hn
        · exact mul_inf_inf ha hi
      have hrb : F64.read (fmul b i) = .infinity (u ^^ t) := by
        rcases hi with ⟨n, j, hi, hn⟩ | hi
        · exact mul_inf_num hb hi hn
        · exact mul_inf_inf hb hi
      cases s
      · have hu : u = false := by
          cases u
          · rfl
          · exfalso
            unfold leB ford Ieee.Format.order at hab
            rw [ha, hb] at hab
            cases hab
        subst hu
        cases t
        · exact leB_high hrb na
        · exact leB_low hrb na
      · cases t
        · exact leB_low hra nb
        · exact leB_high hra nb
  | number s m e =>
    cases hb : F64.read b with
    | nan u f =>
      exfalso
      have : isN b = true := by unfold isN; rw [hb]; rfl
      have := ord_nan_right this a
      unfold leB at hab
      rw [this] at hab
      cases hab
    | infinity u =>
      have hu : u = false := by
        cases u
        · rfl
        · exfalso
          unfold leB ford Ieee.Format.order at hab
          rw [ha, hb] at hab
          cases hab
      subst hu
      have hr : F64.read (fmul b i) = .infinity (false ^^ t) := by
        rcases hi with ⟨n, j, hi, hn⟩ | hi
        · exact mul_inf_num hb hi hn
        · exact mul_inf_inf hb hi
      cases t
      · exact leB_high hr na
      · exact leB_low hr na
    | number u n e2 =>
      have hA : Num a := ⟨_, _, _, ha⟩
      have hB : Num b := ⟨_, _, _, hb⟩
      rw [leB_val hA hB] at hab
      have hle := of_decide_eq_true hab
      rcases hi with ⟨k, j, hi, hk⟩ | hi
      · have hI : Num i := ⟨_, _, _, hi⟩
        have hsg := num_sign hi hk
        cases t
        · simp only [Bool.false_eq_true, if_false] at hsg ⊢
          exact mul_mono hA hI hB hI (Rat.mul_le_mul_of_nonneg_right hle (Rat.le_of_lt hsg))
        · simp only [if_true] at hsg ⊢
          refine mul_mono hB hI hA hI ?_
          have := Rat.mul_le_mul_of_nonneg_right hle (show 0 ≤ -val i by grind)
          grind
      · have hm : m ≠ 0 := by
          intro h0
          subst h0
          rw [mul_zero_inf ha hi] at na
          cases na
        have hn : n ≠ 0 := by
          intro h0
          subst h0
          rw [mul_zero_inf hb hi] at nb
          cases nb
        have hra := mul_num_inf ha hi hm
        have hrb := mul_num_inf hb hi hn
        have sa := num_sign ha hm
        have sb := num_sign hb hn
        cases s
        · have hu : u = false := by
            cases u
            · rfl
            · exfalso
              simp only [Bool.false_eq_true, if_false, if_true] at sa sb
              grind
          subst hu
          cases t
          · exact leB_high hrb na
          · exact leB_low hrb na
        · cases t
          · exact leB_low hra nb
          · exact leB_high hra nb

/-- What is not below the one, and not above the other. -/
theorem leB_trans {x y z : Nat} (h : leB x y = true) (k : leB y z = true) : leB x z = true := by
  have nx : isN x = false := by
    cases hn : isN x
    · rfl
    · unfold leB at h; rw [ord_nan_left hn y] at h; cases h
  have ny : isN y = false := by
    cases hn : isN y
    · rfl
    · unfold leB at k; rw [ord_nan_left hn z] at k; cases k
  have nz : isN z = false := by
    cases hn : isN z
    · rfl
    · unfold leB at k; rw [ord_nan_right hn y] at k; cases k
  cases hx : F64.read x with
  | nan s f => unfold isN at nx; rw [hx] at nx; cases nx
  | infinity s =>
    cases s
    · cases hy : F64.read y with
      | nan s f => unfold isN at ny; rw [hy] at ny; cases ny
      | infinity u =>
        cases u
        · cases hz : F64.read z with
          | nan s f => unfold isN at nz; rw [hz] at nz; cases nz
          | infinity v =>
            cases v
            · exact leB_high hz nx
            · unfold leB ford Ieee.Format.order at k; rw [hy, hz] at k; cases k
          | number s m e => unfold leB ford Ieee.Format.order at k; rw [hy, hz] at k; cases k
        · unfold leB ford Ieee.Format.order at h; rw [hx, hy] at h; cases h
      | number s m e => unfold leB ford Ieee.Format.order at h; rw [hx, hy] at h; cases h
    · exact leB_low hx nz
  | number s m e =>
    cases hz : F64.read z with
    | nan s f => unfold isN at nz; rw [hz] at nz; cases nz
    | infinity v =>
      cases v
      · exact leB_high hz nx
      · cases hy : F64.read y with
        | nan s f => unfold isN at ny; rw [hy] at ny; cases ny
        | infinity u =>
          cases u
          · unfold leB ford Ieee.Format.order at k; rw [hy, hz] at k; cases k
          · unfold leB ford Ieee.Format.order at h; rw [hx, hy] at h; cases h
        | number s m e => unfold leB ford Ieee.Format.order at k; rw [hy, hz] at k; cases k
    | number s' m' e' =>
      cases hy : F64.read y with
      | nan s f => unfold isN at ny; rw [hy] at ny; cases ny
      | infinity u =>
        cases u
        · unfold leB ford Ieee.Format.order at k; rw [hy, hz] at k; cases k
        · unfold leB ford Ieee.Format.order at h; rw [hx, hy] at h; cases h
      | number s'' m'' e'' =>
        have hX : Num x := ⟨_, _, _, hx⟩
        have hY : Num y := ⟨_, _, _, hy⟩
        have hZ : Num z := ⟨_, _, _, hz⟩
        rw [leB_val hX hY] at h
        rw [leB_val hY hZ] at k
        rw [leB_val hX hZ]
        exact decide_eq_true (Rat.le_trans (of_decide_eq_true h) (of_decide_eq_true k))
end Go.Proofs.Ytnhilikcgfhkbaa.Fl
