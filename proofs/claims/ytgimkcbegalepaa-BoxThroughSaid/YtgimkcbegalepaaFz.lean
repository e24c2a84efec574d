/- What goes through a box goes through one that has it, axis by axis. -/
import Derived.Test.YtgimkcbegalepaaFy
namespace Go.Proofs.Ytgimkcbegalepaa.Fl

theorem mul_nan_of {q i : Nat} {t : Bool} (hq : isN q = false) (hi : (∃ n j, F64.read i = .number t n j ∧ n ≠ 0) ∨ F64.read i = .infinity t) (h : isN (fmul q i) = true) : F64.read i = .infinity t ∧ ∃ s e, F64.read q = .number s 0 e := by
  cases hr : F64.read q with
  | nan s f => unfold isN at hq; rw [hr] at hq; cases hq
  | infinity s =>
    exfalso
    rcases hi with ⟨n, j, hi, hn⟩ | hi
    · rw [not_nan_inf (mul_inf_num hr hi hn)] at h; cases h
    · rw [not_nan_inf (mul_inf_inf hr hi)] at h; cases h
  | number s m e =>
    rcases hi with ⟨n, j, hi, hn⟩ | hi
    · exfalso
      obtain ⟨a, b, c, he, _⟩ := mul_near (x := q) (y := i) ⟨_, _, _, hr⟩ ⟨_, _, _, hi⟩
      rw [he, nearest_not_nan] at h
      cases h
    · refine ⟨hi, ?_⟩
      by_cases hm : m = 0
      · subst hm; exact ⟨s, e, rfl⟩
      · exfalso
        rw [not_nan_inf (mul_num_inf hr hi hm)] at h
        cases h

theorem val_of_zero {q : Nat} {s : Bool} {e : Int} (h : F64.read q = .number s 0 e) : val q = 0 := by
  unfold val
  rw [h, dval_number]
  have : ((0 : Nat) : Rat) * 2 ^ e = 0 := Rat.zero_mul _
  rw [this]
  cases s <;> simp [sg]

/-- The lesser one's product, where the greater one's is none. -/
theorem cand_low {p q i : Nat} {t : Bool} (hpq : leB p q = true) (hi : (∃ n j, F64.read i = .number t n j ∧ n ≠ 0) ∨ F64.read i = .infinity t) (hq : isN (fmul q i) = true) (hp : isN (fmul p i) = false) : F64.read (fmul p i) = .infinity (!t) := by
  obtain ⟨np, nq⟩ := leB_not_nan hpq
  obtain ⟨hI, s, e, hz⟩ := mul_nan_of nq hi hq
  cases hr : F64.read p with
  | nan s f => unfold isN at np; rw [hr] at np; cases np
  | infinity u =>
    have hu : u = true := by
      cases u
      · exfalso
        unfold leB ford Ieee.Format.order at hpq
        rw [hr, hz] at hpq
        cases hpq
      · rfl
    subst hu
    rw [mul_inf_inf hr hI]
    cases t <;> rfl
  | number u m e2 =>
    have hm : m ≠ 0 := by
      intro h0
      subst h0
      rw [mul_zero_inf hr hI] at hp
      cases hp
    have hs := num_sign hr hm
    rw [leB_val ⟨_, _, _, hr⟩ ⟨_, _, _, hz⟩, val_of_zero hz] at hpq
    have hle := of_decide_eq_true hpq
    have hu : u = true := by
      cases u
      · exfalso
        simp only [Bool.false_eq_true, if_false] at hs
        grind
      · rfl
    subst hu
    rw [mul_num_inf hr hI hm]
    cases t <;> rfl
theorem cand_high {p q i : Nat} {t : Bool} (hpq : leB p q = true) (hi : (∃ n j, F64.read i = .number t n j ∧ n ≠ 0) ∨ F64.read i = .infinity t) (hp : isN (fmul p i) = true) (hq : isN (fmul q i) = false) : F64.read (fmul q i) = .infinity t := by
  obtain ⟨np, nq⟩ := leB_not_nan hpq
  obtain ⟨hI, s, e, hz⟩ := mul_nan_of np hi hp
  cases hr : F64.read q with
  | nan s f => unfold isN at nq; rw [hr] at nq; cases nq
  | infinity u =>
    have hu : u = false := by
      cases u
      · rfl
      · exfalso
        unfold leB ford Ieee.Format.order at hpq
        rw [hr, hz] at hpq
        cases hpq
    subst hu
    rw [mul_inf_inf hr hI]
    cases t <;> rfl
  | number u m e2 =>
    have hm : m ≠ 0 := by
      intro h0
      subst h0
      rw [mul_zero_inf hr hI] at hq
      cases hq
    have hs := num_sign hr hm
    rw [leB_val ⟨_, _, _, hz⟩ ⟨_, _, _, hr⟩, val_of_zero hz] at hpq
    have hle := of_decide_eq_true hpq
    have hu : u = false := by
      cases u
      · rfl
      · exfalso
        simp only [if_true] at hs
        grind
    subst hu
    rw [mul_num_inf hr hI hm]
    cases t <;> rfl

/-- near and far behind one axis of which the ray's part is not 0. -/
def thrF (o d lo hi n f : Nat) : Nat × Nat :=
  let i := fdiv one d
  let x := fmul (fsub lo o) i
  let y := fmul (fsub hi o) i
  if ford i 0 == some .lt then (highF n y, lowF f x) else (highF n x, lowF f y)

theorem inv_sign {i : Nat} {t : Bool} (hi : (∃ n j, F64.read i = .number t n j ∧ n ≠ 0) ∨ F64.read i = .infinity t) : (ford i 0 == some .lt) = t := by
  rcases hi with ⟨n, j, hi, hn⟩ | hi
  · rw [lt_val ⟨_, _, _, hi⟩ num_zero, val_zero]
    have := num_sign hi hn
    cases t
    · simp only [Bool.false_eq_true, if_false] at this
      exact decide_eq_false (by grind)
    · simp only [if_true] at this
      exact decide_eq_true this
  · unfold ford Ieee.Format.order
    rw [hi, read_zero]
    cases t <;> rfl

theorem thr_num {o d lo hi n f : Nat} (hn : isN n = false) (hf : isN f = false) : isN (thrF o d lo hi n f).1 = false ∧ isN (thrF o d lo hi n f).2 = false := by
  unfold thrF
  dsimp only
  split
  · exact ⟨high_num hn, low_num hf⟩
  · exact ⟨high_num hn, low_num hf⟩

/-- ONE AXIS: a greater box is entered no later, and left no earlier. -/
theorem thr_within {o d lo hi lo2 hi2 n f n2 f2 : Nat} (ho : Num o) (hd : Num d) (hz : val d ≠ 0) (h1 : Num lo) (h2 : Num hi) (h3 : Num lo2) (h4 : Num hi2) (hl : val lo2 ≤ val lo) (hh : val hi ≤ val hi2)
    (hn : leB n2 n = true) (hf : leB f f2 = true) : leB (thrF o d lo2 hi2 n2 f2).1 (thrF o d lo hi n f).1 = true ∧ leB (thrF o d lo hi n f).2 (thrF o d lo2 hi2 n2 f2).2 = true := by
  obtain ⟨t, _, hi'⟩ := inv_read hd hz
  unfold thrF
  dsimp only
  rw [inv_sign hi']
  have dl := sub_mono h3 ho h1 ho (show val lo2 - val o ≤ val lo - val o by grind)
  have dh := sub_mono h2 ho h4 ho (show val hi - val o ≤ val hi2 - val o by grind)
  generalize fdiv one d = i at *
  generalize fsub lo o = p at *
  generalize fsub lo2 o = p2 at *
  generalize fsub hi o = q at *
  generalize fsub hi2 o = q2 at *
  obtain ⟨nn2, _⟩ := leB_not_nan hn
  obtain ⟨_, nf2⟩ := leB_not_nan hf
  cases t
  · simp only [Bool.false_eq_true, if_false]
    constructor
    · refine high_mono hn ?_
      cases e2 : isN (fmul p2 i)
      · right
        cases e1 : isN (fmul p i)
        · left
          have := mul_order dl hi' e2 e1
          simpa using this
        · right
          exact leB_low (cand_low dl hi' e1 e2) nn2
      · left; rfl
    · refine low_mono hf ?_
      cases e2 : isN (fmul q2 i)
      · right
        cases e1 : isN (fmul q i)
        · left
          have := mul_order dh hi' e1 e2
          simpa using this
        · right
          exact leB_high (cand_high dh hi' e1 e2) nf2
      · left; rfl
  · simp only [if_true]
    constructor
    · refine high_mono hn ?_
      cases e2 : isN (fmul q2 i)
      · right
        cases e1 : isN (fmul q i)
        · left
          have := mul_order dh hi' e1 e2
          simpa using this
        · right
          exact leB_low (cand_high dh hi' e1 e2) nn2
      · left; rfl
    · refine low_mono hf ?_
      cases e2 : isN (fmul p2 i)
      · right
        cases e1 : isN (fmul p i)
        · left
          have := mul_order dl hi' e2 e1
          simpa using this
        · right
          exact leB_high (cand_low dl hi' e1 e2) nf2
      · left; rfl
end Go.Proofs.Ytgimkcbegalepaa.Fl
