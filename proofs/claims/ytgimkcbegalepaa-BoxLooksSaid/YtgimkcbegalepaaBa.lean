/- Where a ray goes through a box, axis by axis; what goes through a part goes through all. -/
import Derived.Test.YtgimkcbegalepaaFz
namespace Go.Proofs.Ytgimkcbegalepaa.Fl

/-- One axis. -/
def axF (o d lo hi : Nat) (s : Nat × Nat) : Option (Nat × Nat) :=
  if ford d 0 == some .eq then (if leB lo o && leB o hi then some s else none) else some (thrF o d lo hi s.1 s.2)
/-- near and far behind k axes. -/
def stF (o d lo hi : Nat → Nat) : Nat → Option (Nat × Nat)
  | 0 => some (0, 9218868437227405312)
  | k + 1 => (stF o d lo hi k).bind (axF (o k) (d k) (lo k) (hi k))
def finF (s : Nat × Nat) : Option (Nat × Nat) := if leB s.1 s.2 then some s else none
def throughF (o d lo hi : Nat → Nat) : Option (Nat × Nat) := (stF o d lo hi 3).bind finF

/-- A float that is a number is one. -/
theorem leB_of_val {x y : Nat} (hx : Num x) (hy : Num y) (h : val x ≤ val y) : leB x y = true := by
  rw [leB_val hx hy]; exact decide_eq_true h
theorem val_of_leB {x y : Nat} (hx : Num x) (hy : Num y) (h : leB x y = true) : val x ≤ val y := by
  rw [leB_val hx hy] at h; exact of_decide_eq_true h

theorem ax_within {o d lo hi lo2 hi2 : Nat} {s s2 r : Nat × Nat} (ho : Num o) (hd : Num d) (h1 : Num lo) (h2 : Num hi) (h3 : Num lo2) (h4 : Num hi2) (hl : val lo2 ≤ val lo) (hh : val hi ≤ val hi2)
    (hn : leB s2.1 s.1 = true) (hf : leB s.2 s2.2 = true) (h : axF o d lo hi s = some r) : ∃ r2, axF o d lo2 hi2 s2 = some r2 ∧ leB r2.1 r.1 = true ∧ leB r.2 r2.2 = true := by
  unfold axF at h ⊢
  cases hz : ford d 0 == some .eq
  · rw [hz] at h
    simp only [Bool.false_eq_true, if_false, Option.some.injEq] at h ⊢
    subst h
    have hz0 : val d ≠ 0 := by
      intro h0
      obtain ⟨a, b, e, _, heq⟩ := ord_val hd num_zero
      rw [val_zero] at heq
      have := heq.2 h0
      subst this
      rw [e] at hz
      simp at hz
    exact ⟨_, rfl, thr_within ho hd hz0 h1 h2 h3 h4 hl hh hn hf⟩
  · rw [hz] at h
    simp only [if_true] at h ⊢
    cases hc : leB lo o && leB o hi
    · rw [hc] at h; simp at h
    · rw [hc] at h
      simp only [if_true, Option.some.injEq] at h
      subst h
      simp only [Bool.and_eq_true] at hc
      have a1 := val_of_leB h1 ho hc.1
      have a2 := val_of_leB ho h2 hc.2
      have e1 := leB_of_val h3 ho (Rat.le_trans hl a1)
      have e2 := leB_of_val ho h4 (Rat.le_trans a2 hh)
      rw [e1, e2]
      exact ⟨s2, rfl, hn, hf⟩

theorem num_pinf : isN 9218868437227405312 = false := by decide +kernel
theorem num_nought : isN 0 = false := by decide +kernel

theorem st_within {o d lo hi lo2 hi2 : Nat → Nat} (ho : ∀ k, Num (o k)) (hd : ∀ k, Num (d k)) (h1 : ∀ k, Num (lo k)) (h2 : ∀ k, Num (hi k)) (h3 : ∀ k, Num (lo2 k)) (h4 : ∀ k, Num (hi2 k)) (hl : ∀ k, val (lo2 k) ≤ val (lo k)) (hh : ∀ k, val (hi k) ≤ val (hi2 k)) :
    ∀ k r, stF o d lo hi k = some r → ∃ r2, stF o d lo2 hi2 k = some r2 ∧ leB r2.1 r.1 = true ∧ leB r.2 r2.2 = true := by
  intro k
  induction k with
  | zero =>
    intro r h
    simp only [stF, Option.some.injEq] at h
    subst h
    exact ⟨_, rfl, leB_refl num_nought, leB_refl num_pinf⟩
  | succ k ih =>
    intro r h
    simp only [stF] at h ⊢
    cases hs : stF o d lo hi k with
    | none => rw [hs] at h; cases h
    | some s =>
      rw [hs] at h
      obtain ⟨s2, e2, hn, hf⟩ := ih s hs
      rw [e2]
      exact ax_within (ho k) (hd k) (h1 k) (h2 k) (h3 k) (h4 k) (hl k) (hh k) hn hf h

theorem through_within {o d lo hi lo2 hi2 : Nat → Nat} (ho : ∀ k, Num (o k)) (hd : ∀ k, Num (d k)) (h1 : ∀ k, Num (lo k)) (h2 : ∀ k, Num (hi k)) (h3 : ∀ k, Num (lo2 k)) (h4 : ∀ k, Num (hi2 k)) (hl : ∀ k, val (lo2 k) ≤ val (lo k)) (hh : ∀ k, val (hi k) ≤ val (hi2 k))
    {r : Nat × Nat} (h : throughF o d lo hi = some r) : ∃ r2, throughF o d lo2 hi2 = some r2 ∧ leB r2.1 r.1 = true ∧ leB r.2 r2.2 = true := by
  unfold throughF at h ⊢
  cases hs : stF o d lo hi 3 with
  | none => rw [hs] at h; cases h
  | some s =>
    rw [hs] at h
    obtain ⟨s2, e2, hn, hf⟩ := st_within ho hd h1 h2 h3 h4 hl hh 3 s hs
    rw [e2]
    simp only [Option.bind_some, finF] at h ⊢
    cases hc : leB s.1 s.2
    · rw [hc] at h; simp at h
    · rw [hc] at h
      simp only [if_true, Option.some.injEq] at h
      subst h
      rw [leB_trans hn (leB_trans hc hf)]
      exact ⟨s2, rfl, hn, hf⟩
end Go.Proofs.Ytgimkcbegalepaa.Fl
