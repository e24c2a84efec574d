/- Lesser and greater ones of floats. -/
import Derived.Test.YtnhilikcgfhkbaaFq
namespace Go.Proofs.Ytnhilikcgfhkbaa.Fl

theorem ford_swap (x y : Nat) : ford y x = (ford x y).map Ordering.swap := by
  unfold ford Ieee.Format.order
  generalize F64.read x = d
  generalize F64.read y = e
  cases d with
  | nan s f => cases e <;> rfl
  | infinity s =>
    cases e with
    | nan t f => rfl
    | infinity t => cases s <;> cases t <;> rfl
    | number t n j => cases s <;> rfl
  | number s m i =>
    cases e with
    | nan t f => rfl
    | infinity t => cases t <;> rfl
    | number t n j =>
      simp only [Ieee.Datum.order, Option.map_some]
      rw [Int.min_comm j i, Int.compare_swap]

theorem ford_some {x y : Nat} (hx : isN x = false) (hy : isN y = false) : ∃ o, ford x y = some o := by
  unfold isN at hx hy
  unfold ford Ieee.Format.order
  generalize F64.read x = d at *
  generalize F64.read y = e at *
  cases d <;> cases e <;> first | exact ⟨_, rfl⟩ | cases (show true = false from hx) | cases (show true = false from hy)

theorem leB_refl {x : Nat} (h : isN x = false) : leB x x = true := by
  unfold leB
  rw [ford_refl h]
  rfl

/-- '>=' is '<=' the other way round. -/
theorem geB_eq (x y : Nat) : (ford x y == some .gt || ford x y == some .eq) = leB y x := by
  unfold leB
  rw [ford_swap x y]
  cases h : ford x y with
  | none => rfl
  | some o => cases o <;> rfl

theorem leB_of_lt {x y : Nat} (h : ford x y = some .lt) : leB x y = true := by unfold leB; rw [h]; rfl
theorem leB_of_gt {x y : Nat} (h : ford x y = some .gt) : leB y x = true := by rw [← geB_eq, h]; rfl
theorem leB_not_nan {x y : Nat} (h : leB x y = true) : isN x = false ∧ isN y = false := by
  constructor
  · cases hn : isN x
    · rfl
    · unfold leB at h; rw [ord_nan_left hn y] at h; cases h
  · cases hn : isN y
    · rfl
    · unfold leB at h; rw [ord_nan_right hn x] at h; cases h

/-- The lesser one, the first, if the second is not; the greater one likewise. -/
def lowF (a b : Nat) : Nat := if ford b a == some .lt then b else a
def highF (a b : Nat) : Nat := if ford b a == some .gt then b else a

theorem high_nan {a b : Nat} (h : isN b = true) : highF a b = a := by unfold highF; rw [ord_nan_left h a]; rfl
theorem low_nan {a b : Nat} (h : isN b = true) : lowF a b = a := by unfold lowF; rw [ord_nan_left h a]; rfl
theorem high_le {a b : Nat} (h : leB b a = true) : highF a b = a := by
  unfold highF
  unfold leB at h
  cases k : ford b a with
  | none => rfl
  | some o =>
    cases o
    · rfl
    · rfl
    · rw [k] at h; cases h
theorem low_le {a b : Nat} (h : leB a b = true) : lowF a b = a := by
  unfold lowF
  rw [← geB_eq] at h
  cases k : ford b a with
  | none => rfl
  | some o =>
    cases o
    · rw [k] at h; cases h
    · rfl
    · rfl
theorem high_ge {a : Nat} (b : Nat) (h : isN a = false) : leB a (highF a b) = true := by
  unfold highF
  cases k : ford b a == some .gt
  · simpa using leB_refl h
  · simp only [if_true]
    exact leB_of_gt (by simpa using k)
theorem low_ge {a : Nat} (b : Nat) (h : isN a = false) : leB (lowF a b) a = true := by
  unfold lowF
  cases k : ford b a == some .lt
  · simpa using leB_refl h
  · simp only [if_true]
    exact leB_of_lt (by simpa using k)
theorem high_ge2 {a b : Nat} (h : isN a = false) (k : isN b = false) : leB b (highF a b) = true := by
  obtain ⟨o, ho⟩ := ford_some k h
  unfold highF
  rw [ho]
  cases o
  · exact leB_of_lt ho
  · show leB b a = true
    unfold leB; rw [ho]; rfl
  · exact leB_refl k
theorem low_ge2 {a b : Nat} (h : isN a = false) (k : isN b = false) : leB (lowF a b) b = true := by
  obtain ⟨o, ho⟩ := ford_some k h
  unfold lowF
  rw [ho]
  cases o
  · exact leB_refl k
  · show leB a b = true
    rw [← geB_eq, ho]; rfl
  · exact leB_of_gt ho
theorem high_or (a b : Nat) : highF a b = a ∨ highF a b = b ∧ ford b a = some .gt := by
  unfold highF
  cases k : ford b a == some .gt
  · left; rfl
  · right; exact ⟨rfl, by simpa using k⟩
theorem low_or (a b : Nat) : lowF a b = a ∨ lowF a b = b ∧ ford b a = some .lt := by
  unfold lowF
  cases k : ford b a == some .lt
  · left; rfl
  · right; exact ⟨rfl, by simpa using k⟩
theorem high_num {a b : Nat} (h : isN a = false) : isN (highF a b) = false := (leB_not_nan (high_ge b h)).2
theorem low_num {a b : Nat} (h : isN a = false) : isN (lowF a b) = false := (leB_not_nan (low_ge b h)).1

/-- A greater start and a greater candidate give a greater one; a candidate that is none says nothing. -/
theorem high_mono {a b x y : Nat} (h : leB a b = true) (k : isN x = true ∨ leB x y = true ∨ leB x a = true) : leB (highF a x) (highF b y) = true := by
  obtain ⟨na, nb⟩ := leB_not_nan h
  have hb := leB_trans h (high_ge y nb)
  rcases k with k | k | k
  · rw [high_nan k]; exact hb
  · rcases high_or a x with e | ⟨e, _⟩
    · rw [e]; exact hb
    · rw [e]; exact leB_trans k (high_ge2 nb (leB_not_nan k).2)
  · rw [high_le k]; exact hb
theorem low_mono {a b x y : Nat} (h : leB a b = true) (k : isN y = true ∨ leB x y = true ∨ leB b y = true) : leB (lowF a x) (lowF b y) = true := by
  obtain ⟨na, nb⟩ := leB_not_nan h
  have hb := leB_trans (low_ge x na) h
  rcases k with k | k | k
  · rw [low_nan k]; exact hb
  · rcases low_or b y with e | ⟨e, _⟩
    · rw [e]; exact hb
    · rw [e]; exact leB_trans (low_ge2 na (leB_not_nan k).1) k
  · rw [low_le k]; exact hb
end Go.Proofs.Ytnhilikcgfhkbaa.Fl
