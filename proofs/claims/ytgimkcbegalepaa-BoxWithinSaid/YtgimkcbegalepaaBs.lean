/- What goes through a box goes through one that has it: the mathematics, of six numbers a box. -/
import Derived.Test.YtgimkcbegalepaaBj
import Derived.Test.YtgimkcbegalepaaBn
namespace Go.Proofs.Ytgimkcbegalepaa
open Go.RowKit Fl

theorem num_of_numB {x : Nat} (h : numB x = true) : Num x := by
  unfold numB at h
  simp only [Bool.and_eq_true, Bool.not_eq_true'] at h
  cases k : F64.read x with
  | nan s f => unfold isN at h; rw [k] at h; exact absurd h.1 (by simp [Ieee.Datum.isNaN])
  | infinity s => rw [is_inf k] at h; exact absurd h.2 (by decide)
  | number s m e => exact ⟨s, m, e, k⟩
theorem not_nan_of_num {x : Nat} (h : Num x) : isN x = false := by
  obtain ⟨s, m, e, k⟩ := h
  unfold isN; rw [k]; rfl
theorem low_Num {a b : Nat} (ha : Num a) (hb : Num b) : Num (lowF a b) := by
  rcases low_or a b with h | h
  · rw [h]; exact ha
  · rw [h.1]; exact hb
theorem high_Num {a b : Nat} (ha : Num a) (hb : Num b) : Num (highF a b) := by
  rcases high_or a b with h | h
  · rw [h]; exact ha
  · rw [h.1]; exact hb
theorem low_val {a b : Nat} (ha : Num a) (hb : Num b) : val (lowF a b) ≤ val b := val_of_leB (low_Num ha hb) hb (low_ge2 (not_nan_of_num ha) (not_nan_of_num hb))
theorem high_val {a b : Nat} (ha : Num a) (hb : Num b) : val b ≤ val (highF a b) := val_of_leB hb (high_Num ha hb) (high_ge2 (not_nan_of_num ha) (not_nan_of_num hb))
theorem not_lt_low {a b : Nat} (ha : Num a) (hb : Num b) : ltB b (lowF a b) = false := by
  unfold ltB
  rw [lt_val hb (low_Num ha hb)]
  exact decide_eq_false (fun h => absurd (low_val ha hb) (Rat.not_le.2 h))
theorem not_gt_high {a b : Nat} (ha : Num a) (hb : Num b) : gtB b (highF a b) = false := by
  unfold gtB
  rw [gt_val hb (high_Num ha hb)]
  exact decide_eq_false (fun h => absurd (high_val ha hb) (Rat.not_le.2 h))

/-- Six numbers. -/
structure Six (a0 a1 a2 a3 a4 a5 : Nat) : Prop where
  h0 : Num a0
  h1 : Num a1
  h2 : Num a2
  h3 : Num a3
  h4 : Num a4
  h5 : Num a5

theorem six_of {a0 a1 a2 a3 a4 a5 : Nat} (h : (numB a0 && numB a1 && numB a2) = true) (k : (numB a3 && numB a4 && numB a5) = true) : Six a0 a1 a2 a3 a4 a5 := by
  simp only [Bool.and_eq_true] at h k
  exact ⟨num_of_numB h.1.1, num_of_numB h.1.2, num_of_numB h.2, num_of_numB k.1.1, num_of_numB k.1.2, num_of_numB k.2⟩

theorem part_all {p : Nat → Prop} {x y z : Nat} (hx : p x) (hy : p y) (hz : p z) (i : Int) : p (partF x y z i) := by
  unfold partF
  split
  · exact hx
  · split
    · exact hy
    · exact hz
theorem part_rel {x y z x' y' z' : Nat} (p : Nat → Nat → Prop) (hx : p x x') (hy : p y y') (hz : p z z') (i : Int) : p (partF x y z i) (partF x' y' z' i) := by
  unfold partF
  split
  · exact hx
  · split
    · exact hy
    · exact hz

theorem within_has {a0 a1 a2 a3 a4 a5 b0 b1 b2 b3 b4 b5 : Nat} (ha : Six a0 a1 a2 a3 a4 a5) (hb : Six b0 b1 b2 b3 b4 b5) : hasF (lowF a0 b0) (lowF a1 b1) (lowF a2 b2) (highF a3 b3) (highF a4 b4) (highF a5 b5) b0 b1 b2 b3 b4 b5 = true := by
  rw [has_eq, not_lt_low ha.h0 hb.h0, not_lt_low ha.h1 hb.h1, not_lt_low ha.h2 hb.h2, not_gt_high ha.h3 hb.h3, not_gt_high ha.h4 hb.h4, not_gt_high ha.h5 hb.h5]
  rfl

theorem within_goes {a0 a1 a2 a3 a4 a5 b0 b1 b2 b3 b4 b5 r0 r1 r2 r3 r4 r5 : Nat} {s : Nat × Nat} (ha : Six a0 a1 a2 a3 a4 a5) (hb : Six b0 b1 b2 b3 b4 b5) (h : goesF b0 b1 b2 b3 b4 b5 r0 r1 r2 r3 r4 r5 = some s) :
    ∃ s2, goesF (lowF a0 b0) (lowF a1 b1) (lowF a2 b2) (highF a3 b3) (highF a4 b4) (highF a5 b5) r0 r1 r2 r3 r4 r5 = some s2 ∧ leB s2.1 s.1 = true ∧ leB s.2 s2.2 = true := by
  unfold goesF at h ⊢
  cases hr : rayB r0 r1 r2 r3 r4 r5
  · rw [hr] at h; cases h
  · rw [hr] at h
    rw [if_pos rfl] at h ⊢
    unfold rayB at hr
    rw [Bool.and_eq_true] at hr
    have hR := six_of hr.1 hr.2
    exact through_within (fun k => part_all hR.h0 hR.h1 hR.h2 k) (fun k => part_all hR.h3 hR.h4 hR.h5 k) (fun k => part_all hb.h0 hb.h1 hb.h2 k) (fun k => part_all hb.h3 hb.h4 hb.h5 k)
      (fun k => part_all (low_Num ha.h0 hb.h0) (low_Num ha.h1 hb.h1) (low_Num ha.h2 hb.h2) k) (fun k => part_all (high_Num ha.h3 hb.h3) (high_Num ha.h4 hb.h4) (high_Num ha.h5 hb.h5) k)
      (fun k => part_rel (fun x y => val x ≤ val y) (low_val ha.h0 hb.h0) (low_val ha.h1 hb.h1) (low_val ha.h2 hb.h2) k) (fun k => part_rel (fun x y => val x ≤ val y) (high_val ha.h3 hb.h3) (high_val ha.h4 hb.h4) (high_val ha.h5 hb.h5) k) h

theorem le_or {x y : Nat} (h : leB x y = true) : FloatKind.f64.format.order x y = some .lt ∨ FloatKind.f64.format.order x y = some .eq := (leB_iff x y).1 h
theorem ge_or {x y : Nat} (h : leB y x = true) : FloatKind.f64.format.order x y = some .gt ∨ FloatKind.f64.format.order x y = some .eq := by
  rw [← geB_eq] at h
  rw [ordf]
  cases k : ford x y with
  | none => rw [k] at h; cases h
  | some o => cases o <;> simp_all
end Go.Proofs.Ytgimkcbegalepaa
