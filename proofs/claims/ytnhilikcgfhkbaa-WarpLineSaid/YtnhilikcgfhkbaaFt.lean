/- Sums, differences, products, quotients and order of floats, as rational numbers. -/
import Derived.Test.YtnhilikcgfhkbaaFs
namespace Go.Proofs.Ytnhilikcgfhkbaa.Fl

/-- Half a unit of the last digit, and half the least number. -/
def eu : Rat := 2 ^ (-53 : Int)
def et : Rat := 2 ^ (-1075 : Int)
theorem eu_pos : 0 < eu := p2_pos _
theorem et_pos : 0 < et := p2_pos _
/-- v is as near to r as a rounded number is. -/
structure Nr (v r : Rat) : Prop where
  lo : ∀ B, -B ≤ r → r ≤ B → r ≤ v + (B * eu + et)
  hi : ∀ B, -B ≤ r → r ≤ B → v ≤ r + (B * eu + et)

theorem write_val (neg : Bool) (mag : Nat) (place : Int) (h : Num (F64.nearest neg mag place)) : Nr (val (F64.nearest neg mag place)) (dval (.number neg mag place)) := by
  obtain ⟨V, hV, h0, h1, h2⟩ := nearest_val neg mag place h
  rw [hV, dval_number]
  rw [show (2 : Rat) ^ (-53 : Int) = eu from rfl, show (2 : Rat) ^ (-1075 : Int) = et from rfl] at h1 h2
  have hu := eu_pos
  generalize (mag : Rat) * 2 ^ place = R at *
  have hb : ∀ B, R ≤ B → R * eu ≤ B * eu := fun B hB => Rat.mul_le_mul_of_nonneg_right hB (Rat.le_of_lt hu)
  cases neg
  · constructor
    · intro B _ hB
      have := hb B hB
      unfold sg at *
      grind
    · intro B _ hB
      have := hb B hB
      unfold sg at *
      grind
  · constructor
    · intro B hB _
      unfold sg at *
      have := hb B (by grind)
      grind
    · intro B hB _
      unfold sg at *
      have := hb B (by grind)
      grind

theorem write_num (neg : Bool) (mag : Nat) (place : Int) (h1 : -64 ≤ dval (.number neg mag place)) (h2 : dval (.number neg mag place) ≤ 64) : Num (F64.nearest neg mag place) := by
  refine nearest_num neg mag place ?_
  rw [dval_number] at h1 h2
  cases neg
  · exact h2
  · unfold sg at h1
    grind

theorem sg_signed (s : Bool) (m u : Nat) : ((Ieee.signed s m u : Int) : Rat) = sg s ((m : Rat) * 2 ^ (u : Int)) := by
  unfold Ieee.signed sg
  rw [Nat.shiftLeft_eq, p2_nat]
  cases s <;> simp [Rat.intCast_natCast]

theorem signed_val (s : Bool) (m : Nat) (i base : Int) (h : base ≤ i) : ((Ieee.signed s m (i - base).toNat : Int) : Rat) * 2 ^ base = sg s ((m : Rat) * 2 ^ i) := by
  rw [sg_signed, show (((i - base).toNat : Nat) : Int) = i - base by omega]
  have : (2 : Rat) ^ i = 2 ^ (i - base) * 2 ^ base := by rw [← p2_add]; congr 1; omega
  rw [this]
  generalize (2 : Rat) ^ (i - base) = a
  generalize (2 : Rat) ^ base = b
  cases s <;> unfold sg <;> grind

theorem abs_val (t : Int) (z : Bool) (base : Int) : dval (.number (if t = 0 then z else decide (t < 0)) t.natAbs base) = (t : Rat) * 2 ^ base := by
  rw [dval_number]
  by_cases h0 : t = 0
  · subst h0
    have e : ((0 : Int).natAbs : Rat) * 2 ^ base = 0 := Rat.zero_mul _
    rw [e]
    have e2 : ((0 : Int) : Rat) * 2 ^ base = 0 := Rat.zero_mul _
    rw [e2]
    cases z <;> simp [sg]
  · rw [if_neg h0]
    by_cases hn : t < 0
    · have e : (t : Rat) = -((t.natAbs : Nat) : Rat) := by
        have : t = -((t.natAbs : Nat) : Int) := by omega
        have h2 : (t : Rat) = ((-((t.natAbs : Nat) : Int) : Int) : Rat) := by rw [← this]
        rw [h2, Rat.intCast_neg]
        rfl
      rw [e]
      simp only [hn, decide_true, sg, if_true]
      grind
    · have e : (t : Rat) = ((t.natAbs : Nat) : Rat) := by
        have : t = ((t.natAbs : Nat) : Int) := by omega
        exact_mod_cast this
      rw [e]
      simp [hn, sg]

theorem sum_val (s t : Bool) (m n : Nat) (i j : Int) : ∃ neg mag place, (Ieee.Datum.number s m i).sum (.number t n j) = some (.number neg mag place) ∧ dval (.number neg mag place) = dval (.number s m i) + dval (.number t n j) := by
  refine ⟨_, _, _, rfl, ?_⟩
  rw [abs_val, dval_number, dval_number, ← signed_val s m i (min i j) (by omega), ← signed_val t n j (min i j) (by omega)]
  have : ((Ieee.signed s m (i - min i j).toNat + Ieee.signed t n (j - min i j).toNat : Int) : Rat) = (Ieee.signed s m (i - min i j).toNat : Int) + (Ieee.signed t n (j - min i j).toNat : Int) := Rat.intCast_add _ _
  rw [this]
  grind

theorem add_near {x y : Nat} (hx : Num x) (hy : Num y) : ∃ neg mag place, fadd x y = F64.nearest neg mag place ∧ dval (.number neg mag place) = val x + val y := by
  obtain ⟨s, m, i, hx⟩ := hx
  obtain ⟨t, n, j, hy⟩ := hy
  obtain ⟨neg, mag, place, h1, h2⟩ := sum_val s t m n i j
  refine ⟨neg, mag, place, ?_, ?_⟩
  · unfold fadd Ieee.Format.add
    rw [hx, hy, h1]
    rfl
  · unfold val
    rw [hx, hy, h2]

theorem sub_near {x y : Nat} (hx : Num x) (hy : Num y) : ∃ neg mag place, fsub x y = F64.nearest neg mag place ∧ dval (.number neg mag place) = val x - val y := by
  obtain ⟨s, m, i, hx⟩ := hx
  obtain ⟨t, n, j, hy⟩ := hy
  obtain ⟨neg, mag, place, h1, h2⟩ := sum_val s (!t) m n i j
  refine ⟨neg, mag, place, ?_, ?_⟩
  · unfold fsub Ieee.Format.sub
    rw [hx, hy, Ieee.Datum.opposite, h1]
    rfl
  · unfold val
    rw [hx, hy, h2, dval_number, dval_number, dval_number]
    cases t <;> simp [sg] <;> grind

theorem mul_near {x y : Nat} (hx : Num x) (hy : Num y) : ∃ neg mag place, fmul x y = F64.nearest neg mag place ∧ dval (.number neg mag place) = val x * val y := by
  obtain ⟨s, m, i, hx⟩ := hx
  obtain ⟨t, n, j, hy⟩ := hy
  refine ⟨s ^^ t, m * n, i + j, ?_, ?_⟩
  · unfold fmul Ieee.Format.mul
    rw [hx, hy]
    rfl
  · unfold val
    rw [hx, hy, dval_number, dval_number, dval_number, p2_add, Rat.natCast_mul]
    cases s <;> cases t <;> simp [sg] <;> grind

theorem fadd_num {x y : Nat} (hx : Num x) (hy : Num y) (h1 : -64 ≤ val x + val y) (h2 : val x + val y ≤ 64) : Num (fadd x y) := by
  obtain ⟨neg, mag, place, e, hv⟩ := add_near hx hy
  rw [e]; exact write_num _ _ _ (by rw [hv]; exact h1) (by rw [hv]; exact h2)
theorem fadd_val {x y : Nat} (hx : Num x) (hy : Num y) (h : Num (fadd x y)) : Nr (val (fadd x y)) (val x + val y) := by
  obtain ⟨neg, mag, place, e, hv⟩ := add_near hx hy
  rw [e] at h ⊢; rw [← hv]; exact write_val _ _ _ h
theorem fsub_num {x y : Nat} (hx : Num x) (hy : Num y) (h1 : -64 ≤ val x - val y) (h2 : val x - val y ≤ 64) : Num (fsub x y) := by
  obtain ⟨neg, mag, place, e, hv⟩ := sub_near hx hy
  rw [e]; exact write_num _ _ _ (by rw [hv]; exact h1) (by rw [hv]; exact h2)
theorem fsub_val {x y : Nat} (hx : Num x) (hy : Num y) (h : Num (fsub x y)) : Nr (val (fsub x y)) (val x - val y) := by
  obtain ⟨neg, mag, place, e, hv⟩ := sub_near hx hy
  rw [e] at h ⊢; rw [← hv]; exact write_val _ _ _ h
theorem fmul_num {x y : Nat} (hx : Num x) (hy : Num y) (h1 : -64 ≤ val x * val y) (h2 : val x * val y ≤ 64) : Num (fmul x y) := by
  obtain ⟨neg, mag, place, e, hv⟩ := mul_near hx hy
  rw [e]; exact write_num _ _ _ (by rw [hv]; exact h1) (by rw [hv]; exact h2)
theorem fmul_val {x y : Nat} (hx : Num x) (hy : Num y) (h : Num (fmul x y)) : Nr (val (fmul x y)) (val x * val y) := by
  obtain ⟨neg, mag, place, e, hv⟩ := mul_near hx hy
  rw [e] at h ⊢; rw [← hv]; exact write_val _ _ _ h

/-! What is a number came of numbers -/
theorem num_not_inf {s : Bool} (h : Num (F64.write (.infinity s))) : False := by
  obtain ⟨_, _, _, h⟩ := h
  unfold Ieee.Format.write at h
  simp only [ir] at h
  rw [read_inf] at h
  cases h
theorem num_not_nan (h : Num qnan) : False := by
  obtain ⟨_, _, _, h⟩ := h
  have : F64.read qnan = .nan false 2251799813685249 := by decide +kernel
  rw [this] at h
  cases h

theorem num_of_add {x y : Nat} (h : Num (fadd x y)) : Num x ∧ Num y := by
  unfold fadd Ieee.Format.add at h
  unfold Num
  generalize F64.read x = d at *
  generalize F64.read y = e at *
  cases d <;> cases e <;> simp only [Ieee.Datum.sum, Option.map_none, Option.map_some, Option.getD_none, Option.getD_some] at h <;> first
    | exact ⟨⟨_, _, _, rfl⟩, ⟨_, _, _, rfl⟩⟩
    | exact absurd h num_not_nan
    | exact absurd h num_not_inf
    | (split at h
       · exact absurd h num_not_inf
       · exact absurd h num_not_nan)
theorem num_of_sub {x y : Nat} (h : Num (fsub x y)) : Num x ∧ Num y := by
  unfold fsub Ieee.Format.sub at h
  unfold Num
  generalize F64.read x = d at *
  generalize F64.read y = e at *
  cases d <;> cases e <;> simp only [Ieee.Datum.sum, Ieee.Datum.opposite, Option.map_none, Option.map_some, Option.getD_none, Option.getD_some] at h <;> first
    | exact ⟨⟨_, _, _, rfl⟩, ⟨_, _, _, rfl⟩⟩
    | exact absurd h num_not_nan
    | exact absurd h num_not_inf
    | (split at h
       · exact absurd h num_not_inf
       · exact absurd h num_not_nan)
theorem num_of_square {x : Nat} (h : Num (fmul x x)) : Num x := by
  unfold fmul Ieee.Format.mul at h
  unfold Num
  generalize F64.read x = d at *
  cases d <;> simp only [Ieee.Datum.product, Option.map_none, Option.map_some, Option.getD_none, Option.getD_some] at h <;> first
    | exact ⟨_, _, _, rfl⟩
    | exact absurd h num_not_nan
    | exact absurd h num_not_inf
end Go.Proofs.Ytnhilikcgfhkbaa.Fl
