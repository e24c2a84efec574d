/- A direction in the plane, (1, f) of length 1: how near its numbers are to what they are to be. -/
import Derived.Test.YtnhilikcgfhkbaaYa
import Derived.Test.YtnhilikcgfhkbaaXd
namespace Go.Proofs.Ytnhilikcgfhkbaa.Fl

def w1 : Nat := 4607182418800017408
theorem num_w1 : Num w1 := ⟨false, 4503599627370496, -52, by decide +kernel⟩
theorem val_w1 : val w1 = 1 := by decide +kernel
/-- (1 and f times f), its root, 1 and f divided by it. -/
def secQ (f : Nat) : Nat := fadd w1 (fmul f f)
def secD (f : Nat) : Nat := fsqrt (secQ f)
def secC (f : Nat) : Nat := fdiv w1 (secD f)
def secS (f : Nat) : Nat := fdiv f (secD f)

/-- What is known of them, f from 0 to 1. -/
structure Sec (f : Nat) : Prop where
  nq : Num (secQ f)
  nd : Num (secD f)
  nc : Num (secC f)
  ns : Num (secS f)
  q0 : 1 - 2 * dl ≤ val (secQ f)
  q1 : val (secQ f) ≤ 2 + 2 * dl
  dd : Ab (val (secD f) * val (secD f) - (1 + val f * val f)) (3 * dl)
  d0 : 15 / 16 ≤ val (secD f)
  d1 : val (secD f) ≤ 3 / 2
  cd : Ab (val (secC f) * val (secD f) - 1) (5 * dl)
  sd : Ab (val (secS f) * val (secD f) - val f) (5 * dl)
  len : Ab (val (secC f) * val (secC f) + val (secS f) * val (secS f) - 1) (24 * dl)
  c0 : 5 / 8 ≤ val (secC f)
  c1 : val (secC f) ≤ 9 / 8
  s0 : -(5 * dl) * 2 ≤ val (secS f)
  s1 : val (secS f) ≤ 9 / 8

theorem dl_le : dl ≤ 1 / 1048576 := by unfold dl; grind
theorem dl_ge : 0 ≤ dl := by unfold dl; grind
theorem sq_ge {a A : Rat} (h0 : 0 ≤ a) (h : A * A ≤ a * a) : A ≤ a := by
  by_cases h1 : A ≤ a
  · exact h1
  · exfalso
    have p1 := Rat.mul_pos (show 0 < A - a by grind) (show 0 < A - a by grind)
    have p2 := Rat.mul_nonneg (show 0 ≤ A - a by grind) h0
    grind
/-- A bound on a product with what is nearly 1 or more. -/
theorem ab_div {t g B B' : Rat} (hg : 1023 / 1024 ≤ g) (h : Ab (t * g) B) (hB : B ≤ B' * (1023 / 1024)) (hB0 : 0 ≤ B') : Ab t B' := by
  unfold Ab at *
  obtain ⟨h1, h2⟩ := h
  constructor
  · by_cases k : -B' ≤ t
    · exact k
    · exfalso
      have p := Rat.mul_nonneg (show 0 ≤ -B' - t by grind) (show 0 ≤ g - 1023 / 1024 by grind)
      have p2 := Rat.mul_nonneg hB0 (show 0 ≤ g - 1023 / 1024 by grind)
      grind
  · by_cases k : t ≤ B'
    · exact k
    · exfalso
      have p := Rat.mul_nonneg (show 0 ≤ t - B' by grind) (show 0 ≤ g - 1023 / 1024 by grind)
      have p2 := Rat.mul_nonneg hB0 (show 0 ≤ g - 1023 / 1024 by grind)
      grind

theorem sec_alg {D C S F : Rat} (fa : Ab F 1) (f0 : 0 ≤ F) (dd : Ab (D * D - (1 + F * F)) (3 * dl)) (d0 : 15 / 16 ≤ D) (ec' : Ab (C * D - 1) (5 * dl)) (es' : Ab (S * D - F) (5 * dl)) :
    Ab (C * C + S * S - 1) (24 * dl) ∧ 5 / 8 ≤ C ∧ C ≤ 9 / 8 ∧ -(5 * dl) * 2 ≤ S ∧ S ≤ 9 / 8 := by
  have hd := dl_le
  have hd0 := dl_ge
  have hdd : dl * dl ≤ dl * (1 / 1048576) := Rat.mul_le_mul_of_nonneg_left hd hd0
  have hdd0 : 0 ≤ dl * dl := Rat.mul_nonneg hd0 hd0
  have hFF : 0 ≤ F * F := Rat.mul_nonneg f0 f0
  have d1 : D ≤ 3 / 2 := by
    have ff := fa.mul fa
    refine (Ab.of_sq (A := 3 / 2) (by grind) ?_).2
    unfold Ab at dd ff
    grind
  have g1 : 1023 / 1024 ≤ D * D := by unfold Ab at dd; grind
  have cc : Ab ((C * D - 1) * (C * D - 1)) (5 * dl * (5 * dl)) := ec'.mul ec'
  have ss : Ab ((S * D - F) * (S * D - F)) (5 * dl * (5 * dl)) := es'.mul es'
  have fs : Ab (F * (S * D - F)) (1 * (5 * dl)) := fa.mul es'
  have len : Ab (C * C + S * S - 1) (24 * dl) := by
    refine ab_div (g := D * D) (B := 23 * dl + dl * (1 / 1000)) g1 ?_ (by grind) (by grind)
    have e : (C * C + S * S - 1) * (D * D) = 2 * (C * D - 1) + (C * D - 1) * (C * D - 1) + 2 * (F * (S * D - F)) + (S * D - F) * (S * D - F) - (D * D - (1 + F * F)) := by grind
    rw [e]
    generalize C * D - 1 = a at *
    generalize a * a = aa at *
    generalize F * (S * D - F) = b at *
    generalize (S * D - F) * (S * D - F) = bb at *
    generalize D * D - (1 + F * F) = c at *
    unfold Ab at *
    constructor <;> grind
  have c0 : 5 / 8 ≤ C := by
    by_cases k : 5 / 8 ≤ C
    · exact k
    · exfalso
      have p := Rat.mul_nonneg (show 0 ≤ 5 / 8 - C by grind) (show 0 ≤ D by grind)
      unfold Ab at ec'
      grind
  have c1 : C ≤ 9 / 8 := by
    by_cases k : C ≤ 9 / 8
    · exact k
    · exfalso
      have p := Rat.mul_nonneg (show 0 ≤ C - 9 / 8 by grind) (show 0 ≤ D by grind)
      unfold Ab at ec'
      grind
  have s0 : -(5 * dl) * 2 ≤ S := by
    by_cases k : -(5 * dl) * 2 ≤ S
    · exact k
    · exfalso
      have p := Rat.mul_nonneg (show 0 ≤ -(5 * dl) * 2 - S by grind) (show 0 ≤ D - 15 / 16 by grind)
      have p2 := Rat.mul_nonneg hd0 (show 0 ≤ D - 15 / 16 by grind)
      unfold Ab at es'
      grind
  have s1 : S ≤ 9 / 8 := by
    refine (Ab.of_sq (A := 9 / 8) (by grind) ?_).2
    have := sq_nonneg C
    unfold Ab at len
    grind
  exact ⟨len, c0, c1, s0, s1⟩

theorem sec_vals {f : Nat} (hf : Num f) (f0 : 0 ≤ val f) (f1 : val f ≤ 1) : Sec f := by
  have fa : Ab (val f) 1 := ⟨by grind, f1⟩
  have ff := fa.mul fa
  obtain ⟨n1, e1⟩ := mul_ab hf hf (ff.mono (by grind))
  have hd := dl_le
  have hd0 := dl_ge
  have hdd : dl * dl ≤ dl * (1 / 1048576) := Rat.mul_le_mul_of_nonneg_left hd hd0
  have hdd0 : 0 ≤ dl * dl := Rat.mul_nonneg hd0 hd0
  have hff0 : 0 ≤ val f * val f := Rat.mul_nonneg f0 f0
  have hff1 : val f * val f ≤ 1 := by unfold Ab at ff; grind
  obtain ⟨n2, e2⟩ := add_ab num_w1 n1 (by rw [val_w1]; unfold Ab at *; constructor <;> grind)
  rw [val_w1] at e2
  have nq : Num (secQ f) := n2
  have eq : Ab (val (secQ f) - (1 + val (fmul f f))) dl := e2
  have q0 : 1 - 2 * dl ≤ val (secQ f) := by unfold Ab at *; grind
  have q1 : val (secQ f) ≤ 2 + 2 * dl := by unfold Ab at *; grind
  obtain ⟨nd, dn, d3, ed, _⟩ := sqrt_ab nq (by grind) (by grind)
  have nd' : Num (secD f) := nd
  have ed' : Ab (val (secD f) * val (secD f) - val (secQ f)) dl := ed
  have dn' : 0 ≤ val (secD f) := dn
  have dd : Ab (val (secD f) * val (secD f) - (1 + val f * val f)) (3 * dl) := by unfold Ab at *; constructor <;> grind
  have d0 : 15 / 16 ≤ val (secD f) := sq_ge dn' (by unfold Ab at dd; grind)
  have d1 : val (secD f) ≤ 3 / 2 := (Ab.of_sq (A := 3 / 2) (by grind) (by unfold Ab at dd; grind)).2
  have d4 : Ab (val (secD f)) 4 := by unfold Ab; constructor <;> grind
  obtain ⟨nc, ec⟩ := div_ab num_w1 nd' (by rw [val_w1]; unfold Ab; constructor <;> grind) (.inl (by grind)) d4
  obtain ⟨ns, es⟩ := div_ab hf nd' fa (.inl (by grind)) d4
  rw [val_w1] at ec
  have nc' : Num (secC f) := nc
  have ns' : Num (secS f) := ns
  have ec' : Ab (val (secC f) * val (secD f) - 1) (5 * dl) := ec
  have es' : Ab (val (secS f) * val (secD f) - val f) (5 * dl) := es
  clear nc ns ec es nd ed dn e1 e2 n1 n2 eq
  obtain ⟨len, c0, c1, s0, s1⟩ := sec_alg fa f0 dd d0 ec' es'
  exact ⟨nq, nd', nc', ns', q0, q1, dd, d0, d1, ec', es', len, c0, c1, s0, s1⟩
end Go.Proofs.Ytnhilikcgfhkbaa.Fl
