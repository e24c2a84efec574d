/- A direction's sector told back: the density of a draw's direction; a triangle's numbers; numbers that are more often near 0. -/
import Derived.Test.YtnhilikcgfhkbaaYc
namespace Go.Proofs.Ytnhilikcgfhkbaa.Fl

def eighth : Nat := 4593671619917905920
theorem num_eighth : Num eighth := ⟨false, 4503599627370496, -55, by decide +kernel⟩
theorem val_eighth : val eighth = 1 / 8 := by decide +kernel
/-- The density by f. -/
def densF (f : Nat) : Nat := fmul (secQ f) eighth
theorem dens_ab {f : Nat} (hf : Num f) {F B : Rat} (hF : Ab (val f - F) B) (hB : B ≤ 1 / 1024) (f0 : 0 ≤ F) (f1 : F ≤ 1) : Num (densF f) ∧ Ab (val (densF f) - (1 + F * F) * (1 / 8)) (B * (3 / 8) + 2 * dl) := by
  have hd := dl_le
  have hd0 := dl_ge
  have fa : Ab (val f) (9 / 8) := by unfold Ab at *; constructor <;> grind
  have Fa : Ab F 1 := by unfold Ab; constructor <;> grind
  have ff := fa.mul fa
  have f00 := sq_nonneg (val f)
  obtain ⟨n1, e1⟩ := mul_ab hf hf (ff.mono (by grind))
  obtain ⟨n2, e2⟩ := add_ab num_w1 n1 (by rw [val_w1]; unfold Ab at *; constructor <;> grind)
  rw [val_w1] at e2
  obtain ⟨n3, e3⟩ := mul_ab n2 num_eighth (by rw [val_eighth]; unfold Ab at *; constructor <;> grind)
  rw [val_eighth] at e3
  refine ⟨n3, ?_⟩
  have k := hF.mul (fa.add Fa)
  have e : (val f - F) * (val f + F) = val f * val f - F * F := by grind
  rw [e] at k
  have hB0 := hF.nonneg
  have k2 := k.mono (show B * (9 / 8 + 1) ≤ B * 3 by grind)
  unfold densF secQ
  unfold Ab at *
  constructor <;> grind

/-- What is less, divided by what is greater, tells f again. -/
theorem sec_back {f : Nat} (hf : Num f) (f0 : 0 ≤ val f) (f1 : val f ≤ 1) : Num (fdiv (secS f) (secC f)) ∧ Ab (val (fdiv (secS f) (secC f)) - val f) (20 * dl) := by
  have h := sec_vals hf f0 f1
  have hd := dl_le
  have hd0 := dl_ge
  have c0 := h.c0
  have c1 := h.c1
  have len := h.len
  have cc := Rat.mul_nonneg (show 0 ≤ val (secC f) - 5 / 8 by grind) (show 0 ≤ val (secC f) + 5 / 8 by grind)
  have sa : Ab (val (secS f)) (7 / 8) := Ab.of_sq (by grind) (by unfold Ab at len; grind)
  obtain ⟨n, e⟩ := div_ab h.ns h.nc (sa.mono (by grind)) (.inl (by grind)) (by unfold Ab; constructor <;> grind)
  refine ⟨n, ?_⟩
  have D0 := h.d0
  have D1 := h.d1
  have ec := h.cd
  have es := h.sd
  generalize val (fdiv (secS f) (secC f)) = g at *
  generalize val (secS f) = S at *
  generalize val (secC f) = C at *
  generalize val (secD f) = D at *
  generalize val f = F at *
  have Da : Ab D (3 / 2) := by unfold Ab; constructor <;> grind
  have k1 := e.mul Da
  have e1 : (g * C - S) * D = g * (C * D) - S * D := by grind
  rw [e1] at k1
  -- g (1 + a) = F + b
  have k2 : Ab (g * (C * D) - F) (13 * dl) := by unfold Ab at *; constructor <;> grind
  have ga : Ab g (17 / 16) := by
    have hh : Ab (g * (C * D)) (1 + 13 * dl) := by unfold Ab at *; constructor <;> grind
    exact ab_div (g := C * D) (B := 1 + 13 * dl) (by unfold Ab at ec; grind) hh (by grind) (by grind)
  have k3 := ga.mul ec
  have e3 : g * (C * D - 1) = g * (C * D) - g := by grind
  rw [e3] at k3
  unfold Ab at *
  constructor <;> grind

/-- The density of a draw's direction beside the draw's. -/
theorem dens_back {f : Nat} (hf : Num f) (f0 : 0 ≤ val f) (f1 : val f ≤ 1) : Num (densF (fdiv (secS f) (secC f))) ∧ Num (densF f) ∧ Ab (val (densF (fdiv (secS f) (secC f))) - val (densF f)) (12 * dl) := by
  have hd := dl_le
  have hd0 := dl_ge
  obtain ⟨n, e⟩ := sec_back hf f0 f1
  obtain ⟨n1, e1⟩ := dens_ab n e (by grind) f0 f1
  obtain ⟨n2, e2⟩ := dens_ab hf (F := val f) (B := 0) (by unfold Ab; constructor <;> grind) (by grind) f0 f1
  refine ⟨n1, n2, ?_⟩
  unfold Ab at *
  constructor <;> grind
end Go.Proofs.Ytnhilikcgfhkbaa.Fl
