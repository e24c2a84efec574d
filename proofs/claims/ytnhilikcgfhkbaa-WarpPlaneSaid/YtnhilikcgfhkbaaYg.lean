/- Nearness within 2 to the -40; a number with its sign turned. -/
import Derived.Test.YtnhilikcgfhkbaaYf
namespace Go.Proofs.Ytnhilikcgfhkbaa.Fl

def q40 : Nat := 4427038433705197568
def m40 : Nat := 13650410470559973376
def o40 : Nat := 4607182418800021504
theorem num_q40 : Num q40 := ⟨false, 4503599627370496, -92, by decide +kernel⟩
theorem num_m40 : Num m40 := ⟨true, 4503599627370496, -92, by decide +kernel⟩
theorem num_o40 : Num o40 := ⟨false, 4503599627374592, -52, by decide +kernel⟩
theorem val_q40 : val q40 = 64 * dl := by decide +kernel
theorem val_m40 : val m40 = -(64 * dl) := by decide +kernel
theorem val_o40 : val o40 = 1 + 64 * dl := by decide +kernel
theorem near40 {a b : Nat} (ha : Num a) (hb : Num b) (h : Ab (val a - val b) (62 * dl)) : leB (fsub a b) q40 = true ∧ leB m40 (fsub a b) = true := by
  have hd := dl_le
  have hd0 := dl_ge
  obtain ⟨n, e⟩ := sub_ab ha hb (h.mono (by grind))
  rw [leB_val n num_q40, leB_val num_m40 n, val_q40, val_m40]
  unfold Ab at *
  exact ⟨decide_eq_true (by grind), decide_eq_true (by grind)⟩
theorem neg_val {x : Nat} (hx : Num x) : Num (fsub 0 x) ∧ val (fsub 0 x) = -val x := by
  have hx0 := hx
  have h : Ex (val 0 - val x) := by
    obtain ⟨s, m, e, hr⟩ := hx
    obtain ⟨b1, b2⟩ := number_bounds hr
    refine ⟨!s, m, e, by omega, read_low hr, b2, ?_⟩
    have hv : val x = sg s ((m : Rat) * 2 ^ e) := by unfold val; rw [hr, dval_number]
    rw [val_zero, hv, dval_number]
    cases s <;> simp only [sg, Bool.not_true, Bool.not_false, if_true, Bool.false_eq_true, if_false] <;> grind
  obtain ⟨n, v⟩ := sub_ex num_zero hx0 h
  exact ⟨n, by rw [v, val_zero]; grind⟩
theorem Unit2.negx {x y : Nat} (h : Unit2 x y) : Unit2 (fsub 0 x) y := by
  obtain ⟨n, v⟩ := neg_val h.nx
  have a := h.ax
  have l := h.len
  refine ⟨n, h.ny, ?_, h.ay, ?_⟩
  · rw [v]; unfold Ab at *; constructor <;> grind
  · rw [v]; unfold Ab at *; constructor <;> grind
theorem Unit2.negy {x y : Nat} (h : Unit2 x y) : Unit2 x (fsub 0 y) := h.swap.negx.swap
/-- The square of the length of a pair that is nearly of length 1. -/
theorem Unit2.near {x y : Nat} (h : Unit2 x y) : Num (fadd (fmul x x) (fmul y y)) ∧ Ab (val (fadd (fmul x x) (fmul y y)) - 1) (28 * dl) := by
  have hd := dl_le
  have hd0 := dl_ge
  have xx := h.ax.mul h.ax
  have yy := h.ay.mul h.ay
  have l := h.len
  obtain ⟨n1, e1⟩ := mul_ab h.nx h.nx (xx.mono (by grind))
  obtain ⟨n2, e2⟩ := mul_ab h.ny h.ny (yy.mono (by grind))
  obtain ⟨n3, e3⟩ := add_ab n1 n2 (by unfold Ab at *; constructor <;> grind)
  refine ⟨n3, ?_⟩
  unfold Ab at *
  constructor <;> grind
end Go.Proofs.Ytnhilikcgfhkbaa.Fl
