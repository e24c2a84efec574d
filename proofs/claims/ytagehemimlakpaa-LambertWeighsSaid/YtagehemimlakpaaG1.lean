/- Floats modulo the bits of a NaN: what an operation gives is told up to which NaN it is. Which words are finite numbers: by the greatest one, and by the difference from itself. Floats as rational numbers: what a written word stands for, and how far it is from what was written. How far a written word is from what was written. Sums, differences, products, quotients and order of floats, as rational numbers. Quotients and the order of floats, as rational numbers. Bounds: a number between two, and operations on floats with a bound on what rounding does. -/
import Derived.WalkKit
import Derived.WalkLawsBesides
import Derived.Deep.Draws
import Derived.KernelRfl
namespace Go.Proofs.Ytagehemimlakpaa.Fl

/-- The format. -/
abbrev F64 : Ieee.Format := FloatKind.f64.format
def qnan : Nat := 0x7ff8000000000001
def isN (x : Nat) : Bool := (F64.read x).isNaN
def nrm (x : Nat) : Nat := if isN x then qnan else x
/-- The same number, or none in both. -/
def Sm (x y : Nat) : Prop := nrm x = nrm y

def fadd (x y : Nat) : Nat := (F64.add x y).getD qnan
def fsub (x y : Nat) : Nat := (F64.sub x y).getD qnan
def fmul (x y : Nat) : Nat := (F64.mul x y).getD qnan
def fdiv (x y : Nat) : Nat := (F64.div x y).getD qnan
def fsqrt (x : Nat) : Nat := (F64.sqrt x).getD qnan
def ford (x y : Nat) : Option Ordering := F64.order x y
def fbin : BinOp → Nat → Nat → Nat
  | .add => fadd
  | .sub => fsub
  | .mul => fmul
  | .quo => fdiv
  | _ => fun _ _ => qnan

theorem isN_qnan : isN qnan = true := by decide +kernel
theorem nrm_nrm (x : Nat) : nrm (nrm x) = nrm x := by
  unfold nrm
  cases h : isN x <;> simp [h, isN_qnan]
theorem isN_nrm (x : Nat) : isN (nrm x) = isN x := by
  unfold nrm
  cases h : isN x <;> simp [h, isN_qnan]
theorem nrm_of_not {x : Nat} (h : isN x = false) : nrm x = x := by simp [nrm, h]
theorem nrm_of {x : Nat} (h : isN x = true) : nrm x = qnan := by simp [nrm, h]

theorem Sm.refl (x : Nat) : Sm x x := rfl
theorem Sm.symm {x y : Nat} (h : Sm x y) : Sm y x := Eq.symm h
theorem Sm.trans {x y z : Nat} (h : Sm x y) (k : Sm y z) : Sm x z := Eq.trans h k
theorem Sm.isN {x y : Nat} (h : Sm x y) : isN x = isN y := by rw [← isN_nrm x, ← isN_nrm y, h]
theorem Sm.eq {x y : Nat} (h : Sm x y) (hx : Fl.isN x = false) : x = y := by
  have hy : Fl.isN y = false := h.isN ▸ hx
  rw [← nrm_of_not hx, ← nrm_of_not hy]
  exact h
theorem Sm.of_nan {x y : Nat} (h : Fl.isN x = true) (k : Fl.isN y = true) : Sm x y := by unfold Sm; rw [nrm_of h, nrm_of k]

/-- A word of 64 bits. -/
def Wd (x : Nat) : Prop := x < 2 ^ 64
/-- The same number, or none in both, as a word. -/
structure Eqv (r z : Nat) : Prop where
  sm : Sm r z
  wd : Wd r
theorem Eqv.refl {x : Nat} (h : Wd x) : Eqv x x := ⟨Sm.refl x, h⟩
theorem Eqv.to {r z z' : Nat} (h : Eqv r z) (k : Sm z z') : Eqv r z' := ⟨h.sm.trans k, h.wd⟩

theorem read_nan {x : Nat} (h : isN x = true) : ∃ s f, F64.read x = .nan s f := by
  unfold isN Ieee.Datum.isNaN at h
  cases hr : F64.read x with
  | nan s f => exact ⟨s, f, rfl⟩
  | number _ _ _ => simp [hr] at h
  | infinity _ => simp [hr] at h

theorem add_nan_left {x : Nat} (h : isN x = true) (y : Nat) : F64.add x y = none := by
  obtain ⟨s, f, e⟩ := read_nan h
  simp [Ieee.Format.add, e, Ieee.Datum.sum]
theorem add_nan_right {y : Nat} (h : isN y = true) (x : Nat) : F64.add x y = none := by
  obtain ⟨s, f, e⟩ := read_nan h
  unfold Ieee.Format.add
  rw [e]
  cases F64.read x <;> rfl
theorem sub_nan_left {x : Nat} (h : isN x = true) (y : Nat) : F64.sub x y = none := by
  obtain ⟨s, f, e⟩ := read_nan h
  simp [Ieee.Format.sub, e, Ieee.Datum.sum]
theorem sub_nan_right {y : Nat} (h : isN y = true) (x : Nat) : F64.sub x y = none := by
  obtain ⟨s, f, e⟩ := read_nan h
  unfold Ieee.Format.sub
  rw [e]
  cases F64.read x <;> rfl
theorem mul_nan_left {x : Nat} (h : isN x = true) (y : Nat) : F64.mul x y = none := by
  obtain ⟨s, f, e⟩ := read_nan h
  simp [Ieee.Format.mul, e, Ieee.Datum.product]
theorem mul_nan_right {y : Nat} (h : isN y = true) (x : Nat) : F64.mul x y = none := by
  obtain ⟨s, f, e⟩ := read_nan h
  unfold Ieee.Format.mul
  rw [e]
  cases F64.read x <;> rfl
theorem div_nan_left {x : Nat} (h : isN x = true) (y : Nat) : F64.div x y = none := by
  obtain ⟨s, f, e⟩ := read_nan h
  simp [Ieee.Format.div, e, Ieee.Datum.quotient]
theorem div_nan_right {y : Nat} (h : isN y = true) (x : Nat) : F64.div x y = none := by
  obtain ⟨s, f, e⟩ := read_nan h
  unfold Ieee.Format.div
  rw [e]
  cases F64.read x <;> rfl
theorem sqrt_nan {x : Nat} (h : isN x = true) : F64.sqrt x = none := by
  obtain ⟨s, f, e⟩ := read_nan h
  simp [Ieee.Format.sqrt, e, Ieee.Datum.root]
theorem ord_nan_left {x : Nat} (h : isN x = true) (y : Nat) : ford x y = none := by
  obtain ⟨s, f, e⟩ := read_nan h
  simp [ford, Ieee.Format.order, e, Ieee.Datum.order]
theorem ord_nan_right {y : Nat} (h : isN y = true) (x : Nat) : ford x y = none := by
  obtain ⟨s, f, e⟩ := read_nan h
  unfold ford Ieee.Format.order
  rw [e]
  cases F64.read x <;> rfl

/-- A function of words that does not tell NaNs apart. -/
theorem congr2 {α : Type} {f : Nat → Nat → α} {d : α} (hl : ∀ x y, isN x = true → f x y = d) (hr : ∀ x y, isN y = true → f x y = d)
    {x y x' y' : Nat} (hx : Sm x x') (hy : Sm y y') : f x y = f x' y' := by
  cases h : isN x
  · cases k : isN y
    · rw [hx.eq h, hy.eq k]
    · rw [hr _ _ k, hr _ _ (hy.isN ▸ k)]
  · rw [hl _ _ h, hl _ _ (hx.isN ▸ h)]

theorem fadd_congr {x y x' y' : Nat} (hx : Sm x x') (hy : Sm y y') : fadd x y = fadd x' y' :=
  congr2 (d := qnan) (fun _ _ h => by simp [fadd, add_nan_left h]) (fun _ _ h => by simp [fadd, add_nan_right h]) hx hy
theorem fsub_congr {x y x' y' : Nat} (hx : Sm x x') (hy : Sm y y') : fsub x y = fsub x' y' :=
  congr2 (d := qnan) (fun _ _ h => by simp [fsub, sub_nan_left h]) (fun _ _ h => by simp [fsub, sub_nan_right h]) hx hy
theorem fmul_congr {x y x' y' : Nat} (hx : Sm x x') (hy : Sm y y') : fmul x y = fmul x' y' :=
  congr2 (d := qnan) (fun _ _ h => by simp [fmul, mul_nan_left h]) (fun _ _ h => by simp [fmul, mul_nan_right h]) hx hy
theorem fdiv_congr {x y x' y' : Nat} (hx : Sm x x') (hy : Sm y y') : fdiv x y = fdiv x' y' :=
  congr2 (d := qnan) (fun _ _ h => by simp [fdiv, div_nan_left h]) (fun _ _ h => by simp [fdiv, div_nan_right h]) hx hy
theorem fsqrt_congr {x x' : Nat} (hx : Sm x x') : fsqrt x = fsqrt x' := by
  cases h : isN x
  · rw [hx.eq h]
  · simp [fsqrt, sqrt_nan h, sqrt_nan (hx.isN ▸ h : isN x' = true)]
theorem ford_congr {x y x' y' : Nat} (hx : Sm x x') (hy : Sm y y') : ford x y = ford x' y' :=
  congr2 (d := none) (fun _ _ h => ord_nan_left h _) (fun _ _ h => ord_nan_right h _) hx hy

theorem ford_refl {x : Nat} (h : isN x = false) : ford x x = some .eq := by
  unfold isN Ieee.Datum.isNaN at h
  unfold ford Ieee.Format.order
  cases hr : F64.read x with
  | nan s f => simp [hr] at h
  | number s m e => simp [Ieee.Datum.order]
  | infinity s => simp [Ieee.Datum.order]
theorem ford_self (x : Nat) : (ford x x == some .eq) = !isN x := by
  cases h : isN x
  · simp [ford_refl h]
  · simp [ord_nan_left h]

/-- The reference's 'Same'. -/
def sameB (x y : Nat) : Bool := ford x y == some .eq || (ford x x != some .eq && ford y y != some .eq)
theorem sameB_of {x y : Nat} (h : Sm x y) : sameB x y = true := by
  unfold sameB
  cases k : isN x
  · rw [← h.eq k, ford_refl k]; rfl
  · rw [ord_nan_left k, ord_nan_left (h.isN ▸ k : isN y = true), ord_nan_left k]; rfl
theorem sameB_congr {x y x' y' : Nat} (hx : Sm x x') (hy : Sm y y') : sameB x y = sameB x' y' := by
  unfold sameB
  rw [ford_congr hx hy, ford_congr hx hx, ford_congr hy hy]

/-- A NaN that the tape gives is one. -/
theorem isN_cut (x y t : Nat) : isN (Question.cut (.nanBits .f64 x y) t) = true := by
  have e : Question.cut (.nanBits .f64 x y) t = (t % 2) * 2 ^ 63 + 0x7ff0000000000000 + 1 + (t / 2) % (2 ^ 52 - 1) := rfl
  rw [e]
  have hw : F64.signWeight = 9223372036854775808 := by decide +kernel
  have hb : F64.binade = 4503599627370496 := by decide +kernel
  have hi : F64.infRung = 9218868437227405312 := by decide +kernel
  have h1 : t % 2 < 2 := Nat.mod_lt _ (by decide)
  have h2 : (t / 2) % (2 ^ 52 - 1) < 2 ^ 52 - 1 := Nat.mod_lt _ (by decide)
  generalize t % 2 = a at *
  generalize (t / 2) % (2 ^ 52 - 1) = b at *
  unfold isN Ieee.Format.read
  simp only [hw, hb, hi]
  have hr : (a * 2 ^ 63 + 0x7ff0000000000000 + 1 + b) % 9223372036854775808 = 9218868437227405312 + 1 + b := by omega
  rw [hr, if_neg (by omega), if_neg (by omega), if_neg (by omega)]
  rfl

theorem wd_cut (x y t : Nat) : Wd (Question.cut (.nanBits .f64 x y) t) := by
  have e : Question.cut (.nanBits .f64 x y) t = (t % 2) * 2 ^ 63 + 0x7ff0000000000000 + 1 + (t / 2) % (2 ^ 52 - 1) := rfl
  rw [e]
  unfold Wd
  have h1 : t % 2 < 2 := Nat.mod_lt _ (by decide)
  have h2 : (t / 2) % (2 ^ 52 - 1) < 2 ^ 52 - 1 := Nat.mod_lt _ (by decide)
  omega
theorem wd_of {k : Nat} (h : (Lit.float .f64 k).wf = true) : Wd k := by simpa [Wd, Lit.wf] using h

section
variable {P : Program}
theorem run_fbin (op : BinOp) (hop : op = .add ∨ op = .sub ∨ op = .mul ∨ op = .quo) (t : TypeId) (x y : Nat) (w : World) :
    ∃ r n, (binOp op t (.float .f64 x) (.float .f64 y)).run P w = .ok (.float .f64 r) (w.drewN n) ∧ Eqv r (fbin op x y) := by
  cases h : floatBits op .f64 x y with
  | some r =>
    refine ⟨r, 0, run_float_arith w op t .f64 x y r h, ?_, wd_of (floatBits_wf h)⟩
    rcases hop with rfl | rfl | rfl | rfl
    · simp only [fbin, fadd]; rw [show F64.add x y = some r from h]; rfl
    · simp only [fbin, fsub]; rw [show F64.sub x y = some r from h]; rfl
    · simp only [fbin, fmul]; rw [show F64.mul x y = some r from h]; rfl
    · simp only [fbin, fdiv]; rw [show F64.div x y = some r from h]; rfl
  | none =>
    refine ⟨Question.cut (.nanBits .f64 x y) (w.tape w.drawn (.nanBits .f64 x y)), 1, ?_, ?_⟩
    · rcases hop with rfl | rfl | rfl | rfl <;> simp only [floatBits] at h <;> simp [binOp, Op.floatArith, h, Question.forced] <;> rfl
    · refine ⟨Sm.of_nan (isN_cut _ _ _) ?_, wd_cut _ _ _⟩
      rcases hop with rfl | rfl | rfl | rfl
      · simp only [fbin, fadd]; rw [show F64.add x y = none from h]; exact isN_qnan
      · simp only [fbin, fsub]; rw [show F64.sub x y = none from h]; exact isN_qnan
      · simp only [fbin, fmul]; rw [show F64.mul x y = none from h]; exact isN_qnan
      · simp only [fbin, fdiv]; rw [show F64.div x y = none from h]; exact isN_qnan

theorem sqrt_elim (x : Nat) : Extern.MathSqrt.sqrt #[.float .f64 x] = (F64.sqrt x).elim (choose (.nanBits .f64 x x) >>= fun r => pure (.float .f64 r)) (fun r => pure (.float .f64 r)) := by
  kernel_rfl
theorem sqrt_some {x r : Nat} (h : F64.sqrt x = some r) : Extern.MathSqrt.sqrt #[.float .f64 x] = pure (.float .f64 r) := by
  rw [sqrt_elim, h]; rfl
theorem sqrt_none {x : Nat} (h : F64.sqrt x = none) : Extern.MathSqrt.sqrt #[.float .f64 x] = choose (.nanBits .f64 x x) >>= fun r => pure (.float .f64 r) := by
  rw [sqrt_elim, h]; rfl
theorem run_sqrt (x : Nat) (w : World) :
    ∃ r n, (Extern.MathSqrt.sqrt #[.float .f64 x]).run P w = .ok (.float .f64 r) (w.drewN n) ∧ Eqv r (fsqrt x) := by
  cases h : F64.sqrt x with
  | some r => exact ⟨r, 0, by rw [sqrt_some h]; simp; rfl, by simp only [fsqrt]; rw [h]; rfl, F64.sqrt_lt h⟩
  | none =>
    refine ⟨Question.cut (.nanBits .f64 x x) (w.tape w.drawn (.nanBits .f64 x x)), 1, ?_, Sm.of_nan (isN_cut _ _ _) ?_, wd_cut _ _ _⟩
    · rw [sqrt_none h]; simp [Question.forced]; rfl
    · simp only [fsqrt]; rw [h]; exact isN_qnan
end
end Go.Proofs.Ytagehemimlakpaa.Fl

namespace Go.Proofs.Ytagehemimlakpaa.Fl

theorem sw : F64.signWeight = 9223372036854775808 := by decide +kernel
theorem bn : F64.binade = 4503599627370496 := by decide +kernel
theorem ir : F64.infRung = 9218868437227405312 := by decide +kernel
theorem lp : F64.leastPlace = -1074 := by decide +kernel

/-- The word without its sign. -/
def fabs (x : Nat) : Nat := x % 9223372036854775808
def fmax : Nat := 9218868437227405311
def infB (x : Nat) : Bool := ford (fabs x) fmax == some .gt
/-- A finite number. -/
def numB (x : Nat) : Bool := !isN x && !infB x

theorem read_max : F64.read fmax = .number false 9007199254740991 971 := by decide +kernel
theorem read_zero : F64.read 0 = .number false 0 (-1074) := by decide +kernel

/-- What a word without its sign stands for. -/
theorem read_abs (x : Nat) : F64.read (fabs x) = match F64.read x with
    | .number _ m e => .number false m e
    | .infinity _ => .infinity false
    | .nan _ f => .nan false f := by
  unfold Ieee.Format.read fabs
  simp only [sw, bn, ir, lp]
  have h1 : x % 9223372036854775808 % 9223372036854775808 = x % 9223372036854775808 := Nat.mod_mod _ _
  have h2 : (x % 9223372036854775808 / 9223372036854775808 % 2 == 1) = false := by
    rw [Nat.div_eq_of_lt (Nat.mod_lt _ (by decide))]; rfl
  rw [h1, h2]
  by_cases a : x % 9223372036854775808 < 4503599627370496
  · simp only [a, if_true]
  · by_cases b : x % 9223372036854775808 < 9218868437227405312
    · simp only [a, b, if_true, if_false]
    · by_cases c : x % 9223372036854775808 = 9218868437227405312
      · simp only [c]; rfl
      · simp only [a, b, c, if_false]

theorem number_bounds {x : Nat} {s : Bool} {m : Nat} {e : Int} (h : F64.read x = .number s m e) : m ≤ 9007199254740991 ∧ e ≤ 971 := by
  unfold Ieee.Format.read at h
  simp only [sw, bn, ir, lp] at h
  have h0 : x % 9223372036854775808 < 9223372036854775808 := Nat.mod_lt _ (by decide)
  generalize x % 9223372036854775808 = r at *
  split at h
  · injection h with _ h1 h2; subst h1; subst h2; omega
  · split at h
    · injection h with _ h1 h2
      have h3 : r % 4503599627370496 < 4503599627370496 := Nat.mod_lt _ (by decide)
      have h4 : r / 4503599627370496 < 2047 := by omega
      omega
    · split at h
      · cases h
      · cases h

theorem signed_le {m M : Nat} {e : Int} (hm : m ≤ M) (he : e ≤ 971) :
    ¬ (Ieee.signed false M (971 - min e 971).toNat < Ieee.signed false m (e - min e 971).toNat) := by
  have hmin : min e 971 = e := by omega
  rw [hmin]
  simp only [Ieee.signed, Int.sub_self, Nat.shiftLeft_eq]
  simp only [Bool.false_eq_true, if_false, Int.toNat_zero, Nat.pow_zero, Nat.mul_one]
  have h1 : m ≤ M * 2 ^ (971 - e).toNat := Nat.le_trans hm (Nat.le_mul_of_pos_right _ (Nat.two_pow_pos _))
  omega

theorem not_inf {x : Nat} {s : Bool} {m : Nat} {e : Int} (h : F64.read x = .number s m e) : infB x = false := by
  obtain ⟨hm, he⟩ := number_bounds h
  unfold infB ford Ieee.Format.order
  rw [read_abs, h, read_max]
  simp only [Ieee.Datum.order]
  have := signed_le hm he
  generalize Ieee.signed false m (e - min e 971).toNat = A at *
  generalize Ieee.signed false 9007199254740991 (971 - min e 971).toNat = B at *
  have : compare A B ≠ .gt := by
    intro hc
    rw [Int.compare_eq_gt] at hc
    omega
  simp [this]

theorem is_inf {x : Nat} {s : Bool} (h : F64.read x = .infinity s) : infB x = true := by
  unfold infB ford Ieee.Format.order
  rw [read_abs, h, read_max]
  rfl

theorem sub_self_num {x : Nat} {s : Bool} {m : Nat} {e : Int} (h : F64.read x = .number s m e) : fsub x x = 0 := by
  unfold fsub Ieee.Format.sub
  rw [h]
  have hz : Ieee.signed s m (e - min e e).toNat + Ieee.signed (!s) m (e - min e e).toNat = 0 := by
    cases s <;> simp [Ieee.signed] <;> omega
  simp only [Ieee.Datum.opposite, Ieee.Datum.sum, hz]
  cases s <;> simp [Ieee.Format.write, Ieee.Format.nearest, Ieee.Format.word]

/-- A finite number is one that differs from itself by 0. -/
theorem num_sub (x : Nat) : (ford (fsub x x) 0 == some .eq) = numB x := by
  unfold numB
  cases h : F64.read x with
  | nan s f =>
    have hn : isN x = true := by simp [isN, h, Ieee.Datum.isNaN]
    rw [hn]
    have e : fsub x x = qnan := by simp [fsub, sub_nan_left hn]
    rw [e, ord_nan_left isN_qnan]; rfl
  | infinity s =>
    rw [is_inf h]
    have e : fsub x x = qnan := by
      unfold fsub Ieee.Format.sub
      rw [h]
      cases s <;> rfl
    rw [e, ord_nan_left isN_qnan]
    cases isN x <;> rfl
  | number s m e =>
    have hn : isN x = false := by simp [isN, h, Ieee.Datum.isNaN]
    rw [hn, not_inf h, sub_self_num h]
    decide +kernel

theorem numB_congr {x y : Nat} (h : Sm x y) : numB x = numB y := by
  rw [← num_sub, ← num_sub, fsub_congr h h]

/-- Without the sign bit. -/
theorem andNot_sign (x : Nat) : (bits .andNot .u64 (x : Int) 9223372036854775808).toNat = fabs x := by
  unfold bits fabs
  have e : (BitVec.ofInt 64 (x : Int) &&& ~~~ BitVec.ofInt 64 9223372036854775808).toNat = x % 9223372036854775808 := by
    refine Nat.eq_of_testBit_eq fun i => ?_
    have h1 : (BitVec.ofInt 64 (x : Int)) = BitVec.ofNat 64 x := by simp
    have h2 : (BitVec.ofInt 64 9223372036854775808) = BitVec.ofNat 64 (2 ^ 63) := by decide
    rw [h1, h2, show (9223372036854775808 : Nat) = 2 ^ 63 from rfl, Nat.testBit_mod_two_pow, BitVec.testBit_toNat, BitVec.getLsbD_and, BitVec.getLsbD_not]
    simp only [BitVec.getLsbD_ofNat]
    by_cases hi : i < 64
    · by_cases hj : i < 63
      · have : Nat.testBit (2 ^ 63) i = false := by rw [Nat.testBit_two_pow]; simp; omega
        simp [hi, hj, this]
      · obtain rfl : i = 63 := by omega
        have : Nat.testBit (2 ^ 63) 63 = true := by rw [Nat.testBit_two_pow]; simp
        simp [this]
    · have : ¬ i < 63 := by omega
      simp [hi, this]
  have hlt : x % 9223372036854775808 < 9223372036854775808 := Nat.mod_lt _ (by decide)
  show (IntKind.u64.wrap ((BitVec.ofInt 64 (x : Int) &&& ~~~ BitVec.ofInt 64 9223372036854775808).toNat : Int)).toNat = _
  rw [e]
  have : IntKind.u64.wrap ((x % 9223372036854775808 : Nat) : Int) = ((x % 9223372036854775808 : Nat) : Int) := by
    unfold IntKind.wrap
    simp only [IntKind.signed, IntKind.bits, Bool.false_and, Bool.false_eq_true, if_false]
    omega
  rw [this]
  rfl
theorem wd_abs (x : Nat) : Wd (fabs x) := by
  have : x % 9223372036854775808 < 9223372036854775808 := Nat.mod_lt _ (by decide)
  unfold Wd fabs
  omega
end Go.Proofs.Ytagehemimlakpaa.Fl

namespace Go.Proofs.Ytagehemimlakpaa.Fl

/-! Powers of two -/
theorem p2_pos (e : Int) : (0 : Rat) < 2 ^ e := Rat.zpow_pos (by decide)
theorem p2_add (a b : Int) : (2 : Rat) ^ (a + b) = 2 ^ a * 2 ^ b := Rat.zpow_add (by decide) a b
theorem p2_nat (n : Nat) : (2 : Rat) ^ (n : Int) = ((2 ^ n : Nat) : Rat) := by rw [Rat.zpow_natCast, Rat.natCast_pow]; rfl
theorem p2_one (n : Nat) : (1 : Rat) ≤ 2 ^ (n : Int) := by
  rw [p2_nat]
  exact (Rat.natCast_le_natCast (a := 1)).2 Nat.one_le_two_pow
theorem p2_le {a b : Int} (h : a ≤ b) : (2 : Rat) ^ a ≤ 2 ^ b := by
  obtain ⟨n, rfl⟩ : ∃ n : Nat, b = a + n := ⟨(b - a).toNat, by omega⟩
  rw [p2_add]
  have := Rat.mul_le_mul_of_nonneg_left (p2_one n) (Rat.le_of_lt (p2_pos a))
  rwa [Rat.mul_one] at this

/-! What a word stands for -/
def sg (s : Bool) (r : Rat) : Rat := if s then -r else r
def dval : Ieee.Datum → Rat
  | .number s m e => sg s ((m : Rat) * 2 ^ e)
  | _ => 0
theorem dval_number (s : Bool) (m : Nat) (e : Int) : dval (.number s m e) = sg s ((m : Rat) * 2 ^ e) := rfl
def val (x : Nat) : Rat := dval (F64.read x)
def Num (x : Nat) : Prop := ∃ s m e, F64.read x = .number s m e

/-! Rounding to a whole number -/
theorem cut_err (neg : Bool) (n drop : Nat) : 2 * (Ieee.Toward.even.cut neg n drop * 2 ^ drop) ≤ 2 * n + 2 ^ drop ∧ 2 * n ≤ 2 * (Ieee.Toward.even.cut neg n drop * 2 ^ drop) + 2 ^ drop := by
  unfold Ieee.Toward.cut
  simp only [Nat.one_shiftLeft]
  rcases Nat.lt_or_ge (n.log2 + 2) drop with hd | hd
  · rw [Nat.min_eq_right (Nat.le_of_lt hd)]
    have h1 : n < 2 ^ (n.log2 + 1) := Nat.lt_log2_self
    have h2 : 2 ^ (n.log2 + 2) = 2 * 2 ^ (n.log2 + 1) := by rw [Nat.pow_succ 2 (n.log2 + 1), Nat.mul_comm]
    have h3 : 2 ^ (n.log2 + 2) ≤ 2 ^ drop := Nat.pow_le_pow_right (by decide) (Nat.le_of_lt hd)
    have h4 : n / 2 ^ (n.log2 + 2) = 0 := Nat.div_eq_of_lt (by omega)
    have h5 : n % 2 ^ (n.log2 + 2) = n := Nat.mod_eq_of_lt (by omega)
    rw [h4, h5]
    have h6 : decide (2 ^ (n.log2 + 2) < 2 * n) = false := by simp; omega
    have h7 : (2 ^ (n.log2 + 2) == 2 * n) = false := by simp; omega
    rw [h6, h7]
    simp
    omega
  · rw [Nat.min_eq_left hd]
    have h1 := Nat.div_add_mod n (2 ^ drop)
    have h2 := Nat.mod_lt n (Nat.two_pow_pos drop)
    generalize n / 2 ^ drop = low at h1 ⊢
    generalize n % 2 ^ drop = rest at h1 h2 ⊢
    generalize 2 ^ drop = gap at h1 h2 ⊢
    rw [Nat.add_mul, Nat.mul_comm low gap]
    generalize gap * low = g at h1 ⊢
    by_cases h3 : gap < 2 * rest
    · simp [h3]; omega
    · by_cases h4 : gap = 2 * rest
      · by_cases h5 : low % 2 = 1
        · simp [h4, h5]; omega
        · have h7 : (low % 2 == 1) = false := by simpa using h5
          simp [h4, h7]; omega
      · have h6 : (gap == 2 * rest) = false := by simpa using h4
        simp [h3, h6]; omega

/-! Reading what was written -/
theorem read_word (neg : Bool) (rung : Nat) (h : rung < 9218868437227405312) :
    F64.read (F64.word neg rung) = if rung < 4503599627370496 then .number neg rung (-1074) else .number neg (4503599627370496 + rung % 4503599627370496) (-1074 + ((rung / 4503599627370496 - 1 : Nat) : Int)) := by
  have h1 : (F64.word neg rung / 9223372036854775808 % 2 == 1) = neg := by
    unfold Ieee.Format.word
    rw [sw]
    cases neg
    · simp; omega
    · simp; omega
  have h2 : F64.word neg rung % 9223372036854775808 = rung := by
    unfold Ieee.Format.word
    rw [sw]
    cases neg
    · simp; omega
    · simp; omega
  unfold Ieee.Format.read
  rw [sw, bn, ir, lp, h1, h2]
  simp only [h, if_true]

theorem read_inf (neg : Bool) : F64.read (F64.word neg 9218868437227405312) = .infinity neg := by
  cases neg <;> decide +kernel

/-- The rung of a kept number at a place. -/
theorem rung_val (neg : Bool) (E k : Nat) (hk : k ≤ 9007199254740992) (hE : E = 0 ∨ 4503599627370496 ≤ k) (h : E * 4503599627370496 + k < 9218868437227405312) :
    ∃ m e, F64.read (F64.word neg (E * 4503599627370496 + k)) = .number neg m e ∧ (m : Rat) * 2 ^ e = (k : Rat) * 2 ^ ((E : Int) - 1074) := by
  rw [read_word neg _ h]
  by_cases h1 : E * 4503599627370496 + k < 4503599627370496
  · rw [if_pos h1]
    have : E = 0 := by omega
    subst this
    refine ⟨_, _, rfl, ?_⟩
    rw [show 0 * 4503599627370496 + k = k by omega, show (((0 : Nat) : Int) - 1074) = -1074 by omega]
  · rw [if_neg h1]
    refine ⟨_, _, rfl, ?_⟩
    by_cases h2 : k < 9007199254740992
    · by_cases h3 : k < 4503599627370496
      · omega
      · have e1 : (E * 4503599627370496 + k) % 4503599627370496 = k - 4503599627370496 := by omega
        have e2 : (E * 4503599627370496 + k) / 4503599627370496 - 1 = E := by omega
        rw [e1, e2, show 4503599627370496 + (k - 4503599627370496) = k by omega]
        congr 2
    · have hk2 : k = 9007199254740992 := by omega
      subst hk2
      have e1 : (E * 4503599627370496 + 9007199254740992) % 4503599627370496 = 0 := by omega
      have e2 : (E * 4503599627370496 + 9007199254740992) / 4503599627370496 - 1 = E + 1 := by omega
      rw [e1, e2, show (-1074 : Int) + ((E + 1 : Nat) : Int) = ((E : Int) - 1074) + 1 by omega, p2_add]
      have : (2 : Rat) ^ (1 : Int) = 2 := by decide +kernel
      rw [this]
      generalize (2 : Rat) ^ ((E : Int) - 1074) = p
      grind
end Go.Proofs.Ytagehemimlakpaa.Fl

namespace Go.Proofs.Ytagehemimlakpaa.Fl

theorem rat_div {D a b : Rat} (hD : 0 < D) (h : D * a ≤ D * b) : a ≤ b := Rat.le_of_mul_le_mul_left h hD

abbrev lastP (mag : Nat) (place : Int) : Int := max (place + mag.log2 - 52) (-1074)
abbrev kept (neg : Bool) (mag : Nat) (place : Int) : Nat := Ieee.Toward.even.cut neg (mag <<< (place - lastP mag place).toNat) (lastP mag place - place).toNat

theorem nearest_eq (neg : Bool) (mag : Nat) (place : Int) (h : mag ≠ 0) :
    F64.nearest neg mag place = F64.word neg (min ((lastP mag place + 1074).toNat * 4503599627370496 + kept neg mag place) 9218868437227405312) := by
  unfold Ieee.Format.nearest
  rw [if_neg h, lp, bn, ir]
  rfl

/-- The kept digits, and how far they are off. -/
theorem kept_bounds (neg : Bool) (mag : Nat) (place : Int) (h : mag ≠ 0) :
    kept neg mag place ≤ 9007199254740992 ∧ ((lastP mag place + 1074).toNat = 0 ∨ 4503599627370496 ≤ kept neg mag place) := by
  unfold kept
  obtain ⟨c1, c2⟩ := cut_err neg (mag <<< (place - lastP mag place).toNat) (lastP mag place - place).toNat
  generalize Ieee.Toward.even.cut neg _ _ = k at c1 c2 ⊢
  rw [Nat.shiftLeft_eq] at c1 c2
  have l1 : 2 ^ mag.log2 ≤ mag := Nat.log2_self_le h
  have l2 : mag < 2 ^ (mag.log2 + 1) := Nat.lt_log2_self
  have hl : lastP mag place = max (place + mag.log2 - 52) (-1074) := rfl
  generalize lastP mag place = last at c1 c2 hl ⊢
  generalize hu : (place - last).toNat = up at c1 c2
  generalize hd : (last - place).toNat = drop at c1 c2
  have hp : 0 < 2 ^ drop := Nat.two_pow_pos drop
  constructor
  · have b1 : mag * 2 ^ up < 9007199254740992 * 2 ^ drop := by
      have e1 : mag * 2 ^ up < 2 ^ (mag.log2 + 1) * 2 ^ up := Nat.mul_lt_mul_of_pos_right l2 (Nat.two_pow_pos up)
      have e2 : 2 ^ (mag.log2 + 1) * 2 ^ up ≤ 2 ^ 53 * 2 ^ drop := by
        rw [← Nat.pow_add, ← Nat.pow_add]
        exact Nat.pow_le_pow_right (by decide) (by omega)
      exact Nat.lt_of_lt_of_le e1 e2
    have b2 : k * 2 ^ drop < 9007199254740993 * 2 ^ drop := by omega
    have := Nat.lt_of_mul_lt_mul_right b2
    omega
  · by_cases hz : (last + 1074).toNat = 0
    · exact Or.inl hz
    · right
      have b1 : 4503599627370496 * 2 ^ drop ≤ mag * 2 ^ up := by
        have e1 : 2 ^ mag.log2 * 2 ^ up ≤ mag * 2 ^ up := Nat.mul_le_mul_right _ l1
        have e2 : 2 ^ 52 * 2 ^ drop ≤ 2 ^ mag.log2 * 2 ^ up := by
          rw [← Nat.pow_add, ← Nat.pow_add]
          exact Nat.pow_le_pow_right (by decide) (by omega)
        exact Nat.le_trans e2 e1
      have b2 : 4503599627370495 * 2 ^ drop < k * 2 ^ drop := by omega
      have := Nat.lt_of_mul_lt_mul_right b2
      omega

/-- What is kept, as a number. -/
theorem kept_val (neg : Bool) (mag : Nat) (place : Int) :
    2 * ((kept neg mag place : Rat) * 2 ^ lastP mag place) ≤ 2 * ((mag : Rat) * 2 ^ place) + 2 ^ lastP mag place ∧
    2 * ((mag : Rat) * 2 ^ place) ≤ 2 * ((kept neg mag place : Rat) * 2 ^ lastP mag place) + 2 ^ lastP mag place := by
  unfold kept
  obtain ⟨c1, c2⟩ := cut_err neg (mag <<< (place - lastP mag place).toNat) (lastP mag place - place).toNat
  generalize Ieee.Toward.even.cut neg _ _ = k at c1 c2 ⊢
  rw [Nat.shiftLeft_eq] at c1 c2
  generalize lastP mag place = last at c1 c2 ⊢
  generalize hu : (place - last).toNat = up at c1 c2
  generalize hd : (last - place).toNat = drop at c1 c2
  have hD := p2_pos (drop : Int)
  have hL := p2_pos last
  have key : (2 : Rat) ^ (up : Int) * 2 ^ last = 2 ^ place * 2 ^ (drop : Int) := by
    rw [← p2_add, ← p2_add]
    congr 1
    omega
  have c1' : (2 : Rat) * (k * 2 ^ (drop : Int)) ≤ 2 * (mag * 2 ^ (up : Int)) + 2 ^ (drop : Int) := by
    rw [p2_nat, p2_nat]
    exact_mod_cast c1
  have c2' : (2 : Rat) * (mag * 2 ^ (up : Int)) ≤ 2 * (k * 2 ^ (drop : Int)) + 2 ^ (drop : Int) := by
    rw [p2_nat, p2_nat]
    exact_mod_cast c2
  have d1 := Rat.mul_le_mul_of_nonneg_right c1' (Rat.le_of_lt hL)
  have d2 := Rat.mul_le_mul_of_nonneg_right c2' (Rat.le_of_lt hL)
  generalize (2 : Rat) ^ (drop : Int) = D at *
  generalize (2 : Rat) ^ last = L at *
  generalize (2 : Rat) ^ place = P at *
  generalize (2 : Rat) ^ (up : Int) = U at *
  constructor
  · refine rat_div hD ?_
    have e1 : D * (2 * ((k : Rat) * L)) = 2 * (k * D) * L := by grind
    have e2 : D * (2 * ((mag : Rat) * P) + L) = (2 * (mag * U) + D) * L := by grind
    rw [e1, e2]; exact d1
  · refine rat_div hD ?_
    have e1 : D * (2 * ((mag : Rat) * P)) = 2 * (mag * U) * L := by grind
    have e2 : D * (2 * ((k : Rat) * L) + L) = (2 * (k * D) + D) * L := by grind
    rw [e1, e2]; exact d2

theorem mag_nonneg (mag : Nat) (place : Int) : (0 : Rat) ≤ mag * 2 ^ place :=
  Rat.mul_nonneg (by exact_mod_cast Nat.zero_le mag) (Rat.le_of_lt (p2_pos place))

/-- The last place, by the number itself. -/
theorem last_le (mag : Nat) (place : Int) (h : mag ≠ 0) : (2 : Rat) ^ lastP mag place ≤ mag * 2 ^ place * 2 ^ (-52 : Int) + 2 ^ (-1074 : Int) := by
  have hn := mag_nonneg mag place
  have h52 := p2_pos (-52)
  have h74 := p2_pos (-1074)
  have hm := Rat.mul_nonneg hn (Rat.le_of_lt h52)
  rcases Int.le_total (place + mag.log2 - 52) (-1074) with hl | hl
  · rw [show lastP mag place = -1074 from Int.max_eq_right hl]
    grind
  · rw [show lastP mag place = place + mag.log2 - 52 from Int.max_eq_left hl, Int.sub_eq_add_neg, p2_add, p2_add]
    have l1 : ((2 ^ mag.log2 : Nat) : Rat) ≤ mag := by exact_mod_cast Nat.log2_self_le h
    rw [← p2_nat] at l1
    have l2 := Rat.mul_le_mul_of_nonneg_left l1 (Rat.le_of_lt (p2_pos place))
    have l3 := Rat.mul_le_mul_of_nonneg_right l2 (Rat.le_of_lt h52)
    grind

/-- What is written is a number where it is not too great. -/
theorem nearest_num (neg : Bool) (mag : Nat) (place : Int) (h : (mag : Rat) * 2 ^ place ≤ 64) : Num (F64.nearest neg mag place) := by
  by_cases h0 : mag = 0
  · subst h0
    have : F64.nearest neg 0 place = F64.word neg 0 := by unfold Ieee.Format.nearest; rw [if_pos rfl]
    rw [this]
    have := read_word neg 0 (by decide)
    exact ⟨_, _, _, this⟩
  · rw [nearest_eq neg mag place h0]
    obtain ⟨b1, b2⟩ := kept_bounds neg mag place h0
    have hl : place + mag.log2 ≤ 6 := by
      by_cases hg : place + mag.log2 ≤ 6
      · exact hg
      · exfalso
        have l1 : ((2 ^ mag.log2 : Nat) : Rat) ≤ mag := by exact_mod_cast Nat.log2_self_le h0
        rw [← p2_nat] at l1
        have l2 := Rat.mul_le_mul_of_nonneg_left l1 (Rat.le_of_lt (p2_pos place))
        rw [← p2_add] at l2
        have l3 := p2_le (show (7 : Int) ≤ place + mag.log2 by omega)
        have l4 : (2 : Rat) ^ (7 : Int) = 128 := by decide +kernel
        grind
    have hE : (lastP mag place + 1074).toNat ≤ 1028 := by
      have : lastP mag place = max (place + mag.log2 - 52) (-1074) := rfl
      omega
    generalize (lastP mag place + 1074).toNat = E at *
    generalize kept neg mag place = k at *
    rw [Nat.min_eq_left (by omega)]
    obtain ⟨m, e, he, _⟩ := rung_val neg E k b1 b2 (by omega)
    exact ⟨_, _, _, he⟩

/-- WHAT IS WRITTEN IS AS NEAR AS SO MANY DIGITS LET IT BE. -/
theorem nearest_val (neg : Bool) (mag : Nat) (place : Int) (h : Num (F64.nearest neg mag place)) :
    ∃ V, val (F64.nearest neg mag place) = sg neg V ∧ 0 ≤ V ∧ V ≤ mag * 2 ^ place + mag * 2 ^ place * 2 ^ (-53 : Int) + 2 ^ (-1075 : Int) ∧ mag * 2 ^ place ≤ V + mag * 2 ^ place * 2 ^ (-53 : Int) + 2 ^ (-1075 : Int) := by
  have hn := mag_nonneg mag place
  have h53 := p2_pos (-53)
  have h75 := p2_pos (-1075)
  have hm := Rat.mul_nonneg hn (Rat.le_of_lt h53)
  by_cases h0 : mag = 0
  · subst h0
    have : F64.nearest neg 0 place = F64.word neg 0 := by unfold Ieee.Format.nearest; rw [if_pos rfl]
    rw [this]
    have := read_word neg 0 (by decide)
    rw [if_pos (by decide)] at this
    refine ⟨0, ?_, ?_, ?_, ?_⟩
    · unfold val
      rw [this]
      rw [dval_number]
      congr 1
      exact Rat.zero_mul _
    · exact Rat.le_refl
    · grind
    · have z : ((0 : Nat) : Rat) * 2 ^ place = 0 := Rat.zero_mul _
      grind
  · have hlast := last_le mag place h0
    obtain ⟨k1, k2⟩ := kept_val neg mag place
    obtain ⟨b1, b2⟩ := kept_bounds neg mag place h0
    have hE : ((lastP mag place + 1074).toNat : Int) - 1074 = lastP mag place := by
      have : lastP mag place = max (place + mag.log2 - 52) (-1074) := rfl
      omega
    rw [nearest_eq neg mag place h0] at h ⊢
    rcases Nat.lt_or_ge ((lastP mag place + 1074).toNat * 4503599627370496 + kept neg mag place) 9218868437227405312 with ho | ho
    · rw [Nat.min_eq_left (Nat.le_of_lt ho)]
      obtain ⟨m, e, he, hv⟩ := rung_val neg _ _ b1 b2 ho
      rw [hE] at hv
      refine ⟨kept neg mag place * 2 ^ lastP mag place, ?_, ?_, ?_, ?_⟩
      · unfold val
        rw [he]
        rw [dval_number, hv]
      · exact mag_nonneg _ _
      · have e1 : (2 : Rat) ^ (-52 : Int) = 2 * 2 ^ (-53 : Int) := by decide +kernel
        have e2 : (2 : Rat) ^ (-1074 : Int) = 2 * 2 ^ (-1075 : Int) := by rw [show (-1074 : Int) = 1 + (-1075) by omega, p2_add]; congr 1
        rw [e1, e2] at hlast
        generalize (2 : Rat) ^ (-1075 : Int) = T at *
        generalize (2 : Rat) ^ (-53 : Int) = F at *
        grind
      · have e1 : (2 : Rat) ^ (-52 : Int) = 2 * 2 ^ (-53 : Int) := by decide +kernel
        have e2 : (2 : Rat) ^ (-1074 : Int) = 2 * 2 ^ (-1075 : Int) := by rw [show (-1074 : Int) = 1 + (-1075) by omega, p2_add]; congr 1
        rw [e1, e2] at hlast
        generalize (2 : Rat) ^ (-1075 : Int) = T at *
        generalize (2 : Rat) ^ (-53 : Int) = F at *
        grind
    · rw [Nat.min_eq_right ho] at h
      obtain ⟨s, m, e, hr⟩ := h
      rw [read_inf] at hr
      cases hr
end Go.Proofs.Ytagehemimlakpaa.Fl

namespace Go.Proofs.Ytagehemimlakpaa.Fl

/-- Half a unit of the last digit, and half the least number. -/
def eu : Rat := 2 ^ (-53 : Int)
def et : Rat := 2 ^ (-1075 : Int)
theorem eu_pos : 0 < eu := p2_pos _
theorem et_pos : 0 < et := p2_pos _
/-- v is as near to r as a rounded number is. -/
structure Nr (v r : Rat) : Prop where
  lo : ∀ B, -B ≤ r → r ≤ B → r ≤ v + (B * eu + et)
  hi : ∀ B, -B ≤ r → r ≤ B → v ≤ r + (B * eu + et)

theorem write_val (neg : Bool) (mag : Nat) (place : Int) (h : Num (F64.nearest neg mag place)) : Nr (val (F64.nearest neg mag place)) (dval (.number neg mag place)) := by
  obtain ⟨V, hV, h0, h1, h2⟩ := nearest_val neg mag place h
  rw [hV, dval_number]
  rw [show (2 : Rat) ^ (-53 : Int) = eu from rfl, show (2 : Rat) ^ (-1075 : Int) = et from rfl] at h1 h2
  have hu := eu_pos
  generalize (mag : Rat) * 2 ^ place = R at *
  have hb : ∀ B, R ≤ B → R * eu ≤ B * eu := fun B hB => Rat.mul_le_mul_of_nonneg_right hB (Rat.le_of_lt hu)
  cases neg
  · constructor
    · intro B _ hB
      have := hb B hB
      unfold sg at *
      grind
    · intro B _ hB
      have := hb B hB
      unfold sg at *
      grind
  · constructor
    · intro B hB _
      unfold sg at *
      have := hb B (by grind)
      grind
    · intro B hB _
      unfold sg at *
      have := hb B (by grind)
      grind

theorem write_num (neg : Bool) (mag : Nat) (place : Int) (h1 : -64 ≤ dval (.number neg mag place)) (h2 : dval (.number neg mag place) ≤ 64) : Num (F64.nearest neg mag place) := by
  refine nearest_num neg mag place ?_
  rw [dval_number] at h1 h2
  cases neg
  · exact h2
  · unfold sg at h1
    grind

theorem sg_signed (s : Bool) (m u : Nat) : ((Ieee.signed s m u : Int) : Rat) = sg s ((m : Rat) * 2 ^ (u : Int)) := by
  unfold Ieee.signed sg
  rw [Nat.shiftLeft_eq, p2_nat]
  cases s <;> simp [Rat.intCast_natCast]

theorem signed_val (s : Bool) (m : Nat) (i base : Int) (h : base ≤ i) : ((Ieee.signed s m (i - base).toNat : Int) : Rat) * 2 ^ base = sg s ((m : Rat) * 2 ^ i) := by
  rw [sg_signed, show (((i - base).toNat : Nat) : Int) = i - base by omega]
  have : (2 : Rat) ^ i = 2 ^ (i - base) * 2 ^ base := by rw [← p2_add]; congr 1; omega
  rw [this]
  generalize (2 : Rat) ^ (i - base) = a
  generalize (2 : Rat) ^ base = b
  cases s <;> unfold sg <;> grind

theorem abs_val (t : Int) (z : Bool) (base : Int) : dval (.number (if t = 0 then z else decide (t < 0)) t.natAbs base) = (t : Rat) * 2 ^ base := by
  rw [dval_number]
  by_cases h0 : t = 0
  · subst h0
    have e : ((0 : Int).natAbs : Rat) * 2 ^ base = 0 := Rat.zero_mul _
    rw [e]
    have e2 : ((0 : Int) : Rat) * 2 ^ base = 0 := Rat.zero_mul _
    rw [e2]
    cases z <;> simp [sg]
  · rw [if_neg h0]
    by_cases hn : t < 0
    · have e : (t : Rat) = -((t.natAbs : Nat) : Rat) := by
        have : t = -((t.natAbs : Nat) : Int) := by omega
        have h2 : (t : Rat) = ((-((t.natAbs : Nat) : Int) : Int) : Rat) := by rw [← this]
        rw [h2, Rat.intCast_neg]
        rfl
      rw [e]
      simp only [hn, decide_true, sg, if_true]
      grind
    · have e : (t : Rat) = ((t.natAbs : Nat) : Rat) := by
        have : t = ((t.natAbs : Nat) : Int) := by omega
        exact_mod_cast this
      rw [e]
      simp [hn, sg]

theorem sum_val (s t : Bool) (m n : Nat) (i j : Int) : ∃ neg mag place, (Ieee.Datum.number s m i).sum (.number t n j) = some (.number neg mag place) ∧ dval (.number neg mag place) = dval (.number s m i) + dval (.number t n j) := by
  refine ⟨_, _, _, rfl, ?_⟩
  rw [abs_val, dval_number, dval_number, ← signed_val s m i (min i j) (by omega), ← signed_val t n j (min i j) (by omega)]
  have : ((Ieee.signed s m (i - min i j).toNat + Ieee.signed t n (j - min i j).toNat : Int) : Rat) = (Ieee.signed s m (i - min i j).toNat : Int) + (Ieee.signed t n (j - min i j).toNat : Int) := Rat.intCast_add _ _
  rw [this]
  grind

theorem add_near {x y : Nat} (hx : Num x) (hy : Num y) : ∃ neg mag place, fadd x y = F64.nearest neg mag place ∧ dval (.number neg mag place) = val x + val y := by
  obtain ⟨s, m, i, hx⟩ := hx
  obtain ⟨t, n, j, hy⟩ := hy
  obtain ⟨neg, mag, place, h1, h2⟩ := sum_val s t m n i j
  refine ⟨neg, mag, place, ?_, ?_⟩
  · unfold fadd Ieee.Format.add
    rw [hx, hy, h1]
    rfl
  · unfold val
    rw [hx, hy, h2]

theorem sub_near {x y : Nat} (hx : Num x) (hy : Num y) : ∃ neg mag place, fsub x y = F64.nearest neg mag place ∧ dval (.number neg mag place) = val x - val y := by
  obtain ⟨s, m, i, hx⟩ := hx
  obtain ⟨t, n, j, hy⟩ := hy
  obtain ⟨neg, mag, place, h1, h2⟩ := sum_val s (!t) m n i j
  refine ⟨neg, mag, place, ?_, ?_⟩
  · unfold fsub Ieee.Format.sub
    rw [hx, hy, Ieee.Datum.opposite, h1]
    rfl
  · unfold val
    rw [hx, hy, h2, dval_number, dval_number, dval_number]
    cases t <;> simp [sg] <;> grind

theorem mul_near {x y : Nat} (hx : Num x) (hy : Num y) : ∃ neg mag place, fmul x y = F64.nearest neg mag place ∧ dval (.number neg mag place) = val x * val y := by
  obtain ⟨s, m, i, hx⟩ := hx
  obtain ⟨t, n, j, hy⟩ := hy
  refine ⟨s ^^ t, m * n, i + j, ?_, ?_⟩
  · unfold fmul Ieee.Format.mul
    rw [hx, hy]
    rfl
  · unfold val
    rw [hx, hy, dval_number, dval_number, dval_number, p2_add, Rat.natCast_mul]
    cases s <;> cases t <;> simp [sg] <;> grind

theorem fadd_num {x y : Nat} (hx : Num x) (hy : Num y) (h1 : -64 ≤ val x + val y) (h2 : val x + val y ≤ 64) : Num (fadd x y) := by
  obtain ⟨neg, mag, place, e, hv⟩ := add_near hx hy
  rw [e]; exact write_num _ _ _ (by rw [hv]; exact h1) (by rw [hv]; exact h2)
theorem fadd_val {x y : Nat} (hx : Num x) (hy : Num y) (h : Num (fadd x y)) : Nr (val (fadd x y)) (val x + val y) := by
  obtain ⟨neg, mag, place, e, hv⟩ := add_near hx hy
  rw [e] at h ⊢; rw [← hv]; exact write_val _ _ _ h
theorem fsub_num {x y : Nat} (hx : Num x) (hy : Num y) (h1 : -64 ≤ val x - val y) (h2 : val x - val y ≤ 64) : Num (fsub x y) := by
  obtain ⟨neg, mag, place, e, hv⟩ := sub_near hx hy
  rw [e]; exact write_num _ _ _ (by rw [hv]; exact h1) (by rw [hv]; exact h2)
theorem fsub_val {x y : Nat} (hx : Num x) (hy : Num y) (h : Num (fsub x y)) : Nr (val (fsub x y)) (val x - val y) := by
  obtain ⟨neg, mag, place, e, hv⟩ := sub_near hx hy
  rw [e] at h ⊢; rw [← hv]; exact write_val _ _ _ h
theorem fmul_num {x y : Nat} (hx : Num x) (hy : Num y) (h1 : -64 ≤ val x * val y) (h2 : val x * val y ≤ 64) : Num (fmul x y) := by
  obtain ⟨neg, mag, place, e, hv⟩ := mul_near hx hy
  rw [e]; exact write_num _ _ _ (by rw [hv]; exact h1) (by rw [hv]; exact h2)
theorem fmul_val {x y : Nat} (hx : Num x) (hy : Num y) (h : Num (fmul x y)) : Nr (val (fmul x y)) (val x * val y) := by
  obtain ⟨neg, mag, place, e, hv⟩ := mul_near hx hy
  rw [e] at h ⊢; rw [← hv]; exact write_val _ _ _ h

/-! What is a number came of numbers -/
theorem num_not_inf {s : Bool} (h : Num (F64.write (.infinity s))) : False := by
  obtain ⟨_, _, _, h⟩ := h
  unfold Ieee.Format.write at h
  simp only [ir] at h
  rw [read_inf] at h
  cases h
theorem num_not_nan (h : Num qnan) : False := by
  obtain ⟨_, _, _, h⟩ := h
  have : F64.read qnan = .nan false 2251799813685249 := by decide +kernel
  rw [this] at h
  cases h

theorem num_of_add {x y : Nat} (h : Num (fadd x y)) : Num x ∧ Num y := by
  unfold fadd Ieee.Format.add at h
  unfold Num
  generalize F64.read x = d at *
  generalize F64.read y = e at *
  cases d <;> cases e <;> simp only [Ieee.Datum.sum, Option.map_none, Option.map_some, Option.getD_none, Option.getD_some] at h <;> first
    | exact ⟨⟨_, _, _, rfl⟩, ⟨_, _, _, rfl⟩⟩
    | exact absurd h num_not_nan
    | exact absurd h num_not_inf
    | (split at h
       · exact absurd h num_not_inf
       · exact absurd h num_not_nan)
theorem num_of_sub {x y : Nat} (h : Num (fsub x y)) : Num x ∧ Num y := by
  unfold fsub Ieee.Format.sub at h
  unfold Num
  generalize F64.read x = d at *
  generalize F64.read y = e at *
  cases d <;> cases e <;> simp only [Ieee.Datum.sum, Ieee.Datum.opposite, Option.map_none, Option.map_some, Option.getD_none, Option.getD_some] at h <;> first
    | exact ⟨⟨_, _, _, rfl⟩, ⟨_, _, _, rfl⟩⟩
    | exact absurd h num_not_nan
    | exact absurd h num_not_inf
    | (split at h
       · exact absurd h num_not_inf
       · exact absurd h num_not_nan)
theorem num_of_square {x : Nat} (h : Num (fmul x x)) : Num x := by
  unfold fmul Ieee.Format.mul at h
  unfold Num
  generalize F64.read x = d at *
  cases d <;> simp only [Ieee.Datum.product, Option.map_none, Option.map_some, Option.getD_none, Option.getD_some] at h <;> first
    | exact ⟨_, _, _, rfl⟩
    | exact absurd h num_not_nan
    | exact absurd h num_not_inf
end Go.Proofs.Ytagehemimlakpaa.Fl

namespace Go.Proofs.Ytagehemimlakpaa.Fl

def ev : Rat := 2 ^ (-54 : Int)

theorem quot_err (q D n r : Nat) (h : D = n * q + r) (hr : r < n) :
    ((2 * q + (r != 0).toNat : Nat) : Rat) * n ≤ 2 * D + n ∧ (2 : Rat) * D ≤ ((2 * q + (r != 0).toNat : Nat) : Rat) * n + n := by
  have hb : (r != 0).toNat = 0 ∧ r = 0 ∨ (r != 0).toNat = 1 ∧ 0 < r := by
    rcases Nat.eq_zero_or_pos r with h0 | h0
    · left; subst h0; exact ⟨rfl, rfl⟩
    · right
      have : (r != 0) = true := by simp; omega
      rw [this]; exact ⟨rfl, h0⟩
  have key : (2 * q + (r != 0).toNat) * n ≤ 2 * D + n ∧ 2 * D ≤ (2 * q + (r != 0).toNat) * n + n := by
    rcases hb with ⟨hb, h0⟩ | ⟨hb, h0⟩
    · rw [hb]
      subst h
      subst h0
      rw [Nat.mul_comm n q, Nat.add_mul, Nat.mul_assoc]
      generalize q * n = g
      omega
    · rw [hb]
      subst h
      rw [Nat.mul_comm n q, Nat.add_mul, Nat.mul_assoc]
      generalize q * n = g
      omega
  constructor
  · exact_mod_cast key.1
  · exact_mod_cast key.2

/-- The quotient that is written, times the divisor. -/
theorem div_near {x y : Nat} (hx : Num x) (hy : Num y) (hz : val y ≠ 0) : ∃ neg mag place, fdiv x y = F64.nearest neg mag place ∧
    ∀ B, -B ≤ val x → val x ≤ B → dval (.number neg mag place) * val y ≤ val x + B * ev ∧ val x ≤ dval (.number neg mag place) * val y + B * ev := by
  obtain ⟨s, m, i, hx⟩ := hx
  obtain ⟨t, n, j, hy⟩ := hy
  have hvx : val x = sg s ((m : Rat) * 2 ^ i) := by unfold val; rw [hx, dval_number]
  have hvy : val y = sg t ((n : Rat) * 2 ^ j) := by unfold val; rw [hy, dval_number]
  have hn : n ≠ 0 := by
    intro h0
    subst h0
    apply hz
    rw [hvy]
    have : ((0 : Nat) : Rat) * 2 ^ j = 0 := Rat.zero_mul _
    rw [this]
    cases t <;> simp [sg]
  generalize hmore : 54 + n.log2 - m.log2 = more
  generalize hq : (m <<< more) / n = q
  generalize hr : (m <<< more) % n = r
  refine ⟨s ^^ t, 2 * q + (r != 0).toNat, i - j - more - 1, ?_, ?_⟩
  · unfold fdiv Ieee.Format.div
    have hf : F64.fractionBits + 2 = 54 := by decide +kernel
    rw [hx, hy, hf]
    simp only [Ieee.Datum.quotient, hn, if_false, Option.map_some, Option.getD_some, hmore, hq, hr]
    rfl
  · have hD : m <<< more = n * q + r := by rw [← hq, ← hr]; exact (Nat.div_add_mod _ _).symm
    have hrn : r < n := by rw [← hr]; exact Nat.mod_lt _ (Nat.pos_of_ne_zero hn)
    obtain ⟨k1, k2⟩ := quot_err q (m <<< more) n r hD hrn
    rw [Nat.shiftLeft_eq] at k1 k2
    generalize hQ : 2 * q + (r != 0).toNat = Q at k1 k2 ⊢
    have hpm := p2_pos (i - more - 1)
    have hmr : ((m * 2 ^ more : Nat) : Rat) = (m : Rat) * 2 ^ (more : Int) := by rw [Rat.natCast_mul, p2_nat]
    rw [hmr] at k1 k2
    -- n is small beside the dividend
    have hsmall : (n : Rat) ≤ 2 * ((m : Rat) * 2 ^ (more : Int)) * ev ∨ m = 0 := by
      rcases Nat.eq_zero_or_pos m with h0 | h0
      · right; exact h0
      · left
        have l1 : 2 ^ m.log2 ≤ m := Nat.log2_self_le (by omega)
        have l2 : n < 2 ^ (n.log2 + 1) := Nat.lt_log2_self
        have l3 : 2 ^ (54 + n.log2) ≤ m * 2 ^ more := by
          refine Nat.le_trans ?_ (Nat.mul_le_mul_right _ l1)
          rw [← Nat.pow_add]
          exact Nat.pow_le_pow_right (by decide) (by omega)
        have l4 : 2 ^ (54 + n.log2) = 9007199254740992 * 2 ^ (n.log2 + 1) := by
          rw [show 54 + n.log2 = 53 + (n.log2 + 1) by omega, Nat.pow_add]
        have l5 : 9007199254740992 * n ≤ m * 2 ^ more := by omega
        have l6 : (9007199254740992 : Rat) * n ≤ m * 2 ^ (more : Int) := by rw [← hmr]; exact_mod_cast l5
        have e : ev = 1 / 18014398509481984 := by decide +kernel
        rw [e]
        generalize (m : Rat) * 2 ^ (more : Int) = M at *
        grind
    have hdv : dval (.number (s ^^ t) Q (i - j - more - 1)) * val y = sg s ((Q : Rat) * n * 2 ^ (i - more - 1)) := by
      rw [dval_number, hvy, show (i - more - 1 : Int) = (i - j - more - 1) + j by omega, p2_add]
      generalize (2 : Rat) ^ (i - j - more - 1) = a
      generalize (2 : Rat) ^ j = b
      cases s <;> cases t <;> simp [sg] <;> grind
    have hmi : (m : Rat) * 2 ^ i = 2 * ((m : Rat) * 2 ^ (more : Int)) * 2 ^ (i - more - 1) := by
      have : (2 : Rat) ^ i = 2 ^ (1 : Int) * 2 ^ (more : Int) * 2 ^ (i - more - 1) := by rw [← p2_add, ← p2_add]; congr 1; omega
      have h1 : (2 : Rat) ^ (1 : Int) = 2 := by decide +kernel
      rw [this, h1]
      generalize (2 : Rat) ^ (more : Int) = a
      generalize (2 : Rat) ^ (i - more - 1) = b
      grind
    intro B hB1 hB2
    rw [hdv, hvx, hmi] at *
    generalize (2 : Rat) ^ (i - more - 1) = c at *
    generalize hM : (m : Rat) * 2 ^ (more : Int) = M at *
    have hev : (0 : Rat) < ev := p2_pos _
    have hc := Rat.le_of_lt hpm
    have m1 := Rat.mul_le_mul_of_nonneg_right k1 hc
    have m2 := Rat.mul_le_mul_of_nonneg_right k2 hc
    have hMB : 2 * M * c ≤ B := by
      cases s
      · simpa [sg] using hB2
      · simp [sg] at hB1; grind
    have m3 := Rat.mul_le_mul_of_nonneg_right hMB (Rat.le_of_lt hev)
    rcases hsmall with hs | hs
    · have m4 := Rat.mul_le_mul_of_nonneg_right hs hc
      have e1 : 2 * M * c * ev = 2 * M * ev * c := by grind
      have h1 : (Q : Rat) * n * c ≤ 2 * M * c + B * ev := by grind
      have h2 : 2 * M * c ≤ (Q : Rat) * n * c + B * ev := by grind
      cases s
      · simp only [sg]; exact ⟨h1, h2⟩
      · simp only [sg]; constructor <;> grind
    · subst hs
      have hM0 : M = 0 := by rw [← hM]; exact Rat.zero_mul _
      have hq0 : q = 0 := by rw [← hq]; simp
      have hr0 : r = 0 := by rw [← hr]; simp
      have hQ0 : Q = 0 := by rw [← hQ, hq0, hr0]; rfl
      subst hQ0
      have z : ((0 : Nat) : Rat) * n * c = 0 := by rw [show ((0 : Nat) : Rat) = 0 from rfl]; grind
      have z1 : 2 * M * c = 0 := by rw [hM0]; grind
      rw [z1] at hMB
      have hBe := Rat.mul_nonneg hMB (Rat.le_of_lt hev)
      rw [z, z1]
      generalize B * ev = g at hBe
      cases s
      · simp only [sg, Bool.false_eq_true, if_false]; constructor <;> grind
      · simp only [sg, if_true]; constructor <;> grind

/-! The order -/
theorem ord_val {x y : Nat} (hx : Num x) (hy : Num y) : ∃ a b : Int, ford x y = some (compare a b) ∧ (a < b ↔ val x < val y) ∧ (a = b ↔ val x = val y) := by
  obtain ⟨s, m, i, hx⟩ := hx
  obtain ⟨t, n, j, hy⟩ := hy
  refine ⟨Ieee.signed s m (i - min i j).toNat, Ieee.signed t n (j - min i j).toNat, ?_, ?_, ?_⟩
  · unfold ford Ieee.Format.order
    rw [hx, hy]
    rfl
  all_goals
    have hvx : val x = (Ieee.signed s m (i - min i j).toNat : Int) * 2 ^ (min i j) := by unfold val; rw [hx, dval_number, signed_val s m i _ (by omega)]
    have hvy : val y = (Ieee.signed t n (j - min i j).toNat : Int) * 2 ^ (min i j) := by unfold val; rw [hy, dval_number, signed_val t n j _ (by omega)]
    rw [hvx, hvy]
    have hp := p2_pos (min i j)
    generalize (2 : Rat) ^ (min i j) = p at *
    generalize Ieee.signed s m _ = a
    generalize Ieee.signed t n _ = b
  · rw [← Rat.intCast_lt_intCast]
    exact ⟨fun h => Rat.mul_lt_mul_of_pos_right h hp, fun h => Rat.lt_of_mul_lt_mul_right h (Rat.le_of_lt hp)⟩
  · constructor
    · intro h; rw [h]
    · intro h
      have h2 : ((a : Int) : Rat) = b := by
        have hne : p ≠ 0 := by grind
        have e1 : (a : Rat) * p * p⁻¹ = b * p * p⁻¹ := by rw [h]
        rwa [Rat.mul_assoc, Rat.mul_assoc, Rat.mul_inv_cancel p hne, Rat.mul_one, Rat.mul_one] at e1
      exact_mod_cast h2

theorem lt_val {x y : Nat} (hx : Num x) (hy : Num y) : (ford x y == some .lt) = decide (val x < val y) := by
  obtain ⟨a, b, h, h1, h2⟩ := ord_val hx hy
  rw [h]
  by_cases hl : a < b
  · rw [Int.compare_eq_lt.2 hl, decide_eq_true (h1.1 hl)]; rfl
  · rw [decide_eq_false (fun hh => hl (h1.2 hh))]
    have : compare a b ≠ .lt := fun hh => hl (Int.compare_eq_lt.1 hh)
    simpa using this

theorem gt_val {x y : Nat} (hx : Num x) (hy : Num y) : (ford x y == some .gt) = decide (val y < val x) := by
  obtain ⟨a, b, h, h1, h2⟩ := ord_val hx hy
  rw [h]
  by_cases hl : b < a
  · rw [Int.compare_eq_gt.2 hl]
    have : val y < val x := by
      have n1 : ¬ val x < val y := fun hh => by have := h1.2 hh; omega
      have n2 : ¬ val x = val y := fun hh => by have := h2.2 hh; omega
      grind
    rw [decide_eq_true this]; rfl
  · have : ¬ val y < val x := by
      intro hh
      have n1 : ¬ a < b := fun k => by have := h1.1 k; grind
      have n2 : ¬ a = b := fun k => by have := h2.1 k; grind
      omega
    rw [decide_eq_false this]
    have : compare a b ≠ .gt := fun hh => hl (Int.compare_eq_gt.1 hh)
    simpa using this
end Go.Proofs.Ytagehemimlakpaa.Fl

namespace Go.Proofs.Ytagehemimlakpaa.Fl

/-- a lies between -A and A. -/
def Ab (a A : Rat) : Prop := -A ≤ a ∧ a ≤ A

theorem Ab.nonneg {a A : Rat} (h : Ab a A) : 0 ≤ A := by unfold Ab at h; grind
theorem Ab.mono {a A B : Rat} (h : Ab a A) (k : A ≤ B) : Ab a B := by unfold Ab at *; grind
theorem Ab.neg {a A : Rat} (h : Ab a A) : Ab (-a) A := by unfold Ab at *; grind
theorem Ab.add {a b A B : Rat} (h : Ab a A) (k : Ab b B) : Ab (a + b) (A + B) := by unfold Ab at *; grind
theorem Ab.sub {a b A B : Rat} (h : Ab a A) (k : Ab b B) : Ab (a - b) (A + B) := by unfold Ab at *; grind
theorem Ab.mul {a b A B : Rat} (h : Ab a A) (k : Ab b B) : Ab (a * b) (A * B) := by
  obtain ⟨h1, h2⟩ := h
  obtain ⟨k1, k2⟩ := k
  have p1 := Rat.mul_nonneg (show 0 ≤ A - a by grind) (show 0 ≤ B + b by grind)
  have p2 := Rat.mul_nonneg (show 0 ≤ A + a by grind) (show 0 ≤ B - b by grind)
  have p3 := Rat.mul_nonneg (show 0 ≤ A - a by grind) (show 0 ≤ B - b by grind)
  have p4 := Rat.mul_nonneg (show 0 ≤ A + a by grind) (show 0 ≤ B + b by grind)
  constructor <;> grind
theorem Ab.of_sq {a A : Rat} (hA : 0 ≤ A) (h : a * a ≤ A * A) : Ab a A := by
  constructor
  · by_cases h1 : -A ≤ a
    · exact h1
    · exfalso
      have p1 := Rat.mul_pos (show 0 < -A - a by grind) (show 0 < -A - a by grind)
      have p2 := Rat.mul_nonneg (show 0 ≤ -A - a by grind) hA
      grind
  · by_cases h1 : a ≤ A
    · exact h1
    · exfalso
      have p1 := Rat.mul_pos (show 0 < a - A by grind) (show 0 < a - A by grind)
      have p2 := Rat.mul_nonneg (show 0 ≤ a - A by grind) hA
      grind
theorem sq_nonneg (a : Rat) : 0 ≤ a * a := by
  rcases Rat.le_total (a := 0) (b := a) with h | h
  · exact Rat.mul_nonneg h h
  · have := Rat.mul_nonneg (show 0 ≤ -a by grind) (show 0 ≤ -a by grind)
    grind

/-- What an operation rounds by at most, where its result is at most 64. -/
def dl : Rat := 1 / 70368744177664
theorem eu_eq : eu = 1 / 9007199254740992 := by decide +kernel
theorem et_le : et ≤ 1 / 1152921504606846976 := by
  have h := p2_le (show (-1075 : Int) ≤ -60 by omega)
  have e : (2 : Rat) ^ (-60 : Int) = 1 / 1152921504606846976 := by decide +kernel
  rw [e] at h
  exact h
theorem ev_eq : ev = 1 / 18014398509481984 := by decide +kernel

theorem Nr.ab {v r : Rat} (h : Nr v r) (hr : Ab r 64) : Ab (v - r) dl := by
  have h1 := h.lo 64 hr.1 hr.2
  have h2 := h.hi 64 hr.1 hr.2
  have e1 := eu_eq
  have e2 := et_le
  unfold dl
  rw [e1] at h1 h2
  constructor <;> grind

theorem add_ab {x y : Nat} (hx : Num x) (hy : Num y) (h : Ab (val x + val y) 64) : Num (fadd x y) ∧ Ab (val (fadd x y) - (val x + val y)) dl :=
  have hn := fadd_num hx hy h.1 h.2
  ⟨hn, (fadd_val hx hy hn).ab h⟩
theorem sub_ab {x y : Nat} (hx : Num x) (hy : Num y) (h : Ab (val x - val y) 64) : Num (fsub x y) ∧ Ab (val (fsub x y) - (val x - val y)) dl :=
  have hn := fsub_num hx hy h.1 h.2
  ⟨hn, (fsub_val hx hy hn).ab h⟩
theorem mul_ab {x y : Nat} (hx : Num x) (hy : Num y) (h : Ab (val x * val y) 64) : Num (fmul x y) ∧ Ab (val (fmul x y) - (val x * val y)) dl :=
  have hn := fmul_num hx hy h.1 h.2
  ⟨hn, (fmul_val hx hy hn).ab h⟩

/-- A quotient by a number that is not near 0. -/
theorem div_ab {x y : Nat} (hx : Num x) (hy : Num y) (hb : Ab (val x) 1) (hc : 1 / 2 ≤ val y ∨ val y ≤ -(1 / 2)) (hy4 : Ab (val y) 4) : Num (fdiv x y) ∧ Ab (val (fdiv x y) * val y - val x) (5 * dl) := by
  have hz : val y ≠ 0 := by rcases hc with h | h <;> intro h0 <;> rw [h0] at h <;> grind
  obtain ⟨neg, mag, place, e, hq⟩ := div_near hx hy hz
  obtain ⟨q1, q2⟩ := hq 1 hb.1 hb.2
  rw [ev_eq] at q1 q2
  obtain ⟨b1, b2⟩ := hb
  have hr : Ab (dval (.number neg mag place)) 64 := by
    generalize dval (.number neg mag place) = p at *
    rcases hc with h | h
    · constructor
      · rcases Rat.le_total (a := (-64)) (b := p) with k | k
        · exact k
        · have := Rat.mul_nonneg (show 0 ≤ -64 - p by grind) (show 0 ≤ val y - 1 / 2 by grind)
          grind
      · rcases Rat.le_total (a := p) (b := 64) with k | k
        · exact k
        · have := Rat.mul_nonneg (show 0 ≤ p - 64 by grind) (show 0 ≤ val y - 1 / 2 by grind)
          grind
    · constructor
      · rcases Rat.le_total (a := (-64)) (b := p) with k | k
        · exact k
        · have := Rat.mul_nonneg (show 0 ≤ -64 - p by grind) (show 0 ≤ -val y - 1 / 2 by grind)
          grind
      · rcases Rat.le_total (a := p) (b := 64) with k | k
        · exact k
        · have := Rat.mul_nonneg (show 0 ≤ p - 64 by grind) (show 0 ≤ -val y - 1 / 2 by grind)
          grind
  have hn : Num (fdiv x y) := by rw [e]; exact write_num _ _ _ hr.1 hr.2
  refine ⟨hn, ?_⟩
  rw [e] at hn ⊢
  have h1 := (write_val _ _ _ hn).ab hr
  have h2 := h1.mul hy4
  generalize dval (.number neg mag place) = p at *
  generalize val (F64.nearest neg mag place) = v at *
  have e1 : (v - p) * val y = v * val y - p * val y := by grind
  rw [e1] at h2
  obtain ⟨h3, h4⟩ := h2
  unfold dl at *
  constructor <;> grind

theorem le_val {x y : Nat} (hx : Num x) (hy : Num y) : (ford x y == some .lt || ford x y == some .eq) = decide (val x ≤ val y) := by
  obtain ⟨a, b, h, h1, h2⟩ := ord_val hx hy
  rw [h]
  by_cases hl : a < b
  · rw [Int.compare_eq_lt.2 hl, decide_eq_true (Rat.le_of_lt (h1.1 hl))]; rfl
  · by_cases he : a = b
    · rw [decide_eq_true (by rw [h2.1 he]; exact Rat.le_refl), he]
      have : compare b b = .eq := Int.compare_eq_eq.2 rfl
      rw [this]; rfl
    · have hg : b < a := by omega
      rw [Int.compare_eq_gt.2 hg]
      have : ¬ val x ≤ val y := by
        intro hh
        have n1 : ¬ val x < val y := fun k => hl (h1.2 k)
        have n2 : ¬ val x = val y := fun k => he (h2.2 k)
        grind
      rw [decide_eq_false this]; rfl
end Go.Proofs.Ytagehemimlakpaa.Fl
