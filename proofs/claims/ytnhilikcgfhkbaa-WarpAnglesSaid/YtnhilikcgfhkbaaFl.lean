/- Floats modulo the bits of a NaN: what an operation gives is told up to which NaN it is. -/
import Derived.WalkKit
import Derived.WalkLawsBesides
import Derived.Deep.Draws
import Derived.KernelRfl
namespace Go.Proofs.Ytnhilikcgfhkbaa.Fl

/-- The format. -/
abbrev F64 : Ieee.Format := FloatKind.f64.format
def qnan : Nat := 0x7ff8000000000001
def isN (x : Nat) : Bool := (F64.read x).isNaN
def nrm (x : Nat) : Nat := if isN x then qnan else x
/-- The same number, or none in both. -/
def Sm (x y : Nat) : Prop := nrm x = nrm y

def fadd (x y : Nat) : Nat := (F64.add x y).getD qnan
def fsub (x y : Nat) : Nat := (F64.sub x y).getD qnan
def fmul (x y : Nat) : Nat := (F64.mul x y).getD qnan
def fdiv (x y : Nat) : Nat := (F64.div x y).getD qnan
def fsqrt (x : Nat) : Nat := (F64.sqrt x).getD qnan
def ford (x y : Nat) : Option Ordering := F64.order x y
def fbin : BinOp → Nat → Nat → Nat
  | .add => fadd
  | .sub => fsub
  | .mul => fmul
  | .quo => fdiv
  | _ => fun _ _ => qnan

theorem isN_qnan : isN qnan = true := by decide +kernel
theorem nrm_nrm (x : Nat) : nrm (nrm x) = nrm x := by
  unfold nrm
  cases h : isN x <;> simp [h, isN_qnan]
theorem isN_nrm (x : Nat) : isN (nrm x) = isN x := by
  unfold nrm
  cases h : isN x <;> simp [h, isN_qnan]
theorem nrm_of_not {x : Nat} (h : isN x = false) : nrm x = x := by simp [nrm, h]
theorem nrm_of {x : Nat} (h : isN x = true) : nrm x = qnan := by simp [nrm, h]

theorem Sm.refl (x : Nat) : Sm x x := rfl
theorem Sm.symm {x y : Nat} (h : Sm x y) : Sm y x := Eq.symm h
theorem Sm.trans {x y z : Nat} (h : Sm x y) (k : Sm y z) : Sm x z := Eq.trans h k
theorem Sm.isN {x y : Nat} (h : Sm x y) : isN x = isN y := by rw [← isN_nrm x, ← isN_nrm y, h]
theorem Sm.eq {x y : Nat} (h : Sm x y) (hx : Fl.isN x = false) : x = y := by
  have hy : Fl.isN y = false := h.isN ▸ hx
  rw [← nrm_of_not hx, ← nrm_of_not hy]
  exact h
theorem Sm.of_nan {x y : Nat} (h : Fl.isN x = true) (k : Fl.isN y = true) : Sm x y := by unfold Sm; rw [nrm_of h, nrm_of k]

/-- A word of 64 bits. -/
def Wd (x : Nat) : Prop := x < 2 ^ 64
/-- The same number, or none in both, as a word. -/
structure Eqv (r z : Nat) : Prop where
  sm : Sm r z
  wd : Wd r
theorem Eqv.refl {x : Nat} (h : Wd x) : Eqv x x := ⟨Sm.refl x, h⟩
theorem Eqv.to {r z z' : Nat} (h : Eqv r z) (k : Sm z z') : Eqv r z' := ⟨h.sm.trans k, h.wd⟩

theorem read_nan {x : Nat} (h : isN x = true) : ∃ s f, F64.read x = .nan s f := by
  unfold isN Ieee.Datum.isNaN at h
  cases hr : F64.read x with
  | nan s f => exact ⟨s, f, rfl⟩
  | number _ _ _ => simp [hr] at h
  | infinity _ => simp [hr] at h

theorem add_nan_left {x : Nat} (h : isN x = true) (y : Nat) : F64.add x y = none := by
  obtain ⟨s, f, e⟩ := read_nan h
  simp [Ieee.Format.add, e, Ieee.Datum.sum]
theorem add_nan_right {y : Nat} (h : isN y = true) (x : Nat) : F64.add x y = none := by
  obtain ⟨s, f, e⟩ := read_nan h
  unfold Ieee.Format.add
  rw [e]
  cases F64.read x <;> rfl
theorem sub_nan_left {x : Nat} (h : isN x = true) (y : Nat) : F64.sub x y = none := by
  obtain ⟨s, f, e⟩ := read_nan h
  simp [Ieee.Format.sub, e, Ieee.Datum.sum]
theorem sub_nan_right {y : Nat} (h : isN y = true) (x : Nat) : F64.sub x y = none := by
  obtain ⟨s, f, e⟩ := read_nan h
  unfold Ieee.Format.sub
  rw [e]
  cases F64.read x <;> rfl
theorem mul_nan_left {x : Nat} (h : isN x = true) (y : Nat) : F64.mul x y = none := by
  obtain ⟨s, f, e⟩ := read_nan h
  simp [Ieee.Format.mul, e, Ieee.Datum.product]
theorem mul_nan_right {y : Nat} (h : isN y = true) (x : Nat) : F64.mul x y = none := by
  obtain ⟨s, f, e⟩ := read_nan h
  unfold Ieee.Format.mul
  rw [e]
  cases F64.read x <;> rfl
theorem div_nan_left {x : Nat} (h : isN x = true) (y : Nat) : F64.div x y = none := by
  obtain ⟨s, f, e⟩ := read_nan h
  simp [Ieee.Format.div, e, Ieee.Datum.quotient]
theorem div_nan_right {y : Nat} (h : isN y = true) (x : Nat) : F64.div x y = none := by
  obtain ⟨s, f, e⟩ := read_nan h
  unfold Ieee.Format.div
  rw [e]
  cases F64.read x <;> rfl
theorem sqrt_nan {x : Nat} (h : isN x = true) : F64.sqrt x = none := by
  obtain ⟨s, f, e⟩ := read_nan h
  simp [Ieee.Format.sqrt, e, Ieee.Datum.root]
theorem ord_nan_left {x : Nat} (h : isN x = true) (y : Nat) : ford x y = none := by
  obtain ⟨s, f, e⟩ := read_nan h
  simp [ford, Ieee.Format.order, e, Ieee.Datum.order]
theorem ord_nan_right {y : Nat} (h : isN y = true) (x : Nat) : ford x y = none := by
  obtain ⟨s, f, e⟩ := read_nan h
  unfold ford Ieee.Format.order
  rw [e]
  cases F64.read x <;> rfl

/-- A function of words that does not tell NaNs apart. -/
theorem congr2 {α : Type} {f : Nat → Nat → α} {d : α} (hl : ∀ x y, isN x = true → f x y = d) (hr : ∀ x y, isN y = true → f x y = d)
    {x y x' y' : Nat} (hx : Sm x x') (hy : Sm y y') : f x y = f x' y' := by
  cases h : isN x
  · cases k : isN y
    · rw [hx.eq h, hy.eq k]
    · rw [hr _ _ k, hr _ _ (hy.isN ▸ k)]
  · rw [hl _ _ h, hl _ _ (hx.isN ▸ h)]

theorem fadd_congr {x y x' y' : Nat} (hx : Sm x x') (hy : Sm y y') : fadd x y = fadd x' y' :=
  congr2 (d := qnan) (fun _ _ h => by simp [fadd, add_nan_left h]) (fun _ _ h => by simp [fadd, add_nan_right h]) hx hy
theorem fsub_congr {x y x' y' : Nat} (hx : Sm x x') (hy : Sm y y') : fsub x y = fsub x' y' :=
  congr2 (d := qnan) (fun _ _ h => by simp [fsub, sub_nan_left h]) (fun _ _ h => by simp [fsub, sub_nan_right h]) hx hy
theorem fmul_congr {x y x' y' : Nat} (hx : Sm x x') (hy : Sm y y') : fmul x y = fmul x' y' :=
  congr2 (d := qnan) (fun _ _ h => by simp [fmul, mul_nan_left h]) (fun _ _ h => by simp [fmul, mul_nan_right h]) hx hy
theorem fdiv_congr {x y x' y' : Nat} (hx : Sm x x') (hy : Sm y y') : fdiv x y = fdiv x' y' :=
  congr2 (d := qnan) (fun _ _ h => by simp [fdiv, div_nan_left h]) (fun _ _ h => by simp [fdiv, div_nan_right h]) hx hy
theorem fsqrt_congr {x x' : Nat} (hx : Sm x x') : fsqrt x = fsqrt x' := by
  cases h : isN x
  · rw [hx.eq h]
  · simp [fsqrt, sqrt_nan h, sqrt_nan (hx.isN ▸ h : isN x' = true)]
theorem ford_congr {x y x' y' : Nat} (hx : Sm x x') (hy : Sm y y') : ford x y = ford x' y' :=
  congr2 (d := none) (fun _ _ h => ord_nan_left h _) (fun _ _ h => ord_nan_right h _) hx hy

theorem ford_refl {x : Nat} (h : isN x = false) : ford x x = some .eq := by
  unfold isN Ieee.Datum.isNaN at h
  unfold ford Ieee.Format.order
  cases hr : F64.read x with
  | nan s f => simp [hr] at h
  | number s m e => simp [Ieee.Datum.order]
  | infinity s => simp [Ieee.Datum.order]
theorem ford_self (x : Nat) : (ford x x == some .eq) = !isN x := by
  cases h : isN x
  · simp [ford_refl h]
  · simp [ord_nan_left h]

/-- The reference's 'Same'. -/
def sameB (x y : Nat) : Bool := ford x y == some .eq || (ford x x != some .eq && ford y y != some .eq)
theorem sameB_of {x y : Nat} (h : Sm x y) : sameB x y = true := by
  unfold sameB
  cases k : isN x
  · rw [← h.eq k, ford_refl k]; rfl
  · rw [ord_nan_left k, ord_nan_left (h.isN ▸ k : isN y = true), ord_nan_left k]; rfl
theorem sameB_congr {x y x' y' : Nat} (hx : Sm x x') (hy : Sm y y') : sameB x y = sameB x' y' := by
  unfold sameB
  rw [ford_congr hx hy, ford_congr hx hx, ford_congr hy hy]

/-- A NaN that the tape gives is one. -/
theorem isN_cut (x y t : Nat) : isN (Question.cut (.nanBits .f64 x y) t) = true := by
  have e : Question.cut (.nanBits .f64 x y) t = (t % 2) * 2 ^ 63 + 0x7ff0000000000000 + 1 + (t / 2) % (2 ^ 52 - 1) := rfl
  rw [e]
  have hw : F64.signWeight = 9223372036854775808 := by decide +kernel
  have hb : F64.binade = 4503599627370496 := by decide +kernel
  have hi : F64.infRung = 9218868437227405312 := by decide +kernel
  have h1 : t % 2 < 2 := Nat.mod_lt _ (by decide)
  have h2 : (t / 2) % (2 ^ 52 - 1) < 2 ^ 52 - 1 := Nat.mod_lt _ (by decide)
  generalize t % 2 = a at *
  generalize (t / 2) % (2 ^ 52 - 1) = b at *
  unfold isN Ieee.Format.read
  simp only [hw, hb, hi]
  have hr : (a * 2 ^ 63 + 0x7ff0000000000000 + 1 + b) % 9223372036854775808 = 9218868437227405312 + 1 + b := by omega
  rw [hr, if_neg (by omega), if_neg (by omega), if_neg (by omega)]
  rfl

theorem wd_cut (x y t : Nat) : Wd (Question.cut (.nanBits .f64 x y) t) := by
  have e : Question.cut (.nanBits .f64 x y) t = (t % 2) * 2 ^ 63 + 0x7ff0000000000000 + 1 + (t / 2) % (2 ^ 52 - 1) := rfl
  rw [e]
  unfold Wd
  have h1 : t % 2 < 2 := Nat.mod_lt _ (by decide)
  have h2 : (t / 2) % (2 ^ 52 - 1) < 2 ^ 52 - 1 := Nat.mod_lt _ (by decide)
  omega
theorem wd_of {k : Nat} (h : (Lit.float .f64 k).wf = true) : Wd k := by simpa [Wd, Lit.wf] using h

section
variable {P : Program}
theorem run_fbin (op : BinOp) (hop : op = .add ∨ op = .sub ∨ op = .mul ∨ op = .quo) (t : TypeId) (x y : Nat) (w : World) :
    ∃ r n, (binOp op t (.float .f64 x) (.float .f64 y)).run P w = .ok (.float .f64 r) (w.drewN n) ∧ Eqv r (fbin op x y) := by
  cases h : floatBits op .f64 x y with
  | some r =>
    refine ⟨r, 0, run_float_arith w op t .f64 x y r h, ?_, wd_of (floatBits_wf h)⟩
    rcases hop with rfl | rfl | rfl | rfl
    · simp only [fbin, fadd]; rw [show F64.add x y = some r from h]; rfl
    · simp only [fbin, fsub]; rw [show F64.sub x y = some r from h]; rfl
    · simp only [fbin, fmul]; rw [show F64.mul x y = some r from h]; rfl
    · simp only [fbin, fdiv]; rw [show F64.div x y = some r from h]; rfl
  | none =>
    refine ⟨Question.cut (.nanBits .f64 x y) (w.tape w.drawn (.nanBits .f64 x y)), 1, ?_, ?_⟩
    · rcases hop with rfl | rfl | rfl | rfl <;> simp only [floatBits] at h <;> simp [binOp, Op.floatArith, h, Question.forced] <;> rfl
    · refine ⟨Sm.of_nan (isN_cut _ _ _) ?_, wd_cut _ _ _⟩
      rcases hop with rfl | rfl | rfl | rfl
      · simp only [fbin, fadd]; rw [show F64.add x y = none from h]; exact isN_qnan
      · simp only [fbin, fsub]; rw [show F64.sub x y = none from h]; exact isN_qnan
      · simp only [fbin, fmul]; rw [show F64.mul x y = none from h]; exact isN_qnan
      · simp only [fbin, fdiv]; rw [show F64.div x y = none from h]; exact isN_qnan

theorem sqrt_elim (x : Nat) : Extern.MathSqrt.sqrt #[.float .f64 x] = (F64.sqrt x).elim (choose (.nanBits .f64 x x) >>= fun r => pure (.float .f64 r)) (fun r => pure (.float .f64 r)) := by
  kernel_rfl
theorem sqrt_some {x r : Nat} (h : F64.sqrt x = some r) : Extern.MathSqrt.sqrt #[.float .f64 x] = pure (.float .f64 r) := by
  rw [sqrt_elim, h]; rfl
theorem sqrt_none {x : Nat} (h : F64.sqrt x = none) : Extern.MathSqrt.sqrt #[.float .f64 x] = choose (.nanBits .f64 x x) >>= fun r => pure (.float .f64 r) := by
  rw [sqrt_elim, h]; rfl
theorem run_sqrt (x : Nat) (w : World) :
    ∃ r n, (Extern.MathSqrt.sqrt #[.float .f64 x]).run P w = .ok (.float .f64 r) (w.drewN n) ∧ Eqv r (fsqrt x) := by
  cases h : F64.sqrt x with
  | some r => exact ⟨r, 0, by rw [sqrt_some h]; simp; rfl, by simp only [fsqrt]; rw [h]; rfl, F64.sqrt_lt h⟩
  | none =>
    refine ⟨Question.cut (.nanBits .f64 x x) (w.tape w.drawn (.nanBits .f64 x x)), 1, ?_, Sm.of_nan (isN_cut _ _ _) ?_, wd_cut _ _ _⟩
    · rw [sqrt_none h]; simp [Question.forced]; rfl
    · simp only [fsqrt]; rw [h]; exact isN_qnan
end
end Go.Proofs.Ytnhilikcgfhkbaa.Fl
