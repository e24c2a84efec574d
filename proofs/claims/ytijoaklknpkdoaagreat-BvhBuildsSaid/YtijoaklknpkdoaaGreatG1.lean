/- Floats modulo the bits of a NaN: what an operation gives is told up to which NaN it is. A region that draws its order, whose operations' values are told up to a relation of their own, and whose worlds are told by one class: one walk in the order of the text serves every order. How a call is told: the value that it gives, up to a relation, and that what was there is as it was. A vector that comes in, opened and shut. Structs of two and of three vectors that come in, opened and shut. -/
import Derived.WalkKit
import Derived.WalkLawsBesides
import Derived.Deep.Draws
import Derived.KernelRfl
import Derived.Deep.Quiet
import Derived.Tactics
import Derived.Tactics2
import Derived.WalkSpells
import Derived.ProofKit
import Derived.Lib.SmallJoins
import Derived.Test.YtijoaklknpkdoaaGreatRows
namespace Go.Proofs.YtijoaklknpkdoaaGreat.Fl

/-- The format. -/
abbrev F64 : Ieee.Format := FloatKind.f64.format
def qnan : Nat := 0x7ff8000000000001
def isN (x : Nat) : Bool := (F64.read x).isNaN
def nrm (x : Nat) : Nat := if isN x then qnan else x
/-- The same number, or none in both. -/
def Sm (x y : Nat) : Prop := nrm x = nrm y

def fadd (x y : Nat) : Nat := (F64.add x y).getD qnan
def fsub (x y : Nat) : Nat := (F64.sub x y).getD qnan
def fmul (x y : Nat) : Nat := (F64.mul x y).getD qnan
def fdiv (x y : Nat) : Nat := (F64.div x y).getD qnan
def fsqrt (x : Nat) : Nat := (F64.sqrt x).getD qnan
def ford (x y : Nat) : Option Ordering := F64.order x y
def fbin : BinOp → Nat → Nat → Nat
  | .add => fadd
  | .sub => fsub
  | .mul => fmul
  | .quo => fdiv
  | _ => fun _ _ => qnan

theorem isN_qnan : isN qnan = true := by decide +kernel
theorem nrm_nrm (x : Nat) : nrm (nrm x) = nrm x := by
  unfold nrm
  cases h : isN x <;> simp [h, isN_qnan]
theorem isN_nrm (x : Nat) : isN (nrm x) = isN x := by
  unfold nrm
  cases h : isN x <;> simp [h, isN_qnan]
theorem nrm_of_not {x : Nat} (h : isN x = false) : nrm x = x := by simp [nrm, h]
theorem nrm_of {x : Nat} (h : isN x = true) : nrm x = qnan := by simp [nrm, h]

theorem Sm.refl (x : Nat) : Sm x x := rfl
theorem Sm.symm {x y : Nat} (h : Sm x y) : Sm y x := Eq.symm h
theorem Sm.trans {x y z : Nat} (h : Sm x y) (k : Sm y z) : Sm x z := Eq.trans h k
theorem Sm.isN {x y : Nat} (h : Sm x y) : isN x = isN y := by rw [← isN_nrm x, ← isN_nrm y, h]
theorem Sm.eq {x y : Nat} (h : Sm x y) (hx : Fl.isN x = false) : x = y := by
  have hy : Fl.isN y = false := h.isN ▸ hx
  rw [← nrm_of_not hx, ← nrm_of_not hy]
  exact h
theorem Sm.of_nan {x y : Nat} (h : Fl.isN x = true) (k : Fl.isN y = true) : Sm x y := by unfold Sm; rw [nrm_of h, nrm_of k]

/-- A word of 64 bits. -/
def Wd (x : Nat) : Prop := x < 2 ^ 64
/-- The same number, or none in both, as a word. -/
structure Eqv (r z : Nat) : Prop where
  sm : Sm r z
  wd : Wd r
theorem Eqv.refl {x : Nat} (h : Wd x) : Eqv x x := ⟨Sm.refl x, h⟩
theorem Eqv.to {r z z' : Nat} (h : Eqv r z) (k : Sm z z') : Eqv r z' := ⟨h.sm.trans k, h.wd⟩

theorem read_nan {x : Nat} (h : isN x = true) : ∃ s f, F64.read x = .nan s f := by
  unfold isN Ieee.Datum.isNaN at h
  cases hr : F64.read x with
  | nan s f => exact ⟨s, f, rfl⟩
  | number _ _ _ => simp [hr] at h
  | infinity _ => simp [hr] at h

theorem add_nan_left {x : Nat} (h : isN x = true) (y : Nat) : F64.add x y = none := by
  obtain ⟨s, f, e⟩ := read_nan h
  simp [Ieee.Format.add, e, Ieee.Datum.sum]
theorem add_nan_right {y : Nat} (h : isN y = true) (x : Nat) : F64.add x y = none := by
  obtain ⟨s, f, e⟩ := read_nan h
  unfold Ieee.Format.add
  rw [e]
  cases F64.read x <;> rfl
theorem sub_nan_left {x : Nat} (h : isN x = true) (y : Nat) : F64.sub x y = none := by
  obtain ⟨s, f, e⟩ := read_nan h
  simp [Ieee.Format.sub, e, Ieee.Datum.sum]
theorem sub_nan_right {y : Nat} (h : isN y = true) (x : Nat) : F64.sub x y = none := by
  obtain ⟨s, f, e⟩ := read_nan h
  unfold Ieee.Format.sub
  rw [e]
  cases F64.read x <;> rfl
theorem mul_nan_left {x : Nat} (h : isN x = true) (y : Nat) : F64.mul x y = none := by
  obtain ⟨s, f, e⟩ := read_nan h
  simp [Ieee.Format.mul, e, Ieee.Datum.product]
theorem mul_nan_right {y : Nat} (h : isN y = true) (x : Nat) : F64.mul x y = none := by
  obtain ⟨s, f, e⟩ := read_nan h
  unfold Ieee.Format.mul
  rw [e]
  cases F64.read x <;> rfl
theorem div_nan_left {x : Nat} (h : isN x = true) (y : Nat) : F64.div x y = none := by
  obtain ⟨s, f, e⟩ := read_nan h
  simp [Ieee.Format.div, e, Ieee.Datum.quotient]
theorem div_nan_right {y : Nat} (h : isN y = true) (x : Nat) : F64.div x y = none := by
  obtain ⟨s, f, e⟩ := read_nan h
  unfold Ieee.Format.div
  rw [e]
  cases F64.read x <;> rfl
theorem sqrt_nan {x : Nat} (h : isN x = true) : F64.sqrt x = none := by
  obtain ⟨s, f, e⟩ := read_nan h
  simp [Ieee.Format.sqrt, e, Ieee.Datum.root]
theorem ord_nan_left {x : Nat} (h : isN x = true) (y : Nat) : ford x y = none := by
  obtain ⟨s, f, e⟩ := read_nan h
  simp [ford, Ieee.Format.order, e, Ieee.Datum.order]
theorem ord_nan_right {y : Nat} (h : isN y = true) (x : Nat) : ford x y = none := by
  obtain ⟨s, f, e⟩ := read_nan h
  unfold ford Ieee.Format.order
  rw [e]
  cases F64.read x <;> rfl

/-- A function of words that does not tell NaNs apart. -/
theorem congr2 {α : Type} {f : Nat → Nat → α} {d : α} (hl : ∀ x y, isN x = true → f x y = d) (hr : ∀ x y, isN y = true → f x y = d)
    {x y x' y' : Nat} (hx : Sm x x') (hy : Sm y y') : f x y = f x' y' := by
  cases h : isN x
  · cases k : isN y
    · rw [hx.eq h, hy.eq k]
    · rw [hr _ _ k, hr _ _ (hy.isN ▸ k)]
  · rw [hl _ _ h, hl _ _ (hx.isN ▸ h)]

theorem fadd_congr {x y x' y' : Nat} (hx : Sm x x') (hy : Sm y y') : fadd x y = fadd x' y' :=
  congr2 (d := qnan) (fun _ _ h => by simp [fadd, add_nan_left h]) (fun _ _ h => by simp [fadd, add_nan_right h]) hx hy
theorem fsub_congr {x y x' y' : Nat} (hx : Sm x x') (hy : Sm y y') : fsub x y = fsub x' y' :=
  congr2 (d := qnan) (fun _ _ h => by simp [fsub, sub_nan_left h]) (fun _ _ h => by simp [fsub, sub_nan_right h]) hx hy
theorem fmul_congr {x y x' y' : Nat} (hx : Sm x x') (hy : Sm y y') : fmul x y = fmul x' y' :=
  congr2 (d := qnan) (fun _ _ h => by simp [fmul, mul_nan_left h]) (fun _ _ h => by simp [fmul, mul_nan_right h]) hx hy
theorem fdiv_congr {x y x' y' : Nat} (hx : Sm x x') (hy : Sm y y') : fdiv x y = fdiv x' y' :=
  congr2 (d := qnan) (fun _ _ h => by simp [fdiv, div_nan_left h]) (fun _ _ h => by simp [fdiv, div_nan_right h]) hx hy
theorem fsqrt_congr {x x' : Nat} (hx : Sm x x') : fsqrt x = fsqrt x' := by
  cases h : isN x
  · rw [hx.eq h]
  · simp [fsqrt, sqrt_nan h, sqrt_nan (hx.isN ▸ h : isN x' = true)]
theorem ford_congr {x y x' y' : Nat} (hx : Sm x x') (hy : Sm y y') : ford x y = ford x' y' :=
  congr2 (d := none) (fun _ _ h => ord_nan_left h _) (fun _ _ h => ord_nan_right h _) hx hy

theorem ford_refl {x : Nat} (h : isN x = false) : ford x x = some .eq := by
  unfold isN Ieee.Datum.isNaN at h
  unfold ford Ieee.Format.order
  cases hr : F64.read x with
  | nan s f => simp [hr] at h
  | number s m e => simp [Ieee.Datum.order]
  | infinity s => simp [Ieee.Datum.order]
theorem ford_self (x : Nat) : (ford x x == some .eq) = !isN x := by
  cases h : isN x
  · simp [ford_refl h]
  · simp [ord_nan_left h]

/-- The reference's 'Same'. -/
def sameB (x y : Nat) : Bool := ford x y == some .eq || (ford x x != some .eq && ford y y != some .eq)
theorem sameB_of {x y : Nat} (h : Sm x y) : sameB x y = true := by
  unfold sameB
  cases k : isN x
  · rw [← h.eq k, ford_refl k]; rfl
  · rw [ord_nan_left k, ord_nan_left (h.isN ▸ k : isN y = true), ord_nan_left k]; rfl
theorem sameB_congr {x y x' y' : Nat} (hx : Sm x x') (hy : Sm y y') : sameB x y = sameB x' y' := by
  unfold sameB
  rw [ford_congr hx hy, ford_congr hx hx, ford_congr hy hy]

/-- A NaN that the tape gives is one. -/
theorem isN_cut (x y t : Nat) : isN (Question.cut (.nanBits .f64 x y) t) = true := by
  have e : Question.cut (.nanBits .f64 x y) t = (t % 2) * 2 ^ 63 + 0x7ff0000000000000 + 1 + (t / 2) % (2 ^ 52 - 1) := rfl
  rw [e]
  have hw : F64.signWeight = 9223372036854775808 := by decide +kernel
  have hb : F64.binade = 4503599627370496 := by decide +kernel
  have hi : F64.infRung = 9218868437227405312 := by decide +kernel
  have h1 : t % 2 < 2 := Nat.mod_lt _ (by decide)
  have h2 : (t / 2) % (2 ^ 52 - 1) < 2 ^ 52 - 1 := Nat.mod_lt _ (by decide)
  generalize t % 2 = a at *
  generalize (t / 2) % (2 ^ 52 - 1) = b at *
  unfold isN Ieee.Format.read
  simp only [hw, hb, hi]
  have hr : (a * 2 ^ 63 + 0x7ff0000000000000 + 1 + b) % 9223372036854775808 = 9218868437227405312 + 1 + b := by omega
  rw [hr, if_neg (by omega), if_neg (by omega), if_neg (by omega)]
  rfl

theorem wd_cut (x y t : Nat) : Wd (Question.cut (.nanBits .f64 x y) t) := by
  have e : Question.cut (.nanBits .f64 x y) t = (t % 2) * 2 ^ 63 + 0x7ff0000000000000 + 1 + (t / 2) % (2 ^ 52 - 1) := rfl
  rw [e]
  unfold Wd
  have h1 : t % 2 < 2 := Nat.mod_lt _ (by decide)
  have h2 : (t / 2) % (2 ^ 52 - 1) < 2 ^ 52 - 1 := Nat.mod_lt _ (by decide)
  omega
theorem wd_of {k : Nat} (h : (Lit.float .f64 k).wf = true) : Wd k := by simpa [Wd, Lit.wf] using h

section
variable {P : Program}
theorem run_fbin (op : BinOp) (hop : op = .add ∨ op = .sub ∨ op = .mul ∨ op = .quo) (t : TypeId) (x y : Nat) (w : World) :
    ∃ r n, (binOp op t (.float .f64 x) (.float .f64 y)).run P w = .ok (.float .f64 r) (w.drewN n) ∧ Eqv r (fbin op x y) := by
  cases h : floatBits op .f64 x y with
  | some r =>
    refine ⟨r, 0, run_float_arith w op t .f64 x y r h, ?_, wd_of (floatBits_wf h)⟩
    rcases hop with rfl | rfl | rfl | rfl
    · simp only [fbin, fadd]; rw [show F64.add x y = some r from h]; rfl
    · simp only [fbin, fsub]; rw [show F64.sub x y = some r from h]; rfl
    · simp only [fbin, fmul]; rw [show F64.mul x y = some r from h]; rfl
    · simp only [fbin, fdiv]; rw [show F64.div x y = some r from h]; rfl
  | none =>
    refine ⟨Question.cut (.nanBits .f64 x y) (w.tape w.drawn (.nanBits .f64 x y)), 1, ?_, ?_⟩
    · rcases hop with rfl | rfl | rfl | rfl <;> simp only [floatBits] at h <;> simp [binOp, Op.floatArith, h, Question.forced] <;> rfl
    · refine ⟨Sm.of_nan (isN_cut _ _ _) ?_, wd_cut _ _ _⟩
      rcases hop with rfl | rfl | rfl | rfl
      · simp only [fbin, fadd]; rw [show F64.add x y = none from h]; exact isN_qnan
      · simp only [fbin, fsub]; rw [show F64.sub x y = none from h]; exact isN_qnan
      · simp only [fbin, fmul]; rw [show F64.mul x y = none from h]; exact isN_qnan
      · simp only [fbin, fdiv]; rw [show F64.div x y = none from h]; exact isN_qnan

theorem sqrt_elim (x : Nat) : Extern.MathSqrt.sqrt #[.float .f64 x] = (F64.sqrt x).elim (choose (.nanBits .f64 x x) >>= fun r => pure (.float .f64 r)) (fun r => pure (.float .f64 r)) := by
  kernel_rfl
theorem sqrt_some {x r : Nat} (h : F64.sqrt x = some r) : Extern.MathSqrt.sqrt #[.float .f64 x] = pure (.float .f64 r) := by
  rw [sqrt_elim, h]; rfl
theorem sqrt_none {x : Nat} (h : F64.sqrt x = none) : Extern.MathSqrt.sqrt #[.float .f64 x] = choose (.nanBits .f64 x x) >>= fun r => pure (.float .f64 r) := by
  rw [sqrt_elim, h]; rfl
theorem run_sqrt (x : Nat) (w : World) :
    ∃ r n, (Extern.MathSqrt.sqrt #[.float .f64 x]).run P w = .ok (.float .f64 r) (w.drewN n) ∧ Eqv r (fsqrt x) := by
  cases h : F64.sqrt x with
  | some r => exact ⟨r, 0, by rw [sqrt_some h]; simp; rfl, by simp only [fsqrt]; rw [h]; rfl, F64.sqrt_lt h⟩
  | none =>
    refine ⟨Question.cut (.nanBits .f64 x x) (w.tape w.drawn (.nanBits .f64 x x)), 1, ?_, Sm.of_nan (isN_cut _ _ _) ?_, wd_cut _ _ _⟩
    · rw [sqrt_none h]; simp [Question.forced]; rfl
    · simp only [fsqrt]; rw [h]; exact isN_qnan
end
end Go.Proofs.YtijoaklknpkdoaaGreat.Fl

namespace Go.Proofs.YtijoaklknpkdoaaGreat.Fl

/-- What an operation of the loose kind leaves: a value of V, in a world of C. -/
def looseUpon (P : Program) (C : World → Prop) (V : Value → Prop) : Result Next → Prop
  | .ok (.value u) w' => V u ∧ C w'
  | .ok (.enter f args) w' => Calls P f args w' fun e w'' => ∃ v, e = .returned v ∧ V v ∧ C w''
  | _ => False

theorem looseUpon.some {P : Program} {C : World → Prop} {V : Value → Prop} {r : Result Next} (h : looseUpon P C V r) : ∃ v, V v := by
  unfold looseUpon at h
  split at h
  · exact ⟨_, h.1⟩
  · obtain ⟨_, _, _, ⟨v, _, hv, _⟩, _⟩ := h []
    exact ⟨v, hv⟩
  · exact h.elim

section
variable {P : Program} {ops : Array Oper} {C : World → Prop} {md : Region.Mode} {Q : Exit → Act → World → Prop}

/-- The values that an operation may leave in its slot, in every world of C: one, the world being as it was (kind none); those of V, the world being of C (kind 'some V'). -/
def Gives (P : Program) (ops : Array Oper) (C : World → Prop) (kd : Option (Value → Prop)) (o : Oper) (a : Act) (S : Value → Prop) : Prop :=
  if Region.wanted o (yielded ops a.tmps) = true then
    match kd with
    | none => ∃ v, S = (fun u => u = v) ∧ ∀ w, C w → (execOp a.eval o).run P w = .ok (.value v) w
    | some V => S = V ∧ ∀ w, C w → looseUpon P C V ((execOp a.eval o).run P w)
  else S = fun u => u = undef

theorem Gives.move {kd : Option (Value → Prop)} {o : Oper} {a a' : Act} {S : Value → Prop} (h : Gives P ops C kd o a S) (he : execOp a'.eval o = execOp a.eval o)
    (hw : Region.wanted o (yielded ops a'.tmps) = Region.wanted o (yielded ops a.tmps)) : Gives P ops C kd o a' S := by
  unfold Gives at *
  rw [he, hw]
  exact h

theorem Gives.one {kd : Option (Value → Prop)} {o : Oper} {a : Act} {S T : Value → Prop} {w : World} (hC : C w) (h : Gives P ops C kd o a S) (k : Gives P ops C kd o a T) : S = T := by
  unfold Gives at *
  split at h
  · rename_i hw
    rw [if_pos hw] at k
    cases kd with
    | none =>
      obtain ⟨v, rfl, hv⟩ := h
      obtain ⟨u, rfl, hu⟩ := k
      have e := (hv w hC).symm.trans (hu w hC)
      injection e with e1 _
      injection e1 with e2
      rw [e2]
    | some V => exact h.1.trans k.1.symm
  · rename_i hw
    rw [if_neg hw] at k
    exact h.trans k.symm

theorem Gives.ex {kd : Option (Value → Prop)} {o : Oper} {a : Act} {S : Value → Prop} {w : World} (hC : C w) (h : Gives P ops C kd o a S) : ∃ v, S v := by
  unfold Gives at h
  split at h
  · cases kd with
    | none => obtain ⟨v, rfl, _⟩ := h; exact ⟨v, rfl⟩
    | some V => obtain ⟨rfl, hv⟩ := h; exact (hv w hC).some
  · exact ⟨undef, by rw [h]⟩

/-- One operation. -/
def lStep (P : Program) (ops : Array Oper) (C : World → Prop) (kd : Option (Value → Prop)) (o : Oper) (K : Act → Prop) (a : Act) : Prop :=
  ∃ S, Gives P ops C kd o a S ∧ ∀ v, S v → K (a.put o.dst v)

theorem wpOp_of_lStep {kd : Option (Value → Prop)} {o : Oper} {K : Act → Prop} {a : Act} {i : Nat} {w : World} {K' : Act → World → Prop} (hi : ops[i]? = some o) (hC : C w)
    (hK : ∀ a' w', C w' → K a' → K' a' w') (h : lStep P ops C kd o K a) : wpOp P ops Q i K' a w := by
  obtain ⟨S, hS, hn⟩ := h
  unfold Gives at hS
  unfold wpOp
  rw [hi]
  dsimp only
  split at hS
  · rename_i hw
    rw [if_pos hw]
    refine .inl ?_
    unfold Oper.wp
    cases kd with
    | none =>
      obtain ⟨v, rfl, hv⟩ := hS
      rw [hv w hC]
      exact hK _ _ hC (hn v rfl)
    | some V =>
      obtain ⟨rfl, hv⟩ := hS
      have h1 := hv w hC
      generalize (execOp a.eval o).run P w = r at h1
      unfold looseUpon at h1
      split at h1
      · exact hK _ _ h1.2 (hn _ h1.1)
      · refine Calls.mono h1 fun e w'' ⟨v, he, hV, hc⟩ => ?_
        subst he
        exact hK _ _ hc (hn _ hV)
      · exact h1.elim
  · rename_i hw
    rw [if_neg hw]
    exact hK _ _ hC (hn undef (by rw [hS]))

/-- Whatever order is picked, till only the last operation (number m) is left; then F. -/
def wpAnyL (P : Program) (md : Region.Mode) (ops : Array Oper) (C : World → Prop) (kinds : Nat → Option (Value → Prop)) (m : Nat) (F : Act → Prop) : Nat → Array Bool → Act → Prop
  | 0, listed, a => (∀ k, k < m → listed.getD k true = true) ∧ m ∈ Region.ready md ops listed ∧ F a
  | fuel + 1, listed, a => Region.ready md ops listed ≠ [] ∧ ∀ i ∈ Region.ready md ops listed, ∃ o, ops[i]? = some o ∧ lStep P ops C (kinds i) o (wpAnyL P md ops C kinds m F fuel (listed.setIfInBounds i true)) a

/-- The last operation waits for all others. -/
def lastWaits (md : Region.Mode) (ops : Array Oper) (m : Nat) : Bool :=
  ops.size == m + 1 && match ops[m]? with
    | some o => (List.range m).all fun k => o.after.any fun e => Region.binds md e && e.on == k
    | none => false

theorem lastWaits_spec {m : Nat} (h : lastWaits md ops m = true) {listed : Array Bool} (hr : m ∈ Region.ready md ops listed) : ∀ k, k < m → listed.getD k false = true := by
  intro k hk
  simp only [lastWaits, Bool.and_eq_true] at h
  obtain ⟨_, o, ho, hall⟩ := mem_ready.1 hr
  rw [ho] at h
  have h2 := List.all_eq_true.1 h.2 k (List.mem_range.2 hk)
  obtain ⟨e, he, hb⟩ := Array.any_eq_true'.1 h2
  simp only [Bool.and_eq_true, beq_iff_eq] at hb
  have := hall e he hb.1
  rw [hb.2] at this
  exact this

theorem lt_of_ready {i : Nat} {listed : Array Bool} (h : i ∈ Region.ready md ops listed) : i < ops.size := by
  obtain ⟨_, o, ho, _⟩ := mem_ready.1 h
  exact (Array.getElem?_eq_some_iff.1 ho).1

theorem getD_true_of {listed : Array Bool} {k : Nat} (h : listed.getD k false = true) : listed.getD k true = true := by
  rcases Nat.lt_or_ge k listed.size with h' | h'
  · simp [h'] at h ⊢; exact h
  · simp [Array.getElem?_eq_none h']

/-- An operation that may come up now may be taken first. -/
theorem wpAnyL_first {kinds : Nat → Option (Value → Prop)} {m : Nat} {F : Act → Prop} {w0 : World} (hC : C w0) (hL : lastWaits md ops m = true) {i : Nat} (him : i < m) {oi : Oper} (hi : ops[i]? = some oi)
    (hsel : ∀ (j : Nat) (o : Oper) cs b, ops[j]? = some o → o.op ≠ .select cs b) {S : Value → Prop} :
    ∀ (fuel : Nat) (listed : Array Bool) (a : Act),
      (∀ j oj, ops[j]? = some oj → j ≠ i → listed.getD j true = false → (∀ e ∈ oj.after, Region.binds md e = true → e.on ≠ i) → oi.apart ops oj = true) →
      i ∈ Region.ready md ops listed → Gives P ops C (kinds i) oi a S →
      (∀ v, S v → wpAnyL P md ops C kinds m F fuel (listed.setIfInBounds i true) (a.put oi.dst v)) → wpAnyL P md ops C kinds m F (fuel + 1) listed a := by
  have small : ∀ (listed : Array Bool) (j : Nat), i ∈ Region.ready md ops listed → j ∈ Region.ready md ops listed → j < m := by
    intro listed j hr hj
    have h1 := lt_of_ready hj
    have h2 : ops.size = m + 1 := by simp only [lastWaits, Bool.and_eq_true, beq_iff_eq] at hL; exact hL.1
    rcases Nat.lt_or_ge j m with h | h
    · exact h
    · obtain rfl : j = m := by omega
      have h3 := getD_true_of (lastWaits_spec hL hj i him)
      rw [(mem_ready.1 hr).1] at h3
      cases h3
  intro fuel
  induction fuel with
  | zero =>
    intro listed a _ hr hG H
    refine ⟨fun h => (by rw [h] at hr; cases hr), fun j hj => ?_⟩
    by_cases hji : j = i
    · subst hji; exact ⟨oi, hi, S, hG, H⟩
    · obtain ⟨v, hv⟩ := hG.ex hC
      have h1 := (H v hv).1 j (small listed j hr hj)
      rw [getD_set_ne true (Ne.symm hji), (mem_ready.1 hj).1] at h1
      cases h1
  | succ fuel ih =>
    intro listed a hfree hr hG H
    refine ⟨fun h => (by rw [h] at hr; cases hr), fun j hj => ?_⟩
    by_cases hji : j = i
    · subst hji; exact ⟨oi, hi, S, hG, H⟩
    · obtain ⟨hjun, oj, hoj, hall⟩ := mem_ready.1 hj
      have hnot : ∀ e ∈ oj.after, Region.binds md e = true → e.on ≠ i := by
        intro e he hb heq
        have h1 := getD_true_of (hall e he hb)
        rw [heq, (mem_ready.1 hr).1] at h1
        cases h1
      obtain ⟨h1, h2, h3⟩ := Oper.apart_spec (hfree j oj hoj hji hjun hnot)
      have hsi := fun cs b => hsel i oi cs b hi
      have hsj := fun cs b => hsel j oj cs b hoj
      -- what j gives does not hang on i's value
      have got : ∀ v, S v → ∃ T, Gives P ops C (kinds j) oj a T ∧ ∀ u, T u → wpAnyL P md ops C kinds m F fuel ((listed.setIfInBounds i true).setIfInBounds j true) ((a.put oi.dst v).put oj.dst u) := by
        intro v hv
        obtain ⟨o', ho', T, hT, hn⟩ := (H v hv).2 j (ready_mono hj hji)
        rw [hoj] at ho'
        cases ho'
        exact ⟨T, hT.move (execOp_put oj hsj a oi.dst v h1).symm (wanted_put oj a oi.dst v h1).symm, hn⟩
      obtain ⟨v0, hv0⟩ := hG.ex hC
      obtain ⟨T, hT, _⟩ := got v0 hv0
      refine ⟨oj, hoj, T, hT, fun u hu => ih (listed.setIfInBounds j true) (a.put oj.dst u) ?_ (ready_mono hr (Ne.symm hji)) (hG.move (execOp_put oi hsi a oj.dst u h3) (wanted_put oi a oj.dst u h3)) fun v hv => ?_⟩
      · intro k ok hk hki hun hno
        refine hfree k ok hk hki ?_ hno
        by_cases hjk : j = k
        · subst hjk; exact hjun
        · rw [getD_set_ne true hjk] at hun; exact hun
      · obtain ⟨T', hT', hn⟩ := got v hv
        have e := Gives.one hC hT hT'
        subst e
        have := hn u hu
        rw [Array.setIfInBounds_comm _ _ (Ne.symm hji)] at this
        rw [← Act.put_comm a v u h2]
        exact this

theorem wpAny_of_L {kinds : Nat → Option (Value → Prop)} {m : Nat} {last : Oper} (hL : lastWaits md ops m = true) (hm : ops[m]? = some last) :
    ∀ (fuel : Nat) (listed : Array Bool) (a : Act) (w : World), C w → wpAnyL P md ops C kinds m (fun a => ∀ w, C w → wpList P ops Q [last] a w) fuel listed a → wpAny P md ops Q (fuel + 1) listed a w := by
  have hsz : ops.size = m + 1 := by simp only [lastWaits, Bool.and_eq_true, beq_iff_eq] at hL; exact hL.1
  intro fuel
  induction fuel with
  | zero =>
    intro listed a w hw h
    obtain ⟨hall, hr, hF⟩ := h
    refine ⟨fun h0 => (by rw [h0] at hr; cases hr), fun i hi => ?_⟩
    have hlt := lt_of_ready hi
    obtain rfl : i = m := by
      rcases Nat.lt_or_ge i m with h' | h'
      · have := hall i h'; rw [(mem_ready.1 hi).1] at this; cases this
      · omega
    have hend : Region.ready md ops (listed.setIfInBounds i true) = [] := by
      refine List.eq_nil_iff_forall_not_mem.2 fun j hj => ?_
      have hjl := lt_of_ready hj
      have h0 := (mem_ready.1 hj).1
      by_cases hji : j = i
      · subst hji
        rcases Nat.lt_or_ge j listed.size with h' | h'
        · simp [h'] at h0
        · simp [h'] at h0
      · rw [getD_set_ne true (Ne.symm hji), hall j (by omega)] at h0
        cases h0
    have h1 := hF w hw
    unfold wpList at h1
    unfold wpOp
    rw [hm]
    dsimp only
    split at h1
    · rename_i hwd
      rw [if_pos hwd]
      exact h1.imp (Oper.wp_mono fun a' w' h' => ⟨hend, h'⟩) id
    · rename_i hwd
      rw [if_neg hwd]
      exact ⟨hend, h1⟩
  | succ fuel ih =>
    intro listed a w hw h
    refine ⟨fun h0 => absurd h0 h.1, fun i hi => ?_⟩
    obtain ⟨o, ho, hs⟩ := h.2 i hi
    exact wpOp_of_lStep ho hw (fun a' w' hw' hk => ih _ a' w' hw' hk) hs

/-- The walk in the order of the text, a kind beside each operation; the last operation is left to the plain walk. -/
def wpLoose (P : Program) (ops : Array Oper) (C : World → Prop) (Q : Exit → Act → World → Prop) : List (Option (Value → Prop)) → List Oper → Act → Prop
  | _, [], _ => False
  | _, [o], a => ∀ w, C w → wpList P ops Q [o] a w
  | kds, o :: o2 :: rest, a => lStep P ops C (kds.headD none) o (wpLoose P ops C Q kds.tail (o2 :: rest)) a

theorem wpAnyL_lex {m : Nat} {w0 : World} (hC : C w0) (hs : Region.noSelect ops = true) (hL : lastWaits md ops m = true) {last : Oper} (hlast : ops[m]? = some last) {kinds : Nat → Option (Value → Prop)} :
    ∀ (l : List Oper) (kds : List (Option (Value → Prop))) (k : Nat) (listed : Array Bool) (a : Act), (∀ j, l[j]? = ops[k + j]?) → (∀ j, kinds (k + j) = kds.getD j none) → k + l.length = m + 1 →
      (∀ j, j < k → listed.getD j true = true) → Region.lexFrom md ops l.length k listed = true → wpLoose P ops C Q kds l a →
      wpAnyL P md ops C kinds m (fun a => ∀ w, C w → wpList P ops Q [last] a w) (l.length - 1) listed a
  | [], _, _, _, _, _, _, _, _, _, h => h.elim
  | [o], kds, k, listed, a, hl, hk, hn, hd, hB, h => by
    have h0 : ops[k]? = some o := by simpa using (hl 0).symm
    have hkm : k = m := by simp at hn; omega
    subst hkm
    rw [hlast] at h0
    cases h0
    simp only [List.length_cons, List.length_nil, Region.lexFrom, Bool.and_eq_true] at hB
    exact ⟨hd, by simpa using hB.1.1, h⟩
  | o :: o2 :: l, kds, k, listed, a, hl, hk, hn, hd, hB, h => by
    have h0 : ops[k]? = some o := by simpa using (hl 0).symm
    have hkm : k < m := by simp at hn; omega
    simp only [List.length_cons, Region.lexFrom, Bool.and_eq_true] at hB
    obtain ⟨⟨hr, hf⟩, hB'⟩ := hB
    obtain ⟨S, hS, hK⟩ := h
    have e0 : kinds k = kds.headD none := by have := hk 0; cases kds <;> simpa using this
    rw [← e0] at hS
    have hr' : k ∈ Region.ready md ops listed := by simpa using hr
    have hsz := lt_of_ready hr'
    refine wpAnyL_first hC hL hkm h0 (Region.noSelect_spec hs) _ listed a (Region.free_spec h0 hf) hr' hS fun v hv => ?_
    refine wpAnyL_lex hC hs hL hlast (o2 :: l) kds.tail (k + 1) _ _ (fun j => ?_) (fun j => ?_) (by simp at hn ⊢; omega) (fun j hj => ?_) (by simpa [Region.lexFrom] using hB') (hK v hv)
    · have := hl (j + 1); simpa [Nat.add_assoc, Nat.add_comm 1 j] using this
    · have := hk (j + 1)
      rw [Nat.add_assoc, Nat.add_comm 1 j, this]
      cases kds <;> simp
    · by_cases hjk : j = k
      · subst hjk
        have h1 := (mem_ready.1 hr').1
        rcases Nat.lt_or_ge j listed.size with h' | h'
        · simp [h']
        · simp [h']
      · rw [getD_set_ne true (Ne.symm hjk)]
        exact hd j (by omega)

/-- The law: a region that draws, written out. 'm': its last operation's number. -/
theorem wp_region_loose {id : Nat} {a : Act} {w : World} {l : List Oper} (C : World → Prop) (kds : List (Option (Value → Prop))) (m : Nat) (hm : P.follows .mixedOrders = true) (hB : Region.lexB .any l.toArray = true)
    (hL : lastWaits .any l.toArray m = true) (hC : C w.drew) (h : wpLoose P l.toArray C Q kds l a) : (Code.region id l.toArray true).wp P Q a w := by
  simp only [Region.lexB, Bool.and_eq_true] at hB
  have hsz : l.length = m + 1 := by have := hL; simp only [lastWaits, Bool.and_eq_true, beq_iff_eq] at this; simpa using this.1
  obtain ⟨last, hlast⟩ : ∃ o, l.toArray[m]? = some o := ⟨l[m]'(by omega), by simp⟩
  refine wp_region_any hm ?_
  have h1 := wpAnyL_lex (P := P) (Q := Q) (kinds := fun j => kds.getD j none) hC hB.1 hL hlast l kds 0 (Array.replicate l.toArray.size false) a (by simp) (by simp) (by omega) (by simp) (by simpa using hB.2) h
  have h2 := wpAny_of_L hL hlast _ _ _ _ hC h1
  have e : l.length - 1 + 1 = l.toArray.size := by simp; omega
  rw [e] at h2
  exact h2

/-! The steps -/
theorem loose_step {kds : List (Option (Value → Prop))} {o o2 : Oper} {rest : List Oper} {a : Act} (h : ∀ K : Act → Prop, (∀ a, wpLoose P ops C Q kds.tail (o2 :: rest) a → K a) → lStep P ops C (kds.headD none) o K a) :
    wpLoose P ops C Q kds (o :: o2 :: rest) a := h _ fun _ h => h
theorem lStep_one {o : Oper} {a : Act} {K : Act → Prop} (hw : Region.wanted o (yielded ops a.tmps) = true) (v : Value) (h : ∀ w, C w → (execOp a.eval o).run P w = .ok (.value v) w) (hK : K (a.put o.dst v)) : lStep P ops C none o K a :=
  ⟨fun u => u = v, by unfold Gives; rw [if_pos hw]; exact ⟨v, rfl, h⟩, fun u hu => by subst hu; exact hK⟩
theorem lStep_any {o : Oper} {a : Act} {K : Act → Prop} {V : Value → Prop} (hw : Region.wanted o (yielded ops a.tmps) = true) (h : ∀ w, C w → looseUpon P C V ((execOp a.eval o).run P w)) (hK : ∀ v, V v → K (a.put o.dst v)) : lStep P ops C (some V) o K a :=
  ⟨V, by unfold Gives; rw [if_pos hw]; exact ⟨rfl, h⟩, hK⟩
theorem lStep_skip {kd : Option (Value → Prop)} {o : Oper} {a : Act} {K : Act → Prop} (hw : Region.wanted o (yielded ops a.tmps) = false) (hK : K (a.put o.dst undef)) : lStep P ops C kd o K a :=
  ⟨fun u => u = undef, by unfold Gives; rw [if_neg (by rw [hw]; exact Bool.false_ne_true)], fun u hu => by subst hu; exact hK⟩
end
end Go.Proofs.YtijoaklknpkdoaaGreat.Fl

namespace Go.Proofs.YtijoaklknpkdoaaGreat.Fl
open Go.RowKit

theorem Sm.of_eq {x y : Nat} (h : x = y) : Sm x y := h ▸ Sm.refl x
theorem _root_.Go.Proofs.YtijoaklknpkdoaaGreat.hid {p : Prop} (h : p) : Hid p := h
/-- A float, up to which NaN. -/
def isF (z : Nat) (v : Value) : Prop := ∃ r, v = .float .f64 r ∧ Eqv r z
/-- A vector, likewise. -/
def isV (x y z : Nat) (v : Value) : Prop := ∃ a b c, v = .agg #[.float .f64 a, .float .f64 b, .float .f64 c] ∧ Eqv a x ∧ Eqv b y ∧ Eqv c z

theorem isV.to {x y z x' y' z' : Nat} (hx : x = x') (hy : y = y') (hz : z = z') : ∀ v, isV x y z v → isV x' y' z' v := by
  subst hx; subst hy; subst hz; exact fun _ h => h

theorem below_dr {B : Nat} {a w : World} (h : Below B a w) (n : Nat) : Below B a (w.drewN n) := ⟨h.os, h.tape, h.output, h.size, h.block⟩

/-- The call returns a value of V; nothing that was there is turned. -/
def Ret (P : Program) (f : FuncId) (args : Array Value) (w : World) (V : Value → Prop) : Prop :=
  Calls P f args w fun e w' => ∃ v, e = .returned v ∧ V v ∧ Below w.heap.size w w'

theorem Ret.mono {P : Program} {f : FuncId} {args : Array Value} {w : World} {V V' : Value → Prop} (h : Ret P f args w V) (hv : ∀ v, V v → V' v) : Ret P f args w V' :=
  Calls.mono h fun _ _ ⟨v, he, hV, hb⟩ => ⟨v, he, hv v hV, hb⟩

section
variable {P : Program}
/-- The walk's law at an operation on floats. -/
theorem upon_fbin {o : Oper} {a : Act} {K : Act → World → Prop} {Q : Exit → Act → World → Prop} {op : BinOp} {t : TypeId} {x y : Nat} {w : World} (hop : op = .add ∨ op = .sub ∨ op = .mul ∨ op = .quo)
    (h : ∀ r n, Eqv r (fbin op x y) → Oper.upon P o a K Q (.ok (.value (.float .f64 r)) (w.drewN n))) :
    Oper.upon P o a K Q ((Sem.run P (binOp op t (.float .f64 x) (.float .f64 y)) w).andThen fun a w' => Result.ok (Next.value a) w') := by
  obtain ⟨r, n, e, hr⟩ := run_fbin (P := P) op hop t x y w
  rw [e]
  exact h r n hr
theorem upon_add {o : Oper} {a : Act} {K : Act → World → Prop} {Q : Exit → Act → World → Prop} {t : TypeId} {x y X Y : Nat} {w : World} (hx : Sm x X) (hy : Sm y Y)
    (h : ∀ r n, Eqv r (fadd X Y) → Oper.upon P o a K Q (.ok (.value (.float .f64 r)) (w.drewN n))) :
    Oper.upon P o a K Q ((Sem.run P (binOp .add t (.float .f64 x) (.float .f64 y)) w).andThen fun a w' => Result.ok (Next.value a) w') :=
  upon_fbin (.inl rfl) fun r n hr => h r n (hr.to (Sm.of_eq (fadd_congr hx hy)))
theorem upon_sub {o : Oper} {a : Act} {K : Act → World → Prop} {Q : Exit → Act → World → Prop} {t : TypeId} {x y X Y : Nat} {w : World} (hx : Sm x X) (hy : Sm y Y)
    (h : ∀ r n, Eqv r (fsub X Y) → Oper.upon P o a K Q (.ok (.value (.float .f64 r)) (w.drewN n))) :
    Oper.upon P o a K Q ((Sem.run P (binOp .sub t (.float .f64 x) (.float .f64 y)) w).andThen fun a w' => Result.ok (Next.value a) w') :=
  upon_fbin (.inr (.inl rfl)) fun r n hr => h r n (hr.to (Sm.of_eq (fsub_congr hx hy)))
theorem upon_mul {o : Oper} {a : Act} {K : Act → World → Prop} {Q : Exit → Act → World → Prop} {t : TypeId} {x y X Y : Nat} {w : World} (hx : Sm x X) (hy : Sm y Y)
    (h : ∀ r n, Eqv r (fmul X Y) → Oper.upon P o a K Q (.ok (.value (.float .f64 r)) (w.drewN n))) :
    Oper.upon P o a K Q ((Sem.run P (binOp .mul t (.float .f64 x) (.float .f64 y)) w).andThen fun a w' => Result.ok (Next.value a) w') :=
  upon_fbin (.inr (.inr (.inl rfl))) fun r n hr => h r n (hr.to (Sm.of_eq (fmul_congr hx hy)))
theorem upon_div {o : Oper} {a : Act} {K : Act → World → Prop} {Q : Exit → Act → World → Prop} {t : TypeId} {x y X Y : Nat} {w : World} (hx : Sm x X) (hy : Sm y Y)
    (h : ∀ r n, Eqv r (fdiv X Y) → Oper.upon P o a K Q (.ok (.value (.float .f64 r)) (w.drewN n))) :
    Oper.upon P o a K Q ((Sem.run P (binOp .quo t (.float .f64 x) (.float .f64 y)) w).andThen fun a w' => Result.ok (Next.value a) w') :=
  upon_fbin (.inr (.inr (.inr rfl))) fun r n hr => h r n (hr.to (Sm.of_eq (fdiv_congr hx hy)))

theorem loose_fbin {C : World → Prop} {V : Value → Prop} {op : BinOp} {t : TypeId} {x y : Nat} {w : World} (hop : op = .add ∨ op = .sub ∨ op = .mul ∨ op = .quo)
    (hC : ∀ n, C (w.drewN n)) (h : ∀ r, Eqv r (fbin op x y) → V (.float .f64 r)) :
    looseUpon P C V ((Sem.run P (binOp op t (.float .f64 x) (.float .f64 y)) w).andThen fun a w' => Result.ok (Next.value a) w') := by
  obtain ⟨r, n, e, hr⟩ := run_fbin (P := P) op hop t x y w
  rw [e]
  exact ⟨h r hr, hC n⟩
theorem loose_add {C : World → Prop} {t : TypeId} {x y X Y : Nat} {w : World} (hx : Sm x X) (hy : Sm y Y) (hC : ∀ n, C (w.drewN n)) :
    looseUpon P C (isF (fadd X Y)) ((Sem.run P (binOp .add t (.float .f64 x) (.float .f64 y)) w).andThen fun a w' => Result.ok (Next.value a) w') :=
  loose_fbin (.inl rfl) hC fun r hr => ⟨r, rfl, hr.to (Sm.of_eq (fadd_congr hx hy))⟩
theorem loose_sub {C : World → Prop} {t : TypeId} {x y X Y : Nat} {w : World} (hx : Sm x X) (hy : Sm y Y) (hC : ∀ n, C (w.drewN n)) :
    looseUpon P C (isF (fsub X Y)) ((Sem.run P (binOp .sub t (.float .f64 x) (.float .f64 y)) w).andThen fun a w' => Result.ok (Next.value a) w') :=
  loose_fbin (.inr (.inl rfl)) hC fun r hr => ⟨r, rfl, hr.to (Sm.of_eq (fsub_congr hx hy))⟩
theorem loose_mul {C : World → Prop} {t : TypeId} {x y X Y : Nat} {w : World} (hx : Sm x X) (hy : Sm y Y) (hC : ∀ n, C (w.drewN n)) :
    looseUpon P C (isF (fmul X Y)) ((Sem.run P (binOp .mul t (.float .f64 x) (.float .f64 y)) w).andThen fun a w' => Result.ok (Next.value a) w') :=
  loose_fbin (.inr (.inr (.inl rfl))) hC fun r hr => ⟨r, rfl, hr.to (Sm.of_eq (fmul_congr hx hy))⟩
theorem loose_div {C : World → Prop} {t : TypeId} {x y X Y : Nat} {w : World} (hx : Sm x X) (hy : Sm y Y) (hC : ∀ n, C (w.drewN n)) :
    looseUpon P C (isF (fdiv X Y)) ((Sem.run P (binOp .quo t (.float .f64 x) (.float .f64 y)) w).andThen fun a w' => Result.ok (Next.value a) w') :=
  loose_fbin (.inr (.inr (.inr rfl))) hC fun r hr => ⟨r, rfl, hr.to (Sm.of_eq (fdiv_congr hx hy))⟩

/-- The class of worlds of a region: what stood at its head is as it was. -/
def Cl (W : World) : World → Prop := fun w' => Below W.heap.size W w'
theorem Cl.drew (W : World) : Cl W W.drew := (Below.refl _ _).drew
theorem Cl.drewN {W w : World} (h : Cl W w) (n : Nat) : Cl W (w.drewN n) := below_dr h n
theorem Cl.call {W w w' : World} (h : Cl W w) (hb : Below w.heap.size w w') : Cl W w' := Below.trans h (hb.mono h.size)

theorem Cl.alloc {W w : World} (h : Cl W w) (o : Obj) : Cl W (w.alloc o) := Below.alloc h h.size o
theorem Cl.setCell {W w : World} (h : Cl W w) {p : Addr} (hp : W.heap.size ≤ p.block) (u : Value) : Cl W (w.setCell p u) := Below.setCell h hp u
theorem Cl.out1 {w w' : World} {o1 : Obj} (h : Cl (w.alloc o1) w') : Below w.heap.size w w' :=
  ((Below.refl _ _).alloc (Nat.le_refl _) _).trans (Below.mono h (by simp))
theorem Cl.out2 {w w' : World} {o1 o2 : Obj} (h : Cl ((w.alloc o1).alloc o2) w') : Below w.heap.size w w' :=
  (((Below.refl _ _).alloc (Nat.le_refl _) _).alloc (by simp) _).trans (Below.mono h (by simp; omega))
theorem Cl.out3 {w w' : World} {o1 o2 o3 : Obj} (h : Cl (((w.alloc o1).alloc o2).alloc o3) w') : Below w.heap.size w w' :=
  ((((Below.refl _ _).alloc (Nat.le_refl _) _).alloc (by simp) _).alloc (by simp; omega) _).trans (Below.mono h (by simp; omega))

theorem loose_ret {f : FuncId} {args : Array Value} {V : Value → Prop} {W w : World} (h : Ret P f args w V) (hw : Cl W w) : looseUpon P (Cl W) V (.ok (.enter f args) w) :=
  Calls.mono h fun _ _ ⟨v, he, hV, hb⟩ => ⟨v, he, hV, hw.call hb⟩

/-- A step whose value is told up to V. -/
theorem loose_any {ops : Array Oper} {C : World → Prop} {Q : Exit → Act → World → Prop} {V : Value → Prop} {kds : List (Option (Value → Prop))} {o o2 : Oper} {rest : List Oper} {a : Act} (hw : Region.wanted o (yielded ops a.tmps) = true)
    (h : ∀ w, C w → looseUpon P C V ((execOp a.eval o).run P w)) (hK : ∀ K : Act → Prop, (∀ a, wpLoose P ops C Q kds (o2 :: rest) a → K a) → ∀ v, V v → K (a.put o.dst v)) : wpLoose P ops C Q (some V :: kds) (o :: o2 :: rest) a :=
  loose_step fun K hk => lStep_any hw h (hK K hk)
/-- A step that gives one value. -/
theorem loose_one {ops : Array Oper} {C : World → Prop} {Q : Exit → Act → World → Prop} {kds : List (Option (Value → Prop))} {o o2 : Oper} {rest : List Oper} {a : Act} (v : Value) (hw : Region.wanted o (yielded ops a.tmps) = true)
    (h : ∀ w, C w → (execOp a.eval o).run P w = .ok (.value v) w) (hK : ∀ K : Act → Prop, (∀ a, wpLoose P ops C Q kds (o2 :: rest) a → K a) → K (a.put o.dst v)) : wpLoose P ops C Q (none :: kds) (o :: o2 :: rest) a :=
  loose_step fun K hk => lStep_one hw v h (hK K hk)

@[go_sem] theorem run_store_float (w : World) (a : Addr) (k : FloatKind) (x : Nat) (m : Mode) : (store a (.float k x) m).run P w = stored P w a (.float k x) m := run_store P w a _ m rfl

@[go_sem] theorem run_equalIn_float (w : World) (d : Nat) (t : TypeId) (k k' : FloatKind) (a b : Nat) (h : P.underlying t = some (.float k')) : (Op.equalIn (d + 1) t (.float k a) (.float k b)).run P w = .ok (Op.floatEq k a b) w := by
  simp [Op.equalIn, run_underlying h]
/-- Three comparisons, one behind the other. -/
theorem ite_three (a b c : Bool) (w : World) : (if a = false then Result.ok (Next.value (.bool false)) w else if b = false then .ok (.value (.bool false)) w else if c = false then .ok (.value (.bool false)) w else .ok (.value (.bool true)) w) = .ok (.value (.bool (a && b && c))) w := by
  cases a <;> cases b <;> cases c <;> rfl

/-- Three cells of a block. -/
theorem Cl.three {W w' : World} (h : Cl W w') {b : Nat} {x y z : Value} (hx : W.cell? ⟨b, 0, none⟩ = some x) (hy : W.cell? ⟨b, 1, none⟩ = some y) (hz : W.cell? ⟨b, 2, none⟩ = some z) (hb : b < W.heap.size) :
    w'.cell? ⟨b, 0, none⟩ = some x ∧ w'.cell? ⟨b, 1, none⟩ = some y ∧ w'.cell? ⟨b, 2, none⟩ = some z :=
  ⟨(h.cell (p := ⟨b, 0, none⟩) hb).trans hx, (h.cell (p := ⟨b, 1, none⟩) hb).trans hy, (h.cell (p := ⟨b, 2, none⟩) hb).trans hz⟩
theorem Cl.next3 {W w' : World} (h : Cl W w') {b : Nat} {x y z : Value} (hx : W.cell? ⟨b, 3, none⟩ = some x) (hy : W.cell? ⟨b, 4, none⟩ = some y) (hz : W.cell? ⟨b, 5, none⟩ = some z) (hb : b < W.heap.size) :
    w'.cell? ⟨b, 3, none⟩ = some x ∧ w'.cell? ⟨b, 4, none⟩ = some y ∧ w'.cell? ⟨b, 5, none⟩ = some z :=
  ⟨(h.cell (p := ⟨b, 3, none⟩) hb).trans hx, (h.cell (p := ⟨b, 4, none⟩) hb).trans hy, (h.cell (p := ⟨b, 5, none⟩) hb).trans hz⟩
theorem Cl.frz {W w' : World} (h : Cl W w') {b : Nat} (f0 : W.frozen? ⟨b, 0, none⟩ = false) (f1 : W.frozen? ⟨b, 1, none⟩ = false) (f2 : W.frozen? ⟨b, 2, none⟩ = false) (hb : b < W.heap.size) :
    w'.frozen? ⟨b, 0, none⟩ = false ∧ w'.frozen? ⟨b, 1, none⟩ = false ∧ w'.frozen? ⟨b, 2, none⟩ = false :=
  ⟨(h.frozen (p := ⟨b, 0, none⟩) hb).trans f0, (h.frozen (p := ⟨b, 1, none⟩) hb).trans f1, (h.frozen (p := ⟨b, 2, none⟩) hb).trans f2⟩
end
end Go.Proofs.YtijoaklknpkdoaaGreat.Fl

namespace Go.Proofs.YtijoaklknpkdoaaGreat.Fl
section
variable {H : Type} {enc : TypeId × Value → H} {P : Program} {w : World} {base : Nat} {spare : Nat → Bool} {held : Bool} {fuel : Nat} {t : TypeId} {cs : List Value} {x : DataW H × List MemPlace}
theorem trod_float {k : FloatKind} (ht : P.underlying t = some (.float k)) (h : DataW.trod enc P w base spare held fuel t cs = some x) : ∃ n, cs = [.float k n] ∧ x = (.lit (.float k n), []) ∧ (Lit.float k n).wf = true := by
  cases fuel with
  | zero => simp [DataW.trod] at h
  | succ n =>
    unfold DataW.trod at h
    rw [ht] at h
    split at h <;> simp_all
end
end Go.Proofs.YtijoaklknpkdoaaGreat.Fl
namespace Go.Proofs.YtijoaklknpkdoaaGreat
open Go.ChangeShapes Go.WideShapes Go.ChangeAt Go.RowKit Fl Go.Joins

theorem Tryz.own : ownKnob Tryz.prog.godebug = none := by kernel_rfl
theorem Tryz.laidOut : laidOutB Tryz.prog = true := by kernel_rfl

theorem Tryz.cells31 : Tryz.prog.cellsOf 31 = 3 := by kernel_rfl

set_option maxRecDepth 100000 in
theorem open_vec {H : Type} {enc : TypeId × Value → H} {W : World} {base : Nat} {spare : Nat → Bool} {held : Bool} {r : Reach} {b0 : Nat} {v : Value} {d : DataW H} {ps : List MemPlace} (hv : Value.okWide Tryz.prog W r b0 31 v) (h : DataW.Trod enc Tryz.prog W base spare held 31 v d ps) :
    ∃ x y z, v = .agg #[.float .f64 x, .float .f64 y, .float .f64 z] ∧ d = .agg [.lit (.float .f64 x), .lit (.float .f64 y), .lit (.float .f64 z)] ∧ ps = [] ∧
      (Lit.float .f64 x).wf = true ∧ (Lit.float .f64 y).wf = true ∧ (Lit.float .f64 z).wf = true := by
  obtain ⟨c0, c1, c2, y0, y1, y2, m, rfl, rfl, rfl, h0, h1, h2⟩ := open_agg3 Tryz.underlying31 (by kernel_rfl) Tryz.cells31 hv h
  obtain ⟨x, e0, rfl, wx⟩ := trod_float Tryz.underlying29 h0
  obtain ⟨y, e1, rfl, wy⟩ := trod_float Tryz.underlying29 h1
  obtain ⟨z, e2, rfl, wz⟩ := trod_float Tryz.underlying29 h2
  simp at e0 e1 e2
  subst e0 e1 e2
  exact ⟨x, y, z, rfl, rfl, rfl, wx, wy, wz⟩

theorem shut_vec {H : Type} {enc : TypeId × Value → H} {W : World} {base : Nat} {spare : Nat → Bool} {held : Bool} {x y z : Nat} (wx : (Lit.float .f64 x).wf = true) (wy : (Lit.float .f64 y).wf = true) (wz : (Lit.float .f64 z).wf = true) :
    DataW.Trod enc Tryz.prog W base spare held 31 (.agg #[.float .f64 x, .float .f64 y, .float .f64 z]) (.agg [.lit (.float .f64 x), .lit (.float .f64 y), .lit (.float .f64 z)]) [] :=
  shut_agg3 (y0 := (.lit (.float .f64 x), [])) (y1 := (.lit (.float .f64 y), [])) (y2 := (.lit (.float .f64 z), [])) Tryz.underlying31 (by kernel_rfl) Tryz.cells31
    ⟨1, by simp [DataW.trod, Tryz.underlying29, wx]⟩ ⟨1, by simp [DataW.trod, Tryz.underlying29, wy]⟩ ⟨1, by simp [DataW.trod, Tryz.underlying29, wz]⟩

end Go.Proofs.YtijoaklknpkdoaaGreat

namespace Go.Proofs.YtijoaklknpkdoaaGreat
open Go.ChangeShapes Go.WideShapes Go.ChangeAt Go.RowKit Fl Go.Joins Go.Deep

theorem array6 {α : Type} {cs : Array α} (h : cs.size = 6) : ∃ c0 c1 c2 c3 c4 c5, cs = #[c0, c1, c2, c3, c4, c5] := by
  obtain ⟨l⟩ := cs
  match l, h with
  | [c0, c1, c2, c3, c4, c5], _ => exact ⟨c0, c1, c2, c3, c4, c5, rfl⟩
theorem array9 {α : Type} {cs : Array α} (h : cs.size = 9) : ∃ c0 c1 c2 c3 c4 c5 c6 c7 c8, cs = #[c0, c1, c2, c3, c4, c5, c6, c7, c8] := by
  obtain ⟨l⟩ := cs
  match l, h with
  | [c0, c1, c2, c3, c4, c5, c6, c7, c8], _ => exact ⟨c0, c1, c2, c3, c4, c5, c6, c7, c8, rfl⟩
/-- Three words. -/
def Wf3 (x y z : Nat) : Prop := (Lit.float .f64 x).wf = true ∧ (Lit.float .f64 y).wf = true ∧ (Lit.float .f64 z).wf = true

theorem trod_vec {H : Type} {enc : TypeId × Value → H} {W : World} {base : Nat} {spare : Nat → Bool} {held : Bool} {n : Nat} {c0 c1 c2 : Value} {y : DataW H × List MemPlace} (h : DataW.trod enc Tryz.prog W base spare held n 31 [c0, c1, c2] = some y) :
    ∃ x y' z, c0 = .float .f64 x ∧ c1 = .float .f64 y' ∧ c2 = .float .f64 z ∧ y = (.agg [.lit (.float .f64 x), .lit (.float .f64 y'), .lit (.float .f64 z)], []) ∧ Wf3 x y' z := by
  obtain ⟨y0, y1, y2, m, hx, _, h0, h1, h2⟩ := trod_struct3 Tryz.underlying31 h
  have k : Tryz.prog.cellsOf 29 = 1 := by kernel_rfl
  simp only [k, List.drop_zero, List.drop_succ_cons, List.take_succ_cons, List.take_zero] at h0 h1 h2
  obtain ⟨x, e0, rfl, wx⟩ := trod_float Tryz.underlying29 h0
  obtain ⟨y', e1, rfl, wy⟩ := trod_float Tryz.underlying29 h1
  obtain ⟨z, e2, rfl, wz⟩ := trod_float Tryz.underlying29 h2
  simp at e0 e1 e2
  subst e0 e1 e2 hx
  exact ⟨x, y', z, rfl, rfl, rfl, rfl, wx, wy, wz⟩

theorem trod_vec_mk {H : Type} {enc : TypeId × Value → H} {W : World} {base : Nat} {spare : Nat → Bool} {held : Bool} {x y z : Nat} (h : Wf3 x y z) :
    DataW.trod enc Tryz.prog W base spare held 2 31 [.float .f64 x, .float .f64 y, .float .f64 z] = some (.agg [.lit (.float .f64 x), .lit (.float .f64 y), .lit (.float .f64 z)], []) := by
  have k : Tryz.prog.cellsOf 29 = 1 := by kernel_rfl
  refine trod_struct3_mk (n := 1) (y0 := (.lit (.float .f64 x), [])) (y1 := (.lit (.float .f64 y), [])) (y2 := (.lit (.float .f64 z), [])) Tryz.underlying31 (by rw [Tryz.cells31]; rfl) ?_ ?_ ?_ <;>
  simp only [k, List.drop_zero, List.drop_succ_cons, List.take_succ_cons, List.take_zero] <;> simp [DataW.trod, Tryz.underlying29, h.1, h.2.1, h.2.2]

theorem Tryz.cells42 : Tryz.prog.cellsOf 42 = 6 := by kernel_rfl

set_option maxRecDepth 100000 in
theorem open_box {H : Type} {enc : TypeId × Value → H} {W : World} {base : Nat} {spare : Nat → Bool} {held : Bool} {r : Reach} {b0 : Nat} {v : Value} {d : DataW H} {ps : List MemPlace} (hv : Value.okWide Tryz.prog W r b0 42 v) (h : DataW.Trod enc Tryz.prog W base spare held 42 v d ps) :
    ∃ x0 x1 x2 x3 x4 x5, v = .agg #[.float .f64 x0, .float .f64 x1, .float .f64 x2, .float .f64 x3, .float .f64 x4, .float .f64 x5] ∧ d = .agg [.agg [.lit (.float .f64 x0), .lit (.float .f64 x1), .lit (.float .f64 x2)], .agg [.lit (.float .f64 x3), .lit (.float .f64 x4), .lit (.float .f64 x5)]] ∧ ps = [] ∧ Wf3 x0 x1 x2 ∧ Wf3 x3 x4 x5 := by
  obtain ⟨cs, rfl, hsz⟩ := okWide_struct Tryz.underlying42 hv
  obtain ⟨c0, c1, c2, c3, c4, c5, rfl⟩ := array6 (hsz.trans Tryz.cells42)
  obtain ⟨fuel, hf⟩ := h
  obtain ⟨y0, y1, m, hx, _, h0, h1⟩ := trod_struct2 Tryz.underlying42 hf
  simp only [Value.cells, Tryz.cells31, List.drop_zero, List.drop_succ_cons, List.take_succ_cons, List.take_zero] at h0 h1
  obtain ⟨x0, x1, x2, rfl, rfl, rfl, rfl, w0⟩ := trod_vec h0
  obtain ⟨x3, x4, x5, rfl, rfl, rfl, rfl, w1⟩ := trod_vec h1
  simp only [Prod.mk.injEq] at hx
  exact ⟨x0, x1, x2, x3, x4, x5, rfl, hx.1, hx.2, w0, w1⟩

theorem shut_box {H : Type} {enc : TypeId × Value → H} {W : World} {base : Nat} {spare : Nat → Bool} {held : Bool} {x0 x1 x2 x3 x4 x5 : Nat} (w0 : Wf3 x0 x1 x2) (w1 : Wf3 x3 x4 x5) : DataW.Trod enc Tryz.prog W base spare held 42 (.agg #[.float .f64 x0, .float .f64 x1, .float .f64 x2, .float .f64 x3, .float .f64 x4, .float .f64 x5]) (.agg [.agg [.lit (.float .f64 x0), .lit (.float .f64 x1), .lit (.float .f64 x2)], .agg [.lit (.float .f64 x3), .lit (.float .f64 x4), .lit (.float .f64 x5)]]) [] := by
  refine ⟨3, ?_⟩
  refine trod_struct2_mk (n := 2) (y0 := (_, [])) (y1 := (_, [])) Tryz.underlying42 (by rw [Tryz.cells42]; rfl) ?_ ?_ <;>
  simp only [Value.cells, Tryz.cells31, List.drop_zero, List.drop_succ_cons, List.take_succ_cons, List.take_zero]
  · exact trod_vec_mk w0
  · exact trod_vec_mk w1

theorem Tryz.cells33 : Tryz.prog.cellsOf 33 = 9 := by kernel_rfl

set_option maxRecDepth 100000 in
theorem open_tri {H : Type} {enc : TypeId × Value → H} {W : World} {base : Nat} {spare : Nat → Bool} {held : Bool} {r : Reach} {b0 : Nat} {v : Value} {d : DataW H} {ps : List MemPlace} (hv : Value.okWide Tryz.prog W r b0 33 v) (h : DataW.Trod enc Tryz.prog W base spare held 33 v d ps) :
    ∃ x0 x1 x2 x3 x4 x5 x6 x7 x8, v = .agg #[.float .f64 x0, .float .f64 x1, .float .f64 x2, .float .f64 x3, .float .f64 x4, .float .f64 x5, .float .f64 x6, .float .f64 x7, .float .f64 x8] ∧ d = .agg [.agg [.lit (.float .f64 x0), .lit (.float .f64 x1), .lit (.float .f64 x2)], .agg [.lit (.float .f64 x3), .lit (.float .f64 x4), .lit (.float .f64 x5)], .agg [.lit (.float .f64 x6), .lit (.float .f64 x7), .lit (.float .f64 x8)]] ∧ ps = [] ∧ Wf3 x0 x1 x2 ∧ Wf3 x3 x4 x5 ∧ Wf3 x6 x7 x8 := by
  obtain ⟨cs, rfl, hsz⟩ := okWide_struct Tryz.underlying33 hv
  obtain ⟨c0, c1, c2, c3, c4, c5, c6, c7, c8, rfl⟩ := array9 (hsz.trans Tryz.cells33)
  obtain ⟨fuel, hf⟩ := h
  obtain ⟨y0, y1, y2, m, hx, _, h0, h1, h2⟩ := trod_struct3 Tryz.underlying33 hf
  simp only [Value.cells, Tryz.cells31, List.drop_zero, List.drop_succ_cons, List.take_succ_cons, List.take_zero] at h0 h1 h2
  obtain ⟨x0, x1, x2, rfl, rfl, rfl, rfl, w0⟩ := trod_vec h0
  obtain ⟨x3, x4, x5, rfl, rfl, rfl, rfl, w1⟩ := trod_vec h1
  obtain ⟨x6, x7, x8, rfl, rfl, rfl, rfl, w2⟩ := trod_vec h2
  simp only [Prod.mk.injEq] at hx
  exact ⟨x0, x1, x2, x3, x4, x5, x6, x7, x8, rfl, hx.1, hx.2, w0, w1, w2⟩

theorem shut_tri {H : Type} {enc : TypeId × Value → H} {W : World} {base : Nat} {spare : Nat → Bool} {held : Bool} {x0 x1 x2 x3 x4 x5 x6 x7 x8 : Nat} (w0 : Wf3 x0 x1 x2) (w1 : Wf3 x3 x4 x5) (w2 : Wf3 x6 x7 x8) : DataW.Trod enc Tryz.prog W base spare held 33 (.agg #[.float .f64 x0, .float .f64 x1, .float .f64 x2, .float .f64 x3, .float .f64 x4, .float .f64 x5, .float .f64 x6, .float .f64 x7, .float .f64 x8]) (.agg [.agg [.lit (.float .f64 x0), .lit (.float .f64 x1), .lit (.float .f64 x2)], .agg [.lit (.float .f64 x3), .lit (.float .f64 x4), .lit (.float .f64 x5)], .agg [.lit (.float .f64 x6), .lit (.float .f64 x7), .lit (.float .f64 x8)]]) [] := by
  refine ⟨3, ?_⟩
  refine trod_struct3_mk (n := 2) (y0 := (_, [])) (y1 := (_, [])) (y2 := (_, [])) Tryz.underlying33 (by rw [Tryz.cells33]; rfl) ?_ ?_ ?_ <;>
  simp only [Value.cells, Tryz.cells31, List.drop_zero, List.drop_succ_cons, List.take_succ_cons, List.take_zero]
  · exact trod_vec_mk w0
  · exact trod_vec_mk w1
  · exact trod_vec_mk w2

end Go.Proofs.YtijoaklknpkdoaaGreat
