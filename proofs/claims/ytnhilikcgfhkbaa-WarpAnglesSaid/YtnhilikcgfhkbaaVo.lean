/- A vector that comes in, opened and shut. -/
import Derived.Test.YtnhilikcgfhkbaaRows
import Derived.Test.YtnhilikcgfhkbaaVa
import Derived.ProofKit
import Derived.Lib.SmallJoins
namespace Go.Proofs.Ytnhilikcgfhkbaa.Fl
section
variable {H : Type} {enc : TypeId × Value → H} {P : Program} {w : World} {base : Nat} {spare : Nat → Bool} {held : Bool} {fuel : Nat} {t : TypeId} {cs : List Value} {x : DataW H × List MemPlace}
theorem trod_float {k : FloatKind} (ht : P.underlying t = some (.float k)) (h : DataW.trod enc P w base spare held fuel t cs = some x) : ∃ n, cs = [.float k n] ∧ x = (.lit (.float k n), []) ∧ (Lit.float k n).wf = true := by
  cases fuel with
  | zero => simp [DataW.trod] at h
  | succ n =>
    unfold DataW.trod at h
    rw [ht] at h
    split at h <;> simp_all
end
end Go.Proofs.Ytnhilikcgfhkbaa.Fl
namespace Go.Proofs.Ytnhilikcgfhkbaa
open Go.ChangeShapes Go.WideShapes Go.ChangeAt Go.RowKit Fl Go.Joins

theorem Try.own : ownKnob Try.prog.godebug = none := by kernel_rfl
theorem Try.laidOut : laidOutB Try.prog = true := by kernel_rfl

theorem Try.cells29 : Try.prog.cellsOf 29 = 3 := by kernel_rfl

theorem open_vec {H : Type} {enc : TypeId × Value → H} {W : World} {base : Nat} {spare : Nat → Bool} {held : Bool} {r : Reach} {b0 : Nat} {v : Value} {d : DataW H} {ps : List MemPlace} (hv : Value.okWide Try.prog W r b0 29 v) (h : DataW.Trod enc Try.prog W base spare held 29 v d ps) :
    ∃ x y z, v = .agg #[.float .f64 x, .float .f64 y, .float .f64 z] ∧ d = .agg [.lit (.float .f64 x), .lit (.float .f64 y), .lit (.float .f64 z)] ∧ ps = [] ∧
      (Lit.float .f64 x).wf = true ∧ (Lit.float .f64 y).wf = true ∧ (Lit.float .f64 z).wf = true := by
  obtain ⟨c0, c1, c2, y0, y1, y2, m, rfl, rfl, rfl, h0, h1, h2⟩ := open_agg3 Try.underlying29 (by kernel_rfl) Try.cells29 hv h
  obtain ⟨x, e0, rfl, wx⟩ := trod_float Try.underlying22 h0
  obtain ⟨y, e1, rfl, wy⟩ := trod_float Try.underlying22 h1
  obtain ⟨z, e2, rfl, wz⟩ := trod_float Try.underlying22 h2
  simp at e0 e1 e2
  subst e0 e1 e2
  exact ⟨x, y, z, rfl, rfl, rfl, wx, wy, wz⟩

theorem shut_vec {H : Type} {enc : TypeId × Value → H} {W : World} {base : Nat} {spare : Nat → Bool} {held : Bool} {x y z : Nat} (wx : (Lit.float .f64 x).wf = true) (wy : (Lit.float .f64 y).wf = true) (wz : (Lit.float .f64 z).wf = true) :
    DataW.Trod enc Try.prog W base spare held 29 (.agg #[.float .f64 x, .float .f64 y, .float .f64 z]) (.agg [.lit (.float .f64 x), .lit (.float .f64 y), .lit (.float .f64 z)]) [] :=
  shut_agg3 (y0 := (.lit (.float .f64 x), [])) (y1 := (.lit (.float .f64 y), [])) (y2 := (.lit (.float .f64 z), [])) Try.underlying29 (by kernel_rfl) Try.cells29
    ⟨1, by simp [DataW.trod, Try.underlying22, wx]⟩ ⟨1, by simp [DataW.trod, Try.underlying22, wy]⟩ ⟨1, by simp [DataW.trod, Try.underlying22, wz]⟩

end Go.Proofs.Ytnhilikcgfhkbaa
