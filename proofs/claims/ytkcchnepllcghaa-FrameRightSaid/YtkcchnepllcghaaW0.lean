/- Nine cells of a block. -/
import Derived.Test.YtkcchnepllcghaaVa
namespace Go.Proofs.Ytkcchnepllcghaa.Fl
open Go.RowKit

theorem Cl.more3 {W w' : World} (h : Cl W w') {b : Nat} {x y z : Value} (hx : W.cell? ⟨b, 6, none⟩ = some x) (hy : W.cell? ⟨b, 7, none⟩ = some y) (hz : W.cell? ⟨b, 8, none⟩ = some z) (hb : b < W.heap.size) :
    w'.cell? ⟨b, 6, none⟩ = some x ∧ w'.cell? ⟨b, 7, none⟩ = some y ∧ w'.cell? ⟨b, 8, none⟩ = some z :=
  ⟨(h.cell (p := ⟨b, 6, none⟩) hb).trans hx, (h.cell (p := ⟨b, 7, none⟩) hb).trans hy, (h.cell (p := ⟨b, 8, none⟩) hb).trans hz⟩

theorem Cl.frz3 {W w' : World} (h : Cl W w') {b : Nat} (f0 : W.frozen? ⟨b, 3, none⟩ = false) (f1 : W.frozen? ⟨b, 4, none⟩ = false) (f2 : W.frozen? ⟨b, 5, none⟩ = false) (hb : b < W.heap.size) :
    w'.frozen? ⟨b, 3, none⟩ = false ∧ w'.frozen? ⟨b, 4, none⟩ = false ∧ w'.frozen? ⟨b, 5, none⟩ = false :=
  ⟨(h.frozen (p := ⟨b, 3, none⟩) hb).trans f0, (h.frozen (p := ⟨b, 4, none⟩) hb).trans f1, (h.frozen (p := ⟨b, 5, none⟩) hb).trans f2⟩

theorem Cl.frz6 {W w' : World} (h : Cl W w') {b : Nat} (f0 : W.frozen? ⟨b, 6, none⟩ = false) (f1 : W.frozen? ⟨b, 7, none⟩ = false) (f2 : W.frozen? ⟨b, 8, none⟩ = false) (hb : b < W.heap.size) :
    w'.frozen? ⟨b, 6, none⟩ = false ∧ w'.frozen? ⟨b, 7, none⟩ = false ∧ w'.frozen? ⟨b, 8, none⟩ = false :=
  ⟨(h.frozen (p := ⟨b, 6, none⟩) hb).trans f0, (h.frozen (p := ⟨b, 7, none⟩) hb).trans f1, (h.frozen (p := ⟨b, 8, none⟩) hb).trans f2⟩

theorem Cl.drew2 {W w : World} (h : Cl W w) : Cl W w.drew := Below.drew h
/-- A step that is not wanted. -/
theorem loose_skip {P : Program} {ops : Array Oper} {C : World → Prop} {Q : Exit → Act → World → Prop} {kd : Option (Value → Prop)} {kds : List (Option (Value → Prop))} {o o2 : Oper} {rest : List Oper} {a : Act} (hw : Region.wanted o (yielded ops a.tmps) = false)
    (hK : ∀ K : Act → Prop, (∀ a, wpLoose P ops C Q kds (o2 :: rest) a → K a) → K (a.put o.dst undef)) : wpLoose P ops C Q (kd :: kds) (o :: o2 :: rest) a :=
  loose_step fun K hk => lStep_skip hw (hK K hk)
end Go.Proofs.Ytkcchnepllcghaa.Fl
