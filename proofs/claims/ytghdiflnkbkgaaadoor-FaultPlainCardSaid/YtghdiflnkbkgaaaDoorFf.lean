/- each, with the function that Line, Depth, Chain or Error makes for it: FN. -/
import Derived.Test.YtghdiflnkbkgaaaDoorFe
namespace Go.Proofs.YtghdiflnkbkgaaaDoor
open Go.RowKit

theorem cell_at {w : World} {n j : Nat} {cs : Array Value} {t : TypeId} {v : Value} (h : w.heap[n]? = some (.cells cs t (0, 0))) (hv : cs[j]? = some v) : w.cell? ⟨n, j, none⟩ = some v := by
  rw [cell_of_row w n j cs t (0, 0) h]; exact hv

theorem box_below (w : World) (o : Obj) : Below w.heap.size w (w.alloc o) := (Below.refl _ _).alloc (Nat.le_refl _) _

section
variable {σ : Type} (step : σ → Itm → Int → σ × Bool) (Inv : σ → Int → World → Prop) (lb : Nat) (cap : Value)

/-- What the function that is told must do: answer as the step says, keep what it keeps, and leave the caller's last block and the count alone. -/
def Tells (F : FuncId) : Prop := ∀ (s : σ) (v : Value) (it : Itm) (d k : Int) (w : World) (o : Obj), isItm v it → 1 ≤ d → d < 65536 → Inv s d w → Left w lb k →
  Calls Tryd.prog F #[.agg #[v, .int .i64 d, .pointer (some ⟨lb, 0, none⟩)], cap] (w.alloc o) fun e w' =>
    e = .returned (.bool (step s it d).2) ∧ Inv (step s it d).1 (d + 1) w' ∧ Left w' lb k ∧ w.heap.size < w'.heap.size ∧ w'.heap[w.heap.size]? = some o
end
end Go.Proofs.YtghdiflnkbkgaaaDoor
