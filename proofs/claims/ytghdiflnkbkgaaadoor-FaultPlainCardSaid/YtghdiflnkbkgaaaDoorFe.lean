/- Chains of errors as values; what a look through one does, whatever is done at each. -/
import Derived.Test.YtghdiflnkbkgaaaDoorFd
namespace Go.Proofs.YtghdiflnkbkgaaaDoor
open Go.RowKit

/-- What an error is: a fault, or a code itself. -/
abbrev Itm : Type := Sum (Int × Int) Int

/-- A chain of faults (code, line), the outermost first; behind them nothing, or a code itself. -/
def chn (b : Option Int) : List (Int × Int) → Value
  | [] => match b with
    | none => .nilIface
    | some c => .iface 23 (.int .i64 c)
  | (c, l) :: r => .iface 43 (.agg #[.int .i64 c, .int .i64 l, chn b r])

theorem chn_oneCell (b : Option Int) (r : List (Int × Int)) : (chn b r).oneCell' = true := by
  cases r with
  | nil => cases b <;> rfl
  | cons p r => rfl

/-- Of a chain that is not empty: the value is an interface value. -/
theorem chn_iface (b : Option Int) (r : List (Int × Int)) : chn b r = .nilIface ∨ ∃ t x, chn b r = .iface t x := by
  cases r with
  | nil => cases b with
    | none => exact .inl rfl
    | some c => exact .inr ⟨_, _, rfl⟩
  | cons p r => exact .inr ⟨_, _, rfl⟩

/-- The value is this item, whatever it wraps. -/
def isItm (v : Value) : Itm → Prop
  | .inl (c, l) => ∃ x : Value, x.oneCell' = true ∧ v = .iface 43 (.agg #[.int .i64 c, .int .i64 l, x])
  | .inr c => v = .iface 23 (.int .i64 c)

/-- Going through a chain from the outermost on, till the step says no. -/
def goes {σ : Type} (step : σ → Itm → Int → σ × Bool) (b : Option Int) : σ → List (Int × Int) → Int → σ × Bool
  | s, [], d => match b with
    | none => (s, true)
    | some c => step s (.inr c) d
  | s, (c, l) :: r, d => if (step s (.inl (c, l)) d).2 = true then goes step b (step s (.inl (c, l)) d).1 r (d + 1) else ((step s (.inl (c, l)) d).1, false)

/-- The count of what may be looked at lies there, and can be written. -/
structure Left (w : World) (lb : Nat) (k : Int) : Prop where
  lt : lb < w.heap.size
  cell : w.cell? ⟨lb, 0, none⟩ = some (.int .i64 k)
  frozen : w.frozen? ⟨lb, 0, none⟩ = false

theorem Left.below {w w' : World} {lb : Nat} {k : Int} (h : Left w lb k) (hb : Below w.heap.size w w') : Left w' lb k :=
  ⟨Nat.lt_of_lt_of_le h.lt hb.size, (hb.cell h.lt).trans h.cell, (hb.frozen h.lt).trans h.frozen⟩

theorem Left.set {w : World} {lb : Nat} {k k' : Int} (h : Left w lb k) : Left (w.setCell ⟨lb, 0, none⟩ (.int .i64 k')) lb k' :=
  ⟨by simpa using h.lt, by rw [World.cell?_setCell_same' _ _ _ (by rw [h.cell]; rfl)], by simpa [go_sem] using h.frozen⟩

/-- What a function that is told each error keeps, and what it needs. -/
structure Keeps (σ : Type) (lb : Nat) (Inv : σ → Int → World → Prop) : Prop where
  grow : ∀ s d w w', Inv s d w → Below w.heap.size w w' → Inv s d w'
  left : ∀ s d w (k : Int), Inv s d w → Inv s d (w.setCell ⟨lb, 0, none⟩ (.int .i64 k))

end Go.Proofs.YtghdiflnkbkgaaaDoor
