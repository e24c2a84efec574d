/- Package tape: a region that asks a tape. -/
import Derived.BigQuiet
import Derived.Deep.LoopGhost
import Derived.Test.YthbcbeaagmgafaaRows
import Derived.Test.YthbcbeaagmgafaaTk
import Derived.Test.YthbcbeaagmgafaaLt
namespace Go.Proofs.Ythbcbeaagmgafaa
open Go.RowKit Fl

/-- Whole numbers in memory. -/
def Ints (T : Nat) (w : World) (ao : Option Addr) (zs : List Int) : Prop := zs = [] ∨ ∃ b off, ao = some ⟨b, off, none⟩ ∧ b < T ∧ ∀ k, k < zs.length → w.cell? ⟨b, off + k, none⟩ = some (.int .i64 (zs.getD k 0))

theorem draw_isN (xs : List Nat) (i : Int) : isN (drawF xs i) = false := by
  unfold drawF
  split
  · exact isN_zero
  · split
    · exact isN_zero
    · exact ok_isN (ok_clean _)
theorem draw_ne (xs : List Nat) (i : Int) : (FloatKind.f64.format.order (drawF xs i) (drawF xs i) != some .eq) = false := by
  have := ford_self (drawF xs i)
  rw [draw_isN] at this
  show (ford _ _ != some .eq) = false
  unfold bne
  rw [this]
  rfl
theorem read_read (r i : Int) : readF (readF r i) i = readF r i := by
  unfold readF
  split
  · rfl
  · omega

/-- What a question turns: the tape's count alone. -/
def Asks (T : Nat) (xs : List Nat) (r r1 : Int) (w w' : World) : Prop := Below T w w' ∧ (Tp w T xs r ∨ Tp w T xs r1 → Tp w' T xs r ∨ Tp w' T xs r1) ∧ (Tp w T xs r1 → Tp w' T xs r1)
def Asked (W : World) (T : Nat) (xs : List Nat) (r r1 : Int) (w : World) : Prop := Below T W w ∧ (Tp w T xs r ∨ Tp w T xs r1)
theorem asks_refl (T : Nat) (xs : List Nat) (r r1 : Int) (w : World) : Asks T xs r r1 w w := ⟨Below.refl _ _, fun h => h, fun h => h⟩
theorem asked_stable (W : World) (T : Nat) (xs : List Nat) (r r1 : Int) : Lt.Stable (Asks T xs r r1) (Asked W T xs r r1) := fun _ _ h k => ⟨k.1.trans h.1, h.2.1 k.2⟩
theorem asked_one (T : Nat) (xs : List Nat) (r r1 : Int) (d : Nat) (v : Value) : Lt.Stable (Asks T xs r r1) (fun w => v = .float .f64 d ∧ Tp w T xs r1) := fun _ _ h k => ⟨k.1, h.2.2 k.2⟩
theorem asked_drew {T : Nat} {xs : List Nat} {r r1 : Int} {w : World} (h : Tp w T xs r) : Asked w T xs r r1 w.drew :=
  ⟨(Below.refl _ _).drew, .inl (h.keep (Below.refl _ _).drew)⟩
theorem at_upon {W : World} {T : Nat} {xs : List Nat} {r i : Int} (hi : i ≤ 9223372036854775807) {w : World} (hC : Asked W T xs r (readF r i) w) :
    Lt.Upon Try.prog (Asks T xs r (readF r i)) w (fun v w' => v = .float .f64 (drawF xs i) ∧ Tp w' T xs (readF r i)) (.ok (.enter 8 #[.pointer (some ⟨T, 0, none⟩), .int .i64 i]) w) := by
  rcases hC.2 with h | h
  · refine Calls.mono (at_any T xs r i w h hi) ?_
    rintro e w' ⟨rfl, hb, hT⟩
    exact ⟨_, rfl, ⟨rfl, hT⟩, hb, fun _ => .inr hT, fun _ => hT⟩
  · refine Calls.mono (at_any T xs _ i w h hi) ?_
    rintro e w' ⟨rfl, hb, hT⟩
    rw [read_read] at hT
    exact ⟨_, rfl, ⟨rfl, hT⟩, hb, fun _ => .inr hT, fun _ => hT⟩
theorem rat_upon {W : World} {T : Nat} {xs : List Nat} {r r1 i : Int} {v : Value} (hr : Row T W v xs) {w : World} (hC : Asked W T xs r r1 w) :
    Lt.Upon Try.prog (Asks T xs r r1) w (fun u _ => u = .float .f64 (drawF xs i)) (.ok (.enter 9 #[v, .int .i64 i]) w) := by
  refine Calls.mono (rat_any xs i T v w (hr.keep hC.1)) ?_
  rintro e w' ⟨rfl, rfl⟩
  exact ⟨_, rfl, rfl, asks_refl _ _ _ _ _⟩
end Go.Proofs.Ythbcbeaagmgafaa
