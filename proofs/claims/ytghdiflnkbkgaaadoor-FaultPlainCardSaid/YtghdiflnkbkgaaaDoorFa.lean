/- Leaf contracts of package fault: which error a value is. -/
import Derived.Test.YtghdiflnkbkgaaaDoorRows
import Derived.WalkKit
import Derived.WalkSpells
import Derived.WalkLawsBesides
import Derived.Stop.Asserts
namespace Go.Proofs.YtghdiflnkbkgaaaDoor
open Go.RowKit

theorem ta43y (v : Value) (w : World) : (Instr.typeAssert (.iface 43 v) 25 43 true).run Tryd.prog w = .ok (.tuple #[v, .bool true]) w := by kernel_rfl
theorem ta43n (v : Value) (w : World) : (Instr.typeAssert (.iface 23 v) 25 43 true).run Tryd.prog w = .ok (.tuple #[.agg #[.int .i64 0, .int .i64 0, .nilIface], .bool false]) w := by kernel_rfl
theorem ta23y (v : Value) (w : World) : (Instr.typeAssert (.iface 23 v) 25 23 true).run Tryd.prog w = .ok (.tuple #[v, .bool true]) w := by kernel_rfl
theorem ta23n (v : Value) (w : World) : (Instr.typeAssert (.iface 43 v) 25 23 true).run Tryd.prog w = .ok (.tuple #[.int .i64 0, .bool false]) w := by kernel_rfl
theorem ta53n (v : Value) (w : World) : (Instr.typeAssert (.iface 23 v) 25 53 true).run Tryd.prog w = .ok (.tuple #[.pointer none, .bool false]) w := by kernel_rfl

set_option maxRecDepth 100000 in
set_option maxHeartbeats 400000 in
theorem codeItself_flt (x : Value) (w : World) :
    Calls Tryd.prog 29 #[.iface 43 x] w fun e w' => e = .returned (.tuple #[.int .i64 0, .bool false]) ∧ w' = w := by
  have h1 := ta23n
  go_enter Tryd.func29, Tryd.ntmps29
  go_wp2
  go_ret2
  exact ⟨rfl, rfl⟩

set_option maxRecDepth 100000 in
set_option maxHeartbeats 400000 in
theorem codeItself_ern (c : Int) (w : World) :
    Calls Tryd.prog 29 #[.iface 23 (.int .i64 c)] w fun e w' => e = .returned (.tuple #[.int .i64 c, .bool true]) ∧ w' = w := by
  have h1 := ta23y
  go_enter Tryd.func29, Tryd.ntmps29
  go_wp2
  go_ret2
  exact ⟨rfl, rfl⟩

set_option maxRecDepth 100000 in
set_option maxHeartbeats 400000 in
theorem faultOf_flt (c l : Int) (v : Value) (w : World) (hv : v.oneCell' = true) :
    Calls Tryd.prog 25 #[.iface 43 (.agg #[.int .i64 c, .int .i64 l, v])] w fun e w' => e = .returned (.tuple #[.agg #[.int .i64 c, .int .i64 l, v], .bool true]) ∧ Below w.heap.size w w' := by
  have h1 := ta43y
  have hs : ∀ a m w, (store a v m).run Tryd.prog w = stored Tryd.prog w a v m := fun a m w => run_store _ w a v m hv
  go_enter Tryd.func25, Tryd.ntmps25
  go_wp2
  exact bodyPost_ret (v := .tuple #[.agg #[.int .i64 c, .int .i64 l, v], .bool true]) (by simp [results, Tryd.results25, go_sem]) rfl ⟨rfl, ((Below.refl _ _).alloc (Nat.le_refl _) _).alloc (by simp) _⟩

set_option maxRecDepth 100000 in
set_option maxHeartbeats 400000 in
theorem faultOf_ern (c : Int) (w : World) :
    Calls Tryd.prog 25 #[.iface 23 (.int .i64 c)] w fun e w' => e = .returned (.tuple #[.agg #[.int .i64 0, .int .i64 0, .nilIface], .bool false]) ∧ Below w.heap.size w w' := by
  have h1 := ta43n
  have h2 := ta53n
  go_enter Tryd.func25, Tryd.ntmps25
  go_wp2
  exact bodyPost_ret (v := .tuple #[.agg #[.int .i64 0, .int .i64 0, .nilIface], .bool false]) (by simp [results, Tryd.results25, go_sem]) rfl ⟨rfl, (Below.refl _ _).alloc (Nat.le_refl _) _⟩

end Go.Proofs.YtghdiflnkbkgaaaDoor
