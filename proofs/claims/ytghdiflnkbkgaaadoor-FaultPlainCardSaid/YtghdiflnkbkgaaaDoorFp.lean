/- errors.As of a sight. -/
import Derived.Test.YtghdiflnkbkgaaaDoorFo
namespace Go.Proofs.YtghdiflnkbkgaaaDoor
open Go.RowKit

theorem vof (t : TypeId) (v : Value) (w : World) : (callFunc 34 #[.iface t v]).run Tryd.prog w = ((Extern.ReflectliteValue.unpack (.iface t v)).run Tryd.prog w).andThen fun v w' => .ok (.value v) w' :=
  run_callFunc_extern (e := fun args => Extern.ReflectliteValue.unpack (args.getD 0 (.tuple #[]))) Tryd.func34 (by kernel_rfl) (by kernel_rfl) (by kernel_rfl) (by kernel_rfl) _ w
theorem vof53 (p : Addr) (w : World) : (callFunc 34 #[.iface 53 (.pointer (some p))]).run Tryd.prog w = .ok (.value (.agg #[.pointer (some ⟨5, 53, none⟩), .pointer (some ⟨w.heap.size, 0, none⟩), .int .u64 150])) (w.alloc (.cells #[.pointer (some p)] 53)) := by kernel_rfl
theorem vof54 (p : Addr) (w : World) : (callFunc 34 #[.iface 54 (.pointer (some p))]).run Tryd.prog w = .ok (.value (.agg #[.pointer (some ⟨5, 54, none⟩), .pointer (some ⟨w.heap.size, 0, none⟩), .int .u64 150])) (w.alloc (.cells #[.pointer (some p)] 54)) := by kernel_rfl
theorem vty53 (a : Addr) (w : World) : (callFunc 35 #[.agg #[.pointer (some ⟨5, 53, none⟩), .pointer (some a), .int .u64 150]]).run Tryd.prog w = .ok (.value (.iface 89 (.agg #[.pointer (some ⟨5, 53, none⟩)]))) w := by kernel_rfl
theorem vty54 (a : Addr) (w : World) : (callFunc 35 #[.agg #[.pointer (some ⟨5, 54, none⟩), .pointer (some a), .int .u64 150]]).run Tryd.prog w = .ok (.value (.iface 89 (.agg #[.pointer (some ⟨5, 54, none⟩)]))) w := by kernel_rfl
theorem m89Kind (p : Value) (w : World) : (method 252 89 (.agg #[p]) "Kind").run Tryd.prog w = .ok (82, p) w := by kernel_rfl
theorem m89Elem (v : Value) (w : World) : (method 252 89 v "Elem").run Tryd.prog w = .ok (96, v) w := by kernel_rfl
theorem m89Impl (v : Value) (w : World) : (method 252 89 v "Implements").run Tryd.prog w = .ok (97, v) w := by kernel_rfl
theorem knd53 (w : World) : (callFunc 82 #[.pointer (some ⟨5, 53, none⟩)]).run Tryd.prog w = .ok (.value (.int .u8 22)) w := by kernel_rfl
theorem knd54 (w : World) : (callFunc 82 #[.pointer (some ⟨5, 54, none⟩)]).run Tryd.prog w = .ok (.value (.int .u8 22)) w := by kernel_rfl
theorem knd43 (w : World) : (callFunc 82 #[.pointer (some ⟨5, 43, none⟩)]).run Tryd.prog w = .ok (.value (.int .u8 25)) w := by kernel_rfl
theorem knd23 (w : World) : (callFunc 82 #[.pointer (some ⟨5, 23, none⟩)]).run Tryd.prog w = .ok (.value (.int .u8 2)) w := by kernel_rfl
theorem elm53 (w : World) : (callFunc 96 #[.agg #[.pointer (some ⟨5, 53, none⟩)]]).run Tryd.prog w = .ok (.value (.iface 89 (.agg #[.pointer (some ⟨5, 43, none⟩)]))) w := by kernel_rfl
theorem elm54 (w : World) : (callFunc 96 #[.agg #[.pointer (some ⟨5, 54, none⟩)]]).run Tryd.prog w = .ok (.value (.iface 89 (.agg #[.pointer (some ⟨5, 23, none⟩)]))) w := by kernel_rfl
theorem imp43 (w : World) : (callFunc 97 #[.agg #[.pointer (some ⟨5, 43, none⟩)], .iface 89 (.agg #[.pointer (some ⟨5, 25, none⟩)])]).run Tryd.prog w = .ok (.value (.bool true)) w := by kernel_rfl
theorem imp23 (w : World) : (callFunc 97 #[.agg #[.pointer (some ⟨5, 23, none⟩)], .iface 89 (.agg #[.pointer (some ⟨5, 25, none⟩)])]).run Tryd.prog w = .ok (.value (.bool true)) w := by kernel_rfl
end Go.Proofs.YtghdiflnkbkgaaaDoor
