/- errors.as and errors.As of a chain. -/
import Derived.Test.YtghdiflnkbkgaaaDoorFn
namespace Go.Proofs.YtghdiflnkbkgaaaDoor
open Go.RowKit

theorem tof51 (v : Value) (w : World) : (callFunc 39 #[.iface 51 v]).run Tryd.prog w = .ok (.value (.iface 89 (.agg #[.pointer (some ⟨5, 51, none⟩)]))) w := by kernel_rfl
theorem asg43 (w : World) : (callFunc 94 #[.agg #[.pointer (some ⟨5, 51, none⟩)], .iface 89 (.agg #[.pointer (some ⟨5, 43, none⟩)])]).run Tryd.prog w = .ok (.value (.bool false)) w := by kernel_rfl
theorem asg23 (w : World) : (callFunc 94 #[.agg #[.pointer (some ⟨5, 51, none⟩)], .iface 89 (.agg #[.pointer (some ⟨5, 23, none⟩)])]).run Tryd.prog w = .ok (.value (.bool false)) w := by kernel_rfl
theorem m89Assign (v : Value) (w : World) : (method 252 89 v "AssignableTo").run Tryd.prog w = .ok (94, v) w := by kernel_rfl
theorem ta93y51 (v : Value) (w : World) : (Instr.typeAssert (.iface 51 v) 25 93 true).run Tryd.prog w = .ok (.tuple #[.iface 51 v, .bool true]) w := run_typeAssert_hasB Tryd.underlying93 (by kernel_rfl) v 25 w
theorem m51As (v : Value) (w : World) : (method 252 51 v "As").run Tryd.prog w = .ok (85, v) w := by kernel_rfl

set_option maxRecDepth 100000 in
set_option maxHeartbeats 400000 in
theorem as_flt (c l : Int) (x : Value) (hx : x.oneCell' = true) (d : Int) (lb fb : Nat) (r0 r1 r2 : Value) (w : World) (hr : r0.oneCell' = true ∧ r1.oneCell' = true ∧ r2.oneCell' = true) (hf : fb < w.heap.size) (u0 u1 u2 : Value)
    (h0 : w.cell? ⟨fb, 0, none⟩ = some u0) (h1 : w.cell? ⟨fb, 1, none⟩ = some u1) (h2 : w.cell? ⟨fb, 2, none⟩ = some u2)
    (z0 : w.frozen? ⟨fb, 0, none⟩ = false) (z1 : w.frozen? ⟨fb, 1, none⟩ = false) (z2 : w.frozen? ⟨fb, 2, none⟩ = false) :
    Calls Tryd.prog 37 #[.iface 51 (.agg #[.iface 43 (.agg #[.int .i64 c, .int .i64 l, x]), .int .i64 d, .pointer (some ⟨lb, 0, none⟩)]), .iface 53 (.pointer (some ⟨fb, 0, none⟩)), .agg #[r0, r1, r2], .iface 89 (.agg #[.pointer (some ⟨5, 43, none⟩)])] w fun e w' =>
      e = .returned (.bool true) ∧ w'.cell? ⟨fb, 0, none⟩ = some (.int .i64 c) ∧ Below fb w w' := by
  obtain ⟨hr0, hr1, hr2⟩ := hr
  have hs0 : ∀ a m w, (store a r0 m).run Tryd.prog w = stored Tryd.prog w a r0 m := fun a m w => run_store _ w a r0 m hr0
  have hs1 : ∀ a m w, (store a r1 m).run Tryd.prog w = stored Tryd.prog w a r1 m := fun a m w => run_store _ w a r1 m hr1
  have hs2 : ∀ a m w, (store a r2 m).run Tryd.prog w = stored Tryd.prog w a r2 m := fun a m w => run_store _ w a r2 m hr2
  have t1 := tof51
  have t2 := asg43
  have t3 := m89Assign
  have t4 := ta93y51
  have t5 := m51As
  go_enter Tryd.func37, Tryd.ntmps37
  go_wp2_with fail
  refine wp_loop_rounds 1 ?_
  rw [rounds_succ]
  go_wp2_with (go_at_call 85; refine (sas_flt c l x hx d lb fb _ (by simp; omega) u0 u1 u2 (by simp [go_sem, hf, h0]) (by simp [go_sem, hf, h1]) (by simp [go_sem, hf, h2]) (by simp [go_sem, hf, z0]) (by simp [go_sem, hf, z1]) (by simp [go_sem, hf, z2])).mono ?_; rintro e w1 ⟨rfl, hc, hb⟩; have HB : Hid _ := hb; clear hb)
  go_ret
  exact ⟨rfl, hc, ((box_below _ _).mono (by omega)).trans HB.out⟩

set_option maxRecDepth 100000 in
set_option maxHeartbeats 400000 in
theorem as_code (c d : Int) (lb fb : Nat) (r0 r1 r2 : Value) (w : World) (hr : r0.oneCell' = true ∧ r1.oneCell' = true ∧ r2.oneCell' = true) (hf : fb < w.heap.size) (u0 : Value)
    (h0 : w.cell? ⟨fb, 0, none⟩ = some u0) (z0 : w.frozen? ⟨fb, 0, none⟩ = false) :
    Calls Tryd.prog 37 #[.iface 51 (.agg #[.iface 23 (.int .i64 c), .int .i64 d, .pointer (some ⟨lb, 0, none⟩)]), .iface 54 (.pointer (some ⟨fb, 0, none⟩)), .agg #[r0, r1, r2], .iface 89 (.agg #[.pointer (some ⟨5, 23, none⟩)])] w fun e w' =>
      e = .returned (.bool true) ∧ w'.cell? ⟨fb, 0, none⟩ = some (.int .i64 c) ∧ Below fb w w' := by
  obtain ⟨hr0, hr1, hr2⟩ := hr
  have hs0 : ∀ a m w, (store a r0 m).run Tryd.prog w = stored Tryd.prog w a r0 m := fun a m w => run_store _ w a r0 m hr0
  have hs1 : ∀ a m w, (store a r1 m).run Tryd.prog w = stored Tryd.prog w a r1 m := fun a m w => run_store _ w a r1 m hr1
  have hs2 : ∀ a m w, (store a r2 m).run Tryd.prog w = stored Tryd.prog w a r2 m := fun a m w => run_store _ w a r2 m hr2
  have t1 := tof51
  have t2 := asg23
  have t3 := m89Assign
  have t4 := ta93y51
  have t5 := m51As
  go_enter Tryd.func37, Tryd.ntmps37
  go_wp2_with fail
  refine wp_loop_rounds 1 ?_
  rw [rounds_succ]
  go_wp2_with (go_at_call 85; refine (sas_code c d lb fb _ (by simp; omega) u0 (by simp [go_sem, hf, h0]) (by simp [go_sem, hf, z0])).mono ?_; rintro e w1 ⟨rfl, hc, hb⟩; have HB : Hid _ := hb; clear hb)
  go_ret
  exact ⟨rfl, hc, ((box_below _ _).mono (by omega)).trans HB.out⟩

set_option maxRecDepth 100000 in
set_option maxHeartbeats 400000 in
theorem as_ern (c d : Int) (lb : Nat) (p r0 r1 r2 : Value) (w : World) (hd : 1 ≤ d ∧ d < 65536) (hr : r0.oneCell' = true ∧ r1.oneCell' = true ∧ r2.oneCell' = true) :
    Calls Tryd.prog 37 #[.iface 51 (.agg #[.iface 23 (.int .i64 c), .int .i64 d, .pointer (some ⟨lb, 0, none⟩)]), .iface 53 p, .agg #[r0, r1, r2], .iface 89 (.agg #[.pointer (some ⟨5, 43, none⟩)])] w fun e w' =>
      e = .returned (.bool false) ∧ Below w.heap.size w w' := by
  obtain ⟨hr0, hr1, hr2⟩ := hr
  have hs0 : ∀ a m w, (store a r0 m).run Tryd.prog w = stored Tryd.prog w a r0 m := fun a m w => run_store _ w a r0 m hr0
  have hs1 : ∀ a m w, (store a r1 m).run Tryd.prog w = stored Tryd.prog w a r1 m := fun a m w => run_store _ w a r1 m hr1
  have hs2 : ∀ a m w, (store a r2 m).run Tryd.prog w = stored Tryd.prog w a r2 m := fun a m w => run_store _ w a r2 m hr2
  have t1 := tof51
  have t2 := asg43
  have t3 := m89Assign
  have t4 := ta93y51
  have t5 := m51As
  have t6 := ta96n51
  have t7 := ta97y51
  have t8 := m51Unwrap
  go_enter Tryd.func37, Tryd.ntmps37
  go_wp2_with fail
  refine wp_loop_rounds 1 ?_
  rw [rounds_succ]
  go_wp2_with (first
    | (go_at_call 85; refine (sas_ern c d lb p _).mono ?_; rintro e w1 ⟨rfl, hb⟩; have HB : Hid _ := hb; clear hb)
    | (go_at_call 88; refine (unw_ern c d lb _ hd).mono ?_; rintro e w2 ⟨rfl, hb⟩; have HB2 : Hid _ := hb; clear hb))
  refine wp_loop_rounds 1 ?_
  rw [rounds_succ]
  go_wp2_with fail
  go_ret
  exact ⟨rfl, ((box_below _ _).trans (HB.out.mono (by simp))).trans (HB2.out.mono (by have := HB.out.size; simp at this; omega))⟩
end Go.Proofs.YtghdiflnkbkgaaaDoor
