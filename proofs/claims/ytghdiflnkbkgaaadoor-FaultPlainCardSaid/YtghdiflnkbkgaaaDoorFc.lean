/- wrapped: what an error wraps. -/
import Derived.Test.YtghdiflnkbkgaaaDoorFb
namespace Go.Proofs.YtghdiflnkbkgaaaDoor
open Go.RowKit

theorem ta96y (v : Value) (w : World) : (Instr.typeAssert (.iface 43 v) 25 96 true).run Tryd.prog w = .ok (.tuple #[.iface 43 v, .bool true]) w :=
  run_typeAssert_hasB Tryd.underlying96 (by kernel_rfl) v 25 w
theorem ta96n (v : Value) (w : World) : (Instr.typeAssert (.iface 23 v) 25 96 true).run Tryd.prog w = .ok (.tuple #[.nilIface, .bool false]) w :=
  run_typeAssert_lacksB Tryd.underlying96 (by kernel_rfl) (by kernel_rfl) v 25 w
theorem ta97n (v : Value) (w : World) : (Instr.typeAssert (.iface 23 v) 25 97 true).run Tryd.prog w = .ok (.tuple #[.nilIface, .bool false]) w :=
  run_typeAssert_lacksB Tryd.underlying97 (by kernel_rfl) (by kernel_rfl) v 25 w
theorem m43Unwrap (v : Value) (w : World) : (method 252 43 v "Unwrap").run Tryd.prog w = .ok (19, v) w := by kernel_rfl
theorem mkf (fn : Fn) (first cap : Array Value) (w : World) : (Instr.makeFunc fn first cap).run Tryd.prog w = .ok (.func fn first cap) w := rfl

theorem catch_idle (p : Addr) (w : World) :
    CallsD Tryd.prog 52 #[.pointer (some p)] .returning w fun e u' w' => e = .returned (.tuple #[]) ∧ u' = .returning ∧ w' = w := by
  refine callsD_of_wpS Tryd.func52 rfl fun c₀ cs hu => ?_
  apply wpS_seq
  apply wpS_region
  simp [wpOpsS, go_sem, recoverD, hu, Tryd.ntmps52, Exit.thenS]
  refine wpS_cond (t := false) (by simp [Act.eval, Array.replicate]) ?_
  simp only [Bool.false_eq_true, if_false]
  refine wpS_of_wp (wp_skip ?_)
  cases c₀
  simp_all [bodyPostS, results, Tryd.results52]

set_option maxRecDepth 100000 in
set_option maxHeartbeats 400000 in
theorem wrapped_ern (c : Int) (w : World) :
    Calls Tryd.prog 48 #[.iface 23 (.int .i64 c)] w fun e w' => e = .returned (.slice none 0 0) ∧ Below w.heap.size w w' := by
  have h1 := ta96n
  have h2 := ta97n
  have h3 := mkf
  go_enter_defers Tryd.func48, Tryd.ntmps48
  go_wp2
  refine leaves_cons (f := 52) (args := #[.pointer (some ⟨w.heap.size, 0, none⟩)]) (by simp) (by simp [go_sem]) ?_
  refine (catch_idle ⟨w.heap.size, 0, none⟩ _).mono ?_
  rintro e u' w'' ⟨rfl, rfl, rfl⟩
  simp [Leaves, settle, results, Tryd.results48, go_sem]
  exact (Below.refl _ _).alloc (Nat.le_refl _) _

set_option maxRecDepth 100000 in
set_option maxHeartbeats 400000 in
theorem wrapped_nil (c l : Int) (w : World) :
    Calls Tryd.prog 48 #[.iface 43 (.agg #[.int .i64 c, .int .i64 l, .nilIface])] w fun e w' => e = .returned (.slice none 0 0) ∧ Below w.heap.size w w' := by
  have h1 := ta96y
  have h3 := mkf
  have h4 := m43Unwrap
  go_enter_defers Tryd.func48, Tryd.ntmps48
  go_wp2_with (first
    | (go_at_call 53; refine (withoutNil_nil _ _ _ ?_).mono ?_; simp [go_sem]; rintro e w' ⟨rfl, rfl⟩)
    | go_in)
  refine leaves_cons (f := 52) (args := #[.pointer (some ⟨w.heap.size, 0, none⟩)]) (by simp) (by simp [go_sem]) ?_
  refine (catch_idle ⟨w.heap.size, 0, none⟩ _).mono ?_
  rintro e u' w'' ⟨rfl, rfl, rfl⟩
  simp [Leaves, settle, results, Tryd.results48, go_sem]
  exact (((Below.refl _ _).alloc (Nat.le_refl _) _).alloc (by simp) _).alloc (by simp; omega) _

set_option maxRecDepth 100000 in
set_option maxHeartbeats 400000 in
theorem wrapped_one (c l : Int) (t : TypeId) (x : Value) (w : World) :
    Calls Tryd.prog 48 #[.iface 43 (.agg #[.int .i64 c, .int .i64 l, .iface t x])] w fun e w' => ∃ g cap, e = .returned (.slice (some ⟨g, 0, none⟩) 1 cap) ∧ w.heap.size ≤ g ∧ g < w'.heap.size ∧ w'.cell? ⟨g, 0, none⟩ = some (.iface t x) ∧ Below w.heap.size w w' := by
  have h1 := ta96y
  have h3 := mkf
  have h4 := m43Unwrap
  go_enter_defers Tryd.func48, Tryd.ntmps48
  go_wp2_with (first
    | (go_at_call 53; refine (withoutNil_one _ _ t x _ ?_).mono ?_; simp [go_sem]; rintro e w1 ⟨g, cap, rfl, hg1, hg2, hgc, hb⟩; have hc0 : w1.cell? ⟨w.heap.size, 0, none⟩ = some (.slice none 0 0) := (hb.cell (p := ⟨w.heap.size, 0, none⟩) (by simp; omega)).trans (by simp [go_sem]); have hf0 : w1.frozen? ⟨w.heap.size, 0, none⟩ = false := (hb.frozen (p := ⟨w.heap.size, 0, none⟩) (by simp; omega)).trans (by simp [go_sem]); have HB : Hid (Below _ _ w1) := hb; clear hb; simp at hg1)
    | go_in)
  refine leaves_cons (f := 52) (args := #[.pointer (some ⟨w.heap.size, 0, none⟩)]) (by simp) (by simp [go_sem]) ?_
  refine (catch_idle ⟨w.heap.size, 0, none⟩ _).mono ?_
  rintro e u' w'' ⟨rfl, rfl, rfl⟩
  simp [Leaves, settle, results, Tryd.results48, go_sem, hc0]
  refine ⟨by omega, hg2, hgc, ?_⟩
  exact ((((((Below.refl _ _).alloc (Nat.le_refl _) _).alloc (by simp) _).alloc (by simp; omega) _).trans (HB.out.mono (by simp; omega))).setCell (by simp) _).setCell (by simp) _

end Go.Proofs.YtghdiflnkbkgaaaDoor
