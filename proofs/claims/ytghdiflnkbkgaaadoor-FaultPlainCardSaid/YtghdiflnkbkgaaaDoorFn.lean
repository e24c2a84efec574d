/- The method As of a sight. -/
import Derived.Test.YtghdiflnkbkgaaaDoorFm
namespace Go.Proofs.YtghdiflnkbkgaaaDoor
open Go.RowKit

theorem tb53y (v : Value) (w : World) : (Instr.typeAssert (.iface 53 v) 20 53 true).run Tryd.prog w = .ok (.tuple #[v, .bool true]) w := by kernel_rfl
theorem tb53n (v : Value) (w : World) : (Instr.typeAssert (.iface 54 v) 20 53 true).run Tryd.prog w = .ok (.tuple #[.pointer none, .bool false]) w := by kernel_rfl
theorem tb54y (v : Value) (w : World) : (Instr.typeAssert (.iface 54 v) 20 54 true).run Tryd.prog w = .ok (.tuple #[v, .bool true]) w := by kernel_rfl

set_option maxRecDepth 100000 in
set_option maxHeartbeats 400000 in
theorem sas_flt (c l : Int) (x : Value) (hx : x.oneCell' = true) (d : Int) (lb fb : Nat) (w : World) (hf : fb < w.heap.size) (u0 u1 u2 : Value)
    (h0 : w.cell? ⟨fb, 0, none⟩ = some u0) (h1 : w.cell? ⟨fb, 1, none⟩ = some u1) (h2 : w.cell? ⟨fb, 2, none⟩ = some u2)
    (z0 : w.frozen? ⟨fb, 0, none⟩ = false) (z1 : w.frozen? ⟨fb, 1, none⟩ = false) (z2 : w.frozen? ⟨fb, 2, none⟩ = false) :
    Calls Tryd.prog 85 #[.agg #[.iface 43 (.agg #[.int .i64 c, .int .i64 l, x]), .int .i64 d, .pointer (some ⟨lb, 0, none⟩)], .iface 53 (.pointer (some ⟨fb, 0, none⟩))] w fun e w' =>
      e = .returned (.bool true) ∧ w'.cell? ⟨fb, 0, none⟩ = some (.int .i64 c) ∧ Below fb w w' := by
  have hs : ∀ a m w, (store a x m).run Tryd.prog w = stored Tryd.prog w a x m := fun a m w => run_store _ w a x m hx
  have t1 := tb53y
  go_enter Tryd.func85, Tryd.ntmps85
  go_wp2_with (first
    | (go_at_call 25; refine (faultOf_flt c l x _ hx).mono ?_; rintro e w1 ⟨rfl, hb⟩;
       have hz : w.heap.size + 1 ≤ w1.heap.size := (by have := hb.size; simpa using this); have hlt : fb < w1.heap.size := (by omega);
       have k0 : w1.cell? ⟨fb, 0, none⟩ = some u0 := (hb.cell (p := ⟨fb, 0, none⟩) (by simp; omega)).trans (by simp [go_sem, hf, h0]);
       have k1 : w1.cell? ⟨fb, 1, none⟩ = some u1 := (hb.cell (p := ⟨fb, 1, none⟩) (by simp; omega)).trans (by simp [go_sem, hf, h1]);
       have k2 : w1.cell? ⟨fb, 2, none⟩ = some u2 := (hb.cell (p := ⟨fb, 2, none⟩) (by simp; omega)).trans (by simp [go_sem, hf, h2]);
       have y0 : w1.frozen? ⟨fb, 0, none⟩ = false := (hb.frozen (p := ⟨fb, 0, none⟩) (by simp; omega)).trans (by simp [go_sem, hf, z0]);
       have y1 : w1.frozen? ⟨fb, 1, none⟩ = false := (hb.frozen (p := ⟨fb, 1, none⟩) (by simp; omega)).trans (by simp [go_sem, hf, z1]);
       have y2 : w1.frozen? ⟨fb, 2, none⟩ = false := (hb.frozen (p := ⟨fb, 2, none⟩) (by simp; omega)).trans (by simp [go_sem, hf, z2]);
       have HB : Hid _ := hb; clear hb)
    | fail)
  go_ret
  refine ⟨rfl, by simp [go_sem, hlt, k0], ?_⟩
  have hB : Below fb w w1 := ((box_below _ _).mono (by omega)).trans (HB.out.mono (by simp; omega))
  exact (((hB.setCell (by simp) _).setCell (by simp) _).setCell (by simp) _).alloc (by simp; omega) _

set_option maxRecDepth 100000 in
set_option maxHeartbeats 400000 in
theorem sas_ern (c d : Int) (lb : Nat) (p : Value) (w : World) :
    Calls Tryd.prog 85 #[.agg #[.iface 23 (.int .i64 c), .int .i64 d, .pointer (some ⟨lb, 0, none⟩)], .iface 53 p] w fun e w' => e = .returned (.bool false) ∧ Below w.heap.size w w' := by
  have t1 := tb53y
  go_enter Tryd.func85, Tryd.ntmps85
  go_wp2_with (first
    | (go_at_call 25; refine (faultOf_ern c _).mono ?_; rintro e w1 ⟨rfl, hb⟩; have HB : Hid _ := hb; clear hb)
    | fail)
  go_ret
  have hz := HB.out.size
  exact ⟨rfl, ((box_below _ _).trans (HB.out.mono (by simp))).alloc (by simp at hz; omega) _⟩

set_option maxRecDepth 100000 in
set_option maxHeartbeats 400000 in
theorem sas_code (c d : Int) (lb fb : Nat) (w : World) (hf : fb < w.heap.size) (u0 : Value) (h0 : w.cell? ⟨fb, 0, none⟩ = some u0) (z0 : w.frozen? ⟨fb, 0, none⟩ = false) :
    Calls Tryd.prog 85 #[.agg #[.iface 23 (.int .i64 c), .int .i64 d, .pointer (some ⟨lb, 0, none⟩)], .iface 54 (.pointer (some ⟨fb, 0, none⟩))] w fun e w' =>
      e = .returned (.bool true) ∧ w'.cell? ⟨fb, 0, none⟩ = some (.int .i64 c) ∧ Below fb w w' := by
  have t1 := tb53n
  have t2 := tb54y
  go_enter Tryd.func85, Tryd.ntmps85
  go_wp2_with (first
    | (go_at_call 29; refine (codeItself_ern c _).mono ?_; rintro e w1 ⟨rfl, rfl⟩)
    | fail)
  go_ret
  exact ⟨rfl, by simp [go_sem, hf, h0], ((Below.refl _ _).setCell (by simp) _).alloc (by simp; omega) _⟩

end Go.Proofs.YtghdiflnkbkgaaaDoor
