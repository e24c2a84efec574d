/- errors.As of a sight, and fault.Code. -/
import Derived.Test.YtghdiflnkbkgaaaDoorFq
namespace Go.Proofs.YtghdiflnkbkgaaaDoor
open Go.RowKit

/-- What errors.errorType holds: the type error. -/
abbrev errType : Value := .iface 89 (.agg #[.pointer (some ⟨5, 25, none⟩)])

set_option maxRecDepth 100000 in
set_option maxHeartbeats 400000 in
theorem eAs_flt (c l : Int) (x : Value) (hx : x.oneCell' = true) (d : Int) (lb fb : Nat) (w : World) (hf : fb < w.heap.size) (u0 u1 u2 : Value)
    (hG : w.cell? ⟨0, 0, none⟩ = some errType) (hG0 : 0 < w.heap.size)
    (h0 : w.cell? ⟨fb, 0, none⟩ = some u0) (h1 : w.cell? ⟨fb, 1, none⟩ = some u1) (h2 : w.cell? ⟨fb, 2, none⟩ = some u2)
    (z0 : w.frozen? ⟨fb, 0, none⟩ = false) (z1 : w.frozen? ⟨fb, 1, none⟩ = false) (z2 : w.frozen? ⟨fb, 2, none⟩ = false) :
    Calls Tryd.prog 21 #[.iface 51 (.agg #[.iface 43 (.agg #[.int .i64 c, .int .i64 l, x]), .int .i64 d, .pointer (some ⟨lb, 0, none⟩)]), .iface 53 (.pointer (some ⟨fb, 0, none⟩))] w fun e w' =>
      e = .returned (.bool true) ∧ w'.cell? ⟨fb, 0, none⟩ = some (.int .i64 c) ∧ Below fb w w' := by
  have t1 := vof53 ⟨fb, 0, none⟩
  have t2 := vty53
  have t3 := m89Kind
  have t4 := knd53
  have t5 := nil53
  have t6 := m89Elem
  have t7 := elm53
  have t8 := knd43
  have t9 := m89Impl
  have t10 := imp43
  go_enter Tryd.func21, Tryd.ntmps21
  go_wp2_with (first
    | (go_at_call 37; refine (as_flt c l x hx d lb fb _ _ _ _ ⟨rfl, rfl, rfl⟩ (by simp; omega) u0 u1 u2 (by simp [go_sem, hf, h0]) (by simp [go_sem, hf, h1]) (by simp [go_sem, hf, h2]) (by simp [go_sem, hf, z0]) (by simp [go_sem, hf, z1]) (by simp [go_sem, hf, z2])).mono ?_; rintro e w1 ⟨rfl, hc, hb⟩; have HB : Hid _ := hb; clear hb)
    | fail)
  go_ret
  exact ⟨rfl, hc, ((((Below.refl _ _).alloc (by omega) _).alloc (by simp; omega) _).trans HB.out)⟩

set_option maxRecDepth 100000 in
set_option maxHeartbeats 400000 in
theorem eAs_ern (c d : Int) (lb fb : Nat) (w : World) (hd : 1 ≤ d ∧ d < 65536) (hG : w.cell? ⟨0, 0, none⟩ = some errType) (hG0 : 0 < w.heap.size) :
    Calls Tryd.prog 21 #[.iface 51 (.agg #[.iface 23 (.int .i64 c), .int .i64 d, .pointer (some ⟨lb, 0, none⟩)]), .iface 53 (.pointer (some ⟨fb, 0, none⟩))] w fun e w' =>
      e = .returned (.bool false) ∧ Below w.heap.size w w' := by
  have t1 := vof53 ⟨fb, 0, none⟩
  have t2 := vty53
  have t3 := m89Kind
  have t4 := knd53
  have t5 := nil53
  have t6 := m89Elem
  have t7 := elm53
  have t8 := knd43
  have t9 := m89Impl
  have t10 := imp43
  go_enter Tryd.func21, Tryd.ntmps21
  go_wp2_with (first
    | (go_at_call 37; refine (as_ern c d lb _ _ _ _ _ hd ⟨rfl, rfl, rfl⟩).mono ?_; rintro e w1 ⟨rfl, hb⟩; have HB : Hid _ := hb; clear hb)
    | fail)
  go_ret
  exact ⟨rfl, ((((Below.refl _ _).alloc (by omega) _).alloc (by simp) _).trans (HB.out.mono (by simp; omega)))⟩

set_option maxRecDepth 100000 in
set_option maxHeartbeats 400000 in
theorem eAs_code (c d : Int) (lb fb : Nat) (w : World) (hf : fb < w.heap.size) (u0 : Value) (hG : w.cell? ⟨0, 0, none⟩ = some errType) (hG0 : 0 < w.heap.size)
    (h0 : w.cell? ⟨fb, 0, none⟩ = some u0) (z0 : w.frozen? ⟨fb, 0, none⟩ = false) :
    Calls Tryd.prog 21 #[.iface 51 (.agg #[.iface 23 (.int .i64 c), .int .i64 d, .pointer (some ⟨lb, 0, none⟩)]), .iface 54 (.pointer (some ⟨fb, 0, none⟩))] w fun e w' =>
      e = .returned (.bool true) ∧ w'.cell? ⟨fb, 0, none⟩ = some (.int .i64 c) ∧ Below fb w w' := by
  have t1 := vof54 ⟨fb, 0, none⟩
  have t2 := vty54
  have t3 := m89Kind
  have t4 := knd54
  have t5 := nil54
  have t6 := m89Elem
  have t7 := elm54
  have t8 := knd23
  have t9 := m89Impl
  have t10 := imp23
  go_enter Tryd.func21, Tryd.ntmps21
  go_wp2_with (first
    | (go_at_call 37; refine (as_code c d lb fb _ _ _ _ ⟨rfl, rfl, rfl⟩ (by simp; omega) u0 (by simp [go_sem, hf, h0]) (by simp [go_sem, hf, z0])).mono ?_; rintro e w1 ⟨rfl, hc, hb⟩; have HB : Hid _ := hb; clear hb)
    | fail)
  go_ret
  exact ⟨rfl, hc, ((((Below.refl _ _).alloc (by omega) _).alloc (by simp; omega) _).trans HB.out)⟩

set_option maxRecDepth 100000 in
set_option maxHeartbeats 400000 in
theorem code_nil (w : World) : Calls Tryd.prog 8 #[.nilIface] w fun e w' => e = .returned (.int .i64 0) ∧ w' = w := by
  go_enter Tryd.func8, Tryd.ntmps8
  go_wp2_with fail
  go_ret
  exact ⟨rfl, rfl⟩

set_option maxRecDepth 100000 in
set_option maxHeartbeats 400000 in
theorem code_flt (c l : Int) (x : Value) (hx : x.oneCell' = true) (w : World) (hG : w.cell? ⟨0, 0, none⟩ = some errType) (hG0 : 0 < w.heap.size) :
    Calls Tryd.prog 8 #[.iface 43 (.agg #[.int .i64 c, .int .i64 l, x])] w fun e w' => e = .returned (.int .i64 c) ∧ Below w.heap.size w w' := by
  go_enter Tryd.func8, Tryd.ntmps8
  go_wp2_with (first
    | (go_at_call 22; refine (look_any _ (.inr ⟨_, _, rfl⟩) _ _ (by omega) (by omega)).mono ?_; rintro e w1 ⟨rfl, hL, hb, hz⟩;
       have HB : Hid _ := hb; have HZ : w1.heap.size = w.heap.size + 3 := (by simp at hz; omega); clear hb hL hz)
    | (go_at_call 21; refine (eAs_flt c l x hx 1 _ w.heap.size _ (by omega) (.int .i64 0) (.int .i64 0) .nilIface ?_ (by omega) ?_ ?_ ?_ ?_ ?_ ?_).mono ?_;
       exact (HB.out.cell (p := ⟨0, 0, none⟩) (by simp)).trans (by simp [go_sem, hG0, hG]);
       exact (HB.out.cell (p := ⟨w.heap.size, 0, none⟩) (by simp)).trans (cell_new rfl rfl);
       exact (HB.out.cell (p := ⟨w.heap.size, 1, none⟩) (by simp)).trans (cell_new rfl rfl);
       exact (HB.out.cell (p := ⟨w.heap.size, 2, none⟩) (by simp)).trans (cell_new rfl rfl);
       exact (HB.out.frozen (p := ⟨w.heap.size, 0, none⟩) (by simp)).trans (by simp [go_sem]);
       exact (HB.out.frozen (p := ⟨w.heap.size, 1, none⟩) (by simp)).trans (by simp [go_sem]);
       exact (HB.out.frozen (p := ⟨w.heap.size, 2, none⟩) (by simp)).trans (by simp [go_sem]);
       rintro e w2 ⟨rfl, hc, hb⟩; have HB2 : Hid _ := hb; clear hb)
    | fail)
  go_ret
  exact ⟨rfl, ((box_below _ _).trans (HB.out.mono (by simp))).trans HB2.out⟩

set_option maxRecDepth 100000 in
set_option maxHeartbeats 400000 in
theorem code_ern (c : Int) (w : World) (hG : w.cell? ⟨0, 0, none⟩ = some errType) (hG0 : 0 < w.heap.size) :
    Calls Tryd.prog 8 #[.iface 23 (.int .i64 c)] w fun e w' => e = .returned (.int .i64 c) ∧ Below w.heap.size w w' := by
  go_enter Tryd.func8, Tryd.ntmps8
  go_wp2_with (first
    | (go_at_call 22; refine (look_any _ (.inr ⟨_, _, rfl⟩) _ _ (by omega) (by omega)).mono ?_; rintro e w1 ⟨rfl, hL, hb, hz⟩; have HB : Hid _ := hb; clear hb hL hz)
    | fail)
  refine (eAs_ern c 1 _ _ _ (by omega) ((HB.out.cell (p := ⟨0, 0, none⟩) (by simp)).trans (by simp [go_sem, hG0, hG])) (by have := HB.out.size; simp at this; omega)).mono ?_
  rintro e w2 ⟨rfl, hb⟩
  have HB2 : Hid _ := hb
  clear hb
  go_wp2_with (first
    | (go_at_call 22; refine (look_any _ (.inr ⟨_, _, rfl⟩) _ _ (by omega) (by omega)).mono ?_; rintro e w3 ⟨rfl, hL, hb, hz⟩; have HB3 : Hid _ := hb; clear hb hL hz)
    | fail)
  have hz1 := HB.out.size
  have hz2 := HB2.out.size
  have hz3 := HB3.out.size
  simp at hz1 hz3
  have hG2 : w2.cell? ⟨0, 0, none⟩ = some errType := (HB2.out.cell (p := ⟨0, 0, none⟩) (by show 0 < _; omega)).trans ((HB.out.cell (p := ⟨0, 0, none⟩) (by simp)).trans (by simp [go_sem, hG0, hG]))
  have h02 : 0 < w2.heap.size := by omega
  refine (eAs_code c 1 _ _ _ (by omega) (.int .i64 0) ((HB3.out.cell (p := ⟨0, 0, none⟩) (by simp)).trans (by simp [go_sem, h02, hG2])) (by omega) ((HB3.out.cell (p := ⟨w2.heap.size, 0, none⟩) (by simp)).trans (cell_new rfl rfl)) ((HB3.out.frozen (p := ⟨w2.heap.size, 0, none⟩) (by simp)).trans (by simp [go_sem]))).mono ?_
  rintro e w4 ⟨rfl, hc, hb⟩
  have HB4 : Hid _ := hb
  clear hb
  go_wp2_with fail
  go_ret
  have k1 : Below w.heap.size w w2 := ((box_below _ _).trans (HB.out.mono (by simp))).trans (HB2.out.mono (by omega))
  exact ⟨rfl, ((k1.alloc (by omega) _).trans (HB3.out.mono (by simp; omega))).trans (HB4.out.mono (by omega))⟩
end Go.Proofs.YtghdiflnkbkgaaaDoor
