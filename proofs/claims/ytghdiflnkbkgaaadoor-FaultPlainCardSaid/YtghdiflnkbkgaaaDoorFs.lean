/- New, Wrap, and awake. -/
import Derived.Test.YtghdiflnkbkgaaaDoorFr
namespace Go.Proofs.YtghdiflnkbkgaaaDoor
open Go.RowKit

set_option maxRecDepth 100000 in
set_option maxHeartbeats 400000 in
theorem new_any (c l : Int) (hc : (c == 0) = false) (w : World) : Calls Tryd.prog 17 #[.int .i64 c, .int .i64 l] w fun e w' => e = .returned (.iface 43 (.agg #[.int .i64 c, .int .i64 l, .nilIface])) ∧ w' = w := by
  go_enter Tryd.func17, Tryd.ntmps17
  go_wp2_with fail
  go_ret
  exact ⟨rfl, rfl⟩

set_option maxRecDepth 100000 in
set_option maxHeartbeats 400000 in
theorem new_ok (l : Int) (w : World) : Calls Tryd.prog 17 #[.int .i64 0, .int .i64 l] w fun e w' => e = .returned .nilIface ∧ w' = w := by
  go_enter Tryd.func17, Tryd.ntmps17
  go_wp2_with fail
  go_ret
  exact ⟨rfl, rfl⟩

set_option maxRecDepth 100000 in
set_option maxHeartbeats 400000 in
theorem wrap_any (t : TypeId) (x : Value) (c l : Int) (hc : (c == 0) = false) (w : World) : Calls Tryd.prog 16 #[.iface t x, .int .i64 c, .int .i64 l] w fun e w' => e = .returned (.iface 43 (.agg #[.int .i64 c, .int .i64 l, .iface t x])) ∧ w' = w := by
  go_enter Tryd.func16, Tryd.ntmps16
  go_wp2_with fail
  go_ret
  exact ⟨rfl, rfl⟩

set_option maxRecDepth 100000 in
set_option maxHeartbeats 400000 in
theorem wrap_ok (t : TypeId) (x : Value) (l : Int) (w : World) : Calls Tryd.prog 16 #[.iface t x, .int .i64 0, .int .i64 l] w fun e w' => e = .returned (.iface t x) ∧ w' = w := by
  go_enter Tryd.func16, Tryd.ntmps16
  go_wp2_with fail
  go_ret
  exact ⟨rfl, rfl⟩

set_option maxRecDepth 100000 in
set_option maxHeartbeats 400000 in
theorem wrap_nil (c l : Int) (w : World) : Calls Tryd.prog 16 #[.nilIface, .int .i64 c, .int .i64 l] w fun e w' => e = .returned .nilIface ∧ w' = w := by
  go_enter Tryd.func16, Tryd.ntmps16
  go_wp2_with fail
  go_ret
  exact ⟨rfl, rfl⟩

abbrev awkE : Value := .iface 43 (.agg #[.int .i64 9, .int .i64 0, .iface 43 (.agg #[.int .i64 6, .int .i64 3, .nilIface])])

theorem awk6 (w : World) : Calls Tryd.prog 11 #[awkE, .int .i64 6] w fun e w' => e = .returned (.bool true) ∧ Below w.heap.size w w' := fIs_chn none 6 [(9, 0), (6, 3)] (by decide) w
theorem awk9 (w : World) : Calls Tryd.prog 11 #[awkE, .int .i64 9] w fun e w' => e = .returned (.bool true) ∧ Below w.heap.size w w' := fIs_chn none 9 [(9, 0), (6, 3)] (by decide) w
theorem awk2 (w : World) : Calls Tryd.prog 11 #[awkE, .int .i64 2] w fun e w' => e = .returned (.bool false) ∧ Below w.heap.size w w' := fIs_chn none 2 [(9, 0), (6, 3)] (by decide) w
theorem awkL (w : World) : Calls Tryd.prog 9 #[awkE] w fun e w' => e = .returned (.int .i64 3) ∧ Below w.heap.size w w' := line_any none [(9, 0), (6, 3)] (by decide) w
theorem awkD (w : World) : Calls Tryd.prog 10 #[awkE] w fun e w' => e = .returned (.int .i64 2) ∧ Below w.heap.size w w' := depth_any none [(9, 0), (6, 3)] (by decide) w
theorem awkC (w : World) (hG : w.cell? ⟨0, 0, none⟩ = some errType) (hG0 : 0 < w.heap.size) : Calls Tryd.prog 8 #[awkE] w fun e w' => e = .returned (.int .i64 9) ∧ Below w.heap.size w w' := code_flt 9 0 _ rfl w hG hG0

set_option maxRecDepth 100000 in
set_option maxHeartbeats 400000 in
theorem awake_any (w : World) (hG : w.cell? ⟨0, 0, none⟩ = some errType) (hG0 : 0 < w.heap.size) :
    Calls Tryd.prog 7 #[] w fun e w' => e = .returned (.bool true) ∧ Below w.heap.size w w' := by
  go_enter Tryd.func7, Tryd.ntmps7
  go_wp2_with (first
    | (go_at_call 17; refine (new_any 6 3 rfl _).mono ?_; rintro e w1 ⟨rfl, rfl⟩)
    | (go_at_call 16; refine (wrap_any _ _ 9 0 rfl _).mono ?_; rintro e w1 ⟨rfl, rfl⟩))
  refine (awk6 _).mono ?_
  rintro e w1 ⟨rfl, hb⟩
  have HB1 : Hid _ := hb
  clear hb
  go_wp2_with fail
  refine (awk9 _).mono ?_
  rintro e w2 ⟨rfl, hb⟩
  have HB2 : Hid _ := HB1.out.trans (hb.mono HB1.out.size)
  clear hb HB1
  go_wp2_with fail
  refine (awk2 _).mono ?_
  rintro e w3 ⟨rfl, hb⟩
  have HB3 : Hid _ := HB2.out.trans (hb.mono HB2.out.size)
  clear hb HB2
  go_wp2_with fail
  refine (awkC _ ((HB3.out.cell (p := ⟨0, 0, none⟩) hG0).trans hG) (by have := HB3.out.size; omega)).mono ?_
  rintro e w4 ⟨rfl, hb⟩
  have HB4 : Hid _ := HB3.out.trans (hb.mono HB3.out.size)
  clear hb HB3
  go_wp2_with fail
  refine (awkL _).mono ?_
  rintro e w5 ⟨rfl, hb⟩
  have HB5 : Hid _ := HB4.out.trans (hb.mono HB4.out.size)
  clear hb HB4
  go_wp2_with fail
  refine (awkD _).mono ?_
  rintro e w6 ⟨rfl, hb⟩
  have HB6 : Hid _ := HB5.out.trans (hb.mono HB5.out.size)
  clear hb HB5
  go_wp2_with fail
  go_ret
  exact ⟨rfl, HB6.out⟩
end Go.Proofs.YtghdiflnkbkgaaaDoor
