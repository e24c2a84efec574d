/- errors.Is and fault.Is of a chain. -/
import Derived.Test.YtghdiflnkbkgaaaDoorFl
namespace Go.Proofs.YtghdiflnkbkgaaaDoor
open Go.RowKit

theorem tof23 (v : Value) (w : World) : (callFunc 39 #[.iface 23 v]).run Tryd.prog w = .ok (.value (.iface 89 (.agg #[.pointer (some ⟨5, 23, none⟩)]))) w := by kernel_rfl
theorem cmp23 (w : World) : (callFunc 95 #[.agg #[.pointer (some ⟨5, 23, none⟩)]]).run Tryd.prog w = .ok (.value (.bool true)) w := by kernel_rfl
theorem m89Comparable (v : Value) (w : World) : (method 252 89 v "Comparable").run Tryd.prog w = .ok (95, v) w := by kernel_rfl

set_option maxRecDepth 100000 in
set_option maxHeartbeats 400000 in
theorem eIs_chn (b : Option Int) (tc : Int) (r : List (Int × Int)) (t : TypeId) (x : Value) (hx : chn b r = .iface t x) (hr : r.length < 1000) (lb B : Nat) (hB : B ≤ lb) (w : World) (hL : Left w lb 2147483646) :
    Calls Tryd.prog 27 #[.iface 51 (.agg #[.iface t x, .int .i64 1, .pointer (some ⟨lb, 0, none⟩)]), .iface 23 (.int .i64 tc)] w fun e w' => e = .returned (.bool (hasC b tc r)) ∧ Below B w w' := by
  have hc := is_chn b tc lb B hB r t x 1 2147483646 w hx (by omega) (by omega) (by omega) (by omega) hL
  have HC : Hid _ := hc
  clear hc hx hL
  generalize hasC b tc r = res at HC ⊢
  have tT := tof23
  have cT := cmp23
  have mR := m89Comparable
  go_enter Tryd.func27, Tryd.ntmps27
  go_wp2_with (go_at_call 40; refine Calls.mono HC.out ?_; rintro e w1 ⟨rfl, hb⟩; have HB : Hid _ := hb; clear hb HC)
  go_ret
  exact ⟨rfl, HB.out⟩

set_option maxRecDepth 100000 in
set_option maxHeartbeats 400000 in
theorem fIs_nil (tc : Int) (w : World) :
    Calls Tryd.prog 11 #[.nilIface, .int .i64 tc] w fun e w' => e = .returned (.bool false) ∧ w' = w := by
  go_enter Tryd.func11, Tryd.ntmps11
  go_wp2_with fail
  go_ret
  exact ⟨rfl, rfl⟩

set_option maxRecDepth 100000 in
set_option maxHeartbeats 400000 in
theorem fIs_chn (b : Option Int) (tc : Int) (r : List (Int × Int)) (hr : r.length < 1000) (w : World) :
    Calls Tryd.prog 11 #[chn b r, .int .i64 tc] w fun e w' => e = .returned (.bool (hasC b tc r)) ∧ Below w.heap.size w w' := by
  rcases chn_iface b r with hx | ⟨t, x, hx⟩
  · have hr : hasC b tc r = false := by
      cases r with
      | nil => cases b with
        | none => rfl
        | some c => simp [chn] at hx
      | cons p r => obtain ⟨_, _⟩ := p; simp [chn] at hx
    rw [hr, hx]
    exact (fIs_nil tc w).mono fun e w' h => ⟨h.1, h.2 ▸ Below.refl _ _⟩
  · rw [hx]
    have HC : Hid _ := fun (w1 : World) lb (hB : w.heap.size ≤ lb) hL => eIs_chn b tc r t x hx hr lb w.heap.size hB w1 hL
    clear hx hr
    generalize hasC b tc r = res at HC ⊢
    go_enter Tryd.func11, Tryd.ntmps11
    go_wp2_with (first
      | (go_at_call 22; refine (look_any (.iface t x) (.inr ⟨_, _, rfl⟩) _ _ (by omega) (by omega)).mono ?_; rintro e w1 ⟨rfl, hL, hb, _⟩; have HL : Hid _ := hL; have HB : Hid _ := hb; clear hL hb)
      | (go_at_call 27; refine Calls.mono (HC.out _ _ (by omega) (by simpa using HL.out)) ?_; rintro e w2 ⟨rfl, hb⟩; have HB2 : Hid _ := hb; clear hb HC))
    go_ret
    exact ⟨rfl, HB.out.trans HB2.out⟩
end Go.Proofs.YtghdiflnkbkgaaaDoor
