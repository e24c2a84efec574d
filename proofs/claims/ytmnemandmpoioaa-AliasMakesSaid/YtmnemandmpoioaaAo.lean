/- Package alias: the walk of AliasMakes. -/
import Derived.Deep.LoopGhost
import Derived.Test.YtmnemandmpoioaaAn
import Derived.Test.YtmnemandmpoioaaAk
namespace Go.Proofs.Ytmnemandmpoioaa
open Go.RowKit Fl

section
variable (n c : Nat) (ao : Option Addr) (f : Nat → Int) (at0 : Int) (w : World)
set_option maxRecDepth 100000 in
set_option maxHeartbeats 2000000 in
theorem makes_out (h : 1100 < n ∨ (60 < n ∧ n ≤ 1024)) : Ret Try.prog 3 #[.slice ao n c, .int .i64 at0] w (fun v => v = .bool true) := by
  unfold Ret
  have HA := hid (fun w => awake_any w)
  by_cases h1 : 1100 < n
  · have hd : (1100 < (n : Int)) = True := eq_true (by omega)
    go_enter Try.func3, Try.ntmps3
    go_wp2_with fail
    refine Calls.mono (HA.out _) ?_
    rintro e w1 ⟨v, rfl, rfl, hb⟩
    go_wp2_with fail
    go_ret
    exact ⟨_, rfl, rfl, hb⟩
  · have hd : (1100 < (n : Int)) = False := eq_false (by omega)
    have hd2 : (60 < (n : Int)) = True := eq_true (by omega)
    have hd3 : ((n : Int) ≤ 1024) = True := eq_true (by omega)
    go_enter Try.func3, Try.ntmps3
    go_wp2_with fail
    refine Calls.mono (HA.out _) ?_
    rintro e w1 ⟨v, rfl, rfl, hb⟩
    go_wp2_with fail
    go_ret
    exact ⟨_, rfl, rfl, hb⟩

set_option maxRecDepth 100000 in
set_option maxHeartbeats 2000000 in
theorem makes_big (hF : Nms w ao n f) (h : 1024 < n) (h2 : n ≤ 1100) : Ret Try.prog 3 #[.slice ao n c, .int .i64 at0] w (fun v => v = .bool true) := by
  unfold Ret
  have HA := hid (fun w => awake_any w)
  have HN := hid (new_big n c ao w h (by omega))
  have HT := hid (fun w1 (hb : Below w.heap.size w w1) => rtotal_any n c ao f w1 (hF.keep hb) (by omega))
  have hd : (1100 < (n : Int)) = False := eq_false (by omega)
  have hd2 : (60 < (n : Int)) = True := eq_true (by omega)
  have hd3 : ((n : Int) ≤ 1024) = False := eq_false (by omega)
  have hd4 : (1024 < (n : Int)) = True := eq_true (by omega)
  generalize totF n f = t at *
  clear hF
  go_enter Try.func3, Try.ntmps3
  go_wp2_with fail
  refine Calls.mono HN.out ?_
  rintro e w1 ⟨rfl, hb⟩
  have HB := hid hb
  clear hb
  go_wp2_with fail
  refine Calls.mono (HT.out _ HB.out) ?_
  rintro e w2 ⟨rfl, hw⟩
  obtain rfl := hw.symm
  clear hw
  go_wp2_with fail
  refine Calls.mono (HA.out _) ?_
  rintro e w3 ⟨v, rfl, rfl, hb⟩
  have HB2 := hid (HB.out.trans (hb.mono HB.out.size))
  clear hb
  go_wp2_with fail
  go_ret
  exact ⟨_, rfl, rfl, HB2.out⟩

set_option maxRecDepth 100000 in
set_option maxHeartbeats 2000000 in
theorem makes_none : Ret Try.prog 3 #[.slice ao 0 c, .int .i64 at0] w (fun v => v = .bool true) := by
  unfold Ret
  have HA := hid (fun w => awake_any w)
  have HN := hid (new_none c ao w)
  have HT := hid (fun w1 => rtotal_any 0 c ao (fun _ => 0) w1 (.inl rfl) (by omega))
  generalize totF 0 (fun _ => 0) = t at *
  go_enter Try.func3, Try.ntmps3
  go_wp2_with fail
  refine Calls.mono HN.out ?_
  rintro e w1 ⟨rfl, hb⟩
  have HB := hid hb
  clear hb
  go_wp2_with fail
  refine Calls.mono (HT.out _) ?_
  rintro e w2 ⟨rfl, hw⟩
  obtain rfl := hw.symm
  clear hw
  go_wp2_with fail
  refine Calls.mono (HA.out _) ?_
  rintro e w3 ⟨v, rfl, rfl, hb⟩
  have HB2 := hid (HB.out.trans (hb.mono HB.out.size))
  clear hb
  go_wp2_with fail
  go_ret
  exact ⟨_, rfl, rfl, HB2.out⟩

set_option maxRecDepth 100000 in
set_option maxHeartbeats 2000000 in
theorem makes_bad (hF : Nms w ao n f) (h0 : 0 < n) (h : n ≤ 60) (hb : 0 ≤ firstBad f 0 n) : Ret Try.prog 3 #[.slice ao n c, .int .i64 at0] w (fun v => v = .bool true) := by
  unfold Ret
  have HA := hid (fun w => awake_any w)
  have HN := hid (new_bad n c ao f w hF (by omega) h0 hb)
  have HT := hid (fun w1 (hb : Below w.heap.size w w1) => rtotal_any n c ao f w1 (hF.keep hb) (by omega))
  rw [show totF n f = -1 from if_pos hb] at HT
  have hd : (1100 < (n : Int)) = False := eq_false (by omega)
  have hd2 : (60 < (n : Int)) = False := eq_false (by omega)
  have hd4 : (1024 < (n : Int)) = False := eq_false (by omega)
  have hd5 : ((n : Int) = 0) = False := eq_false (by omega)
  have hd6 : ((n : Int) == 0) = false := beq_eq_false_iff_ne.2 (by omega)
  clear hF hb
  go_enter Try.func3, Try.ntmps3
  go_wp2_with fail
  refine Calls.mono HN.out ?_
  rintro e w1 ⟨rfl, hb⟩
  have HB := hid hb
  clear hb
  go_wp2_with fail
  refine Calls.mono (HT.out _ HB.out) ?_
  rintro e w2 ⟨rfl, hw⟩
  obtain rfl := hw.symm
  clear hw
  go_wp2_with fail
  refine Calls.mono (HA.out _) ?_
  rintro e w3 ⟨v, rfl, rfl, hb⟩
  have HB2 := hid (HB.out.trans (hb.mono HB.out.size))
  clear hb
  go_wp2_with fail
  go_ret
  exact ⟨_, rfl, rfl, HB2.out⟩

set_option maxRecDepth 100000 in
set_option maxHeartbeats 2000000 in
theorem makes_zero (hF : Nms w ao n f) (h0 : 0 < n) (h : n ≤ 60) (hb : firstBad f 0 n < 0) (hs : sumN f n = 0) : Ret Try.prog 3 #[.slice ao n c, .int .i64 at0] w (fun v => v = .bool true) := by
  unfold Ret
  have HA := hid (fun w => awake_any w)
  have hN := new_good n c ao f w hF (by omega) h0 hb
  rw [hs] at hN
  have HN := hid hN
  have HT := hid (fun w1 (hb : Below w.heap.size w w1) => rtotal_any n c ao f w1 (hF.keep hb) (by omega))
  rw [show totF n f = 0 from (if_neg (by omega)).trans hs] at HT
  have hd : (1100 < (n : Int)) = False := eq_false (by omega)
  have hd2 : (60 < (n : Int)) = False := eq_false (by omega)
  have hd4 : (1024 < (n : Int)) = False := eq_false (by omega)
  have hd5 : ((n : Int) = 0) = False := eq_false (by omega)
  have hd6 : ((n : Int) == 0) = false := beq_eq_false_iff_ne.2 (by omega)
  clear hF hb hs hN
  go_enter Try.func3, Try.ntmps3
  go_wp2_with fail
  refine Calls.mono HN.out ?_
  rintro e w1 ⟨hb, he⟩
  simp only [if_true] at he
  obtain rfl := he
  have HB := hid hb
  clear hb
  go_wp2_with fail
  refine Calls.mono (HT.out _ HB.out) ?_
  rintro e w2 ⟨rfl, hw⟩
  obtain rfl := hw.symm
  clear hw
  go_wp2_with fail
  refine Calls.mono (HA.out _) ?_
  rintro e w3 ⟨v, rfl, rfl, hb⟩
  have HB2 := hid (HB.out.trans (hb.mono HB.out.size))
  clear hb
  go_wp2_with fail
  go_ret
  exact ⟨_, rfl, rfl, HB2.out⟩
end
end Go.Proofs.Ytmnemandmpoioaa
