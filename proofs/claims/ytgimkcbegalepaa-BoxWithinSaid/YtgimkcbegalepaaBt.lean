/- The walk of the law BoxWithin. -/
import Derived.Deep.LoopGhost
import Derived.Test.YtgimkcbegalepaaRows
import Derived.Test.YtgimkcbegalepaaBs
import Derived.Test.YtgimkcbegalepaaBp
import Derived.Test.YtgimkcbegalepaaBf
import Derived.Test.YtgimkcbegalepaaVs
namespace Go.Proofs.Ytgimkcbegalepaa
open Go.RowKit Fl

set_option maxRecDepth 100000 in
set_option maxHeartbeats 1000000 in
theorem within_walk (a0 a1 a2 a3 a4 a5 b0 b1 b2 b3 b4 b5 r0 r1 r2 r3 r4 r5 : Nat) (w : World) : Ret Try.prog 5 #[.agg #[.float .f64 a0, .float .f64 a1, .float .f64 a2, .float .f64 a3, .float .f64 a4, .float .f64 a5], .agg #[.float .f64 b0, .float .f64 b1, .float .f64 b2, .float .f64 b3, .float .f64 b4, .float .f64 b5], .agg #[.float .f64 r0, .float .f64 r1, .float .f64 r2, .float .f64 r3, .float .f64 r4, .float .f64 r5]] w (fun v => v = .bool true) := by
  unfold Ret
  have H1 : Hid _ := rfinite_any a0 a1 a2
  have H2 : Hid _ := rfinite_any a3 a4 a5
  have H3 : Hid _ := rfinite_any b0 b1 b2
  have H4 : Hid _ := rfinite_any b3 b4 b5
  have HT : Hid _ := through_any b0 b1 b2 b3 b4 b5 r0 r1 r2 r3 r4 r5
  have HC : Hid _ := through_any (lowF a0 b0) (lowF a1 b1) (lowF a2 b2) (highF a3 b3) (highF a4 b4) (highF a5 b5) r0 r1 r2 r3 r4 r5
  have HA : Hid _ := has_any (lowF a0 b0) (lowF a1 b1) (lowF a2 b2) (highF a3 b3) (highF a4 b4) (highF a5 b5) b0 b1 b2 b3 b4 b5
  have HM : Aside _ := (fun (h : (numB a0 && numB a1 && numB a2) = true ∧ (numB a3 && numB a4 && numB a5) = true ∧ (numB b0 && numB b1 && numB b2) = true ∧ (numB b3 && numB b4 && numB b5) = true) => And.intro (within_has (six_of h.1 h.2.1) (six_of h.2.2.1 h.2.2.2)) (fun s (k : goesF b0 b1 b2 b3 b4 b5 r0 r1 r2 r3 r4 r5 = some s) => within_goes (six_of h.1 h.2.1) (six_of h.2.2.1 h.2.2.2) k))
  generalize goesF b0 b1 b2 b3 b4 b5 r0 r1 r2 r3 r4 r5 = s at HT HM
  generalize goesF (lowF a0 b0) (lowF a1 b1) (lowF a2 b2) (highF a3 b3) (highF a4 b4) (highF a5 b5) r0 r1 r2 r3 r4 r5 = s2 at HC HM
  generalize hasF (lowF a0 b0) (lowF a1 b1) (lowF a2 b2) (highF a3 b3) (highF a4 b4) (highF a5 b5) b0 b1 b2 b3 b4 b5 = hs at HA HM
  generalize (numB a0 && numB a1 && numB a2) = p1 at H1 HM
  generalize (numB a3 && numB a4 && numB a5) = p2 at H2 HM
  generalize (numB b0 && numB b1 && numB b2) = p3 at H3 HM
  generalize (numB b3 && numB b4 && numB b5) = p4 at H4 HM
  cases p1
  · go_enter Try.func5, Try.ntmps5
    go_wp2_with fail
    refine Lp.settleC (fun w' => Lp.Bk w' (w.heap.size) #[.float .f64 a0, .float .f64 a1, .float .f64 a2, .float .f64 a3, .float .f64 a4, .float .f64 a5] 26 ∧ Lp.Bk w' (w.heap.size + 1) #[.float .f64 b0, .float .f64 b1, .float .f64 b2, .float .f64 b3, .float .f64 b4, .float .f64 b5] 26 ∧ Lp.Bk w' (w.heap.size + 1 + 1) #[.float .f64 r0, .float .f64 r1, .float .f64 r2, .float .f64 r3, .float .f64 r4, .float .f64 r5] 37 ∧ Cl w w') ⟨(((Lp.Bk.al _ _ _).alo _).alo _), ((Lp.Bk.al1 _ _ _ _).alo _), (Lp.Bk.al2 _ _ _ _ _), (((Below.refl _ _).alloc (by simp <;> omega) _).alloc (by simp <;> omega) _).alloc (by simp <;> omega) _⟩ ?_
    rintro v1 ⟨BA, BB, BR, HB⟩
    have kA := BA.cell
    have kB := BB.cell
    have kR := BR.cell
    refine Calls.mono (H1.out _) ?_
    rintro e v2 ⟨v, rfl, rfl, hm⟩
    clear kA kB kR
    replace BA := BA.keep hm
    replace BB := BB.keep hm
    replace BR := BR.keep hm
    replace HB := HB.call hm
    clear hm
    have kA := BA.cell
    have kB := BB.cell
    have kR := BR.cell
    go_wp2_with fail
    refine Calls.mono (awake_any _) ?_
    rintro e v3 ⟨v, rfl, rfl, hm⟩
    clear kA kB kR
    replace BA := BA.keep hm
    replace BB := BB.keep hm
    replace BR := BR.keep hm
    replace HB := HB.call hm
    clear hm
    have kA := BA.cell
    have kB := BB.cell
    have kR := BR.cell
    go_wp2_with fail
    go_ret
    exact ⟨_, rfl, rfl, HB⟩
  cases p2
  · go_enter Try.func5, Try.ntmps5
    go_wp2_with fail
    refine Lp.settleC (fun w' => Lp.Bk w' (w.heap.size) #[.float .f64 a0, .float .f64 a1, .float .f64 a2, .float .f64 a3, .float .f64 a4, .float .f64 a5] 26 ∧ Lp.Bk w' (w.heap.size + 1) #[.float .f64 b0, .float .f64 b1, .float .f64 b2, .float .f64 b3, .float .f64 b4, .float .f64 b5] 26 ∧ Lp.Bk w' (w.heap.size + 1 + 1) #[.float .f64 r0, .float .f64 r1, .float .f64 r2, .float .f64 r3, .float .f64 r4, .float .f64 r5] 37 ∧ Cl w w') ⟨(((Lp.Bk.al _ _ _).alo _).alo _), ((Lp.Bk.al1 _ _ _ _).alo _), (Lp.Bk.al2 _ _ _ _ _), (((Below.refl _ _).alloc (by simp <;> omega) _).alloc (by simp <;> omega) _).alloc (by simp <;> omega) _⟩ ?_
    rintro v1 ⟨BA, BB, BR, HB⟩
    have kA := BA.cell
    have kB := BB.cell
    have kR := BR.cell
    refine Calls.mono (H1.out _) ?_
    rintro e v2 ⟨v, rfl, rfl, hm⟩
    clear kA kB kR
    replace BA := BA.keep hm
    replace BB := BB.keep hm
    replace BR := BR.keep hm
    replace HB := HB.call hm
    clear hm
    have kA := BA.cell
    have kB := BB.cell
    have kR := BR.cell
    go_wp2_with fail
    refine Calls.mono (H2.out _) ?_
    rintro e v3 ⟨v, rfl, rfl, hm⟩
    clear kA kB kR
    replace BA := BA.keep hm
    replace BB := BB.keep hm
    replace BR := BR.keep hm
    replace HB := HB.call hm
    clear hm
    have kA := BA.cell
    have kB := BB.cell
    have kR := BR.cell
    go_wp2_with fail
    refine Calls.mono (awake_any _) ?_
    rintro e v4 ⟨v, rfl, rfl, hm⟩
    clear kA kB kR
    replace BA := BA.keep hm
    replace BB := BB.keep hm
    replace BR := BR.keep hm
    replace HB := HB.call hm
    clear hm
    have kA := BA.cell
    have kB := BB.cell
    have kR := BR.cell
    go_wp2_with fail
    go_ret
    exact ⟨_, rfl, rfl, HB⟩
  cases p3
  · go_enter Try.func5, Try.ntmps5
    go_wp2_with fail
    refine Lp.settleC (fun w' => Lp.Bk w' (w.heap.size) #[.float .f64 a0, .float .f64 a1, .float .f64 a2, .float .f64 a3, .float .f64 a4, .float .f64 a5] 26 ∧ Lp.Bk w' (w.heap.size + 1) #[.float .f64 b0, .float .f64 b1, .float .f64 b2, .float .f64 b3, .float .f64 b4, .float .f64 b5] 26 ∧ Lp.Bk w' (w.heap.size + 1 + 1) #[.float .f64 r0, .float .f64 r1, .float .f64 r2, .float .f64 r3, .float .f64 r4, .float .f64 r5] 37 ∧ Cl w w') ⟨(((Lp.Bk.al _ _ _).alo _).alo _), ((Lp.Bk.al1 _ _ _ _).alo _), (Lp.Bk.al2 _ _ _ _ _), (((Below.refl _ _).alloc (by simp <;> omega) _).alloc (by simp <;> omega) _).alloc (by simp <;> omega) _⟩ ?_
    rintro v1 ⟨BA, BB, BR, HB⟩
    have kA := BA.cell
    have kB := BB.cell
    have kR := BR.cell
    refine Calls.mono (H1.out _) ?_
    rintro e v2 ⟨v, rfl, rfl, hm⟩
    clear kA kB kR
    replace BA := BA.keep hm
    replace BB := BB.keep hm
    replace BR := BR.keep hm
    replace HB := HB.call hm
    clear hm
    have kA := BA.cell
    have kB := BB.cell
    have kR := BR.cell
    go_wp2_with fail
    refine Calls.mono (H2.out _) ?_
    rintro e v3 ⟨v, rfl, rfl, hm⟩
    clear kA kB kR
    replace BA := BA.keep hm
    replace BB := BB.keep hm
    replace BR := BR.keep hm
    replace HB := HB.call hm
    clear hm
    have kA := BA.cell
    have kB := BB.cell
    have kR := BR.cell
    go_wp2_with fail
    refine Calls.mono (H3.out _) ?_
    rintro e v4 ⟨v, rfl, rfl, hm⟩
    clear kA kB kR
    replace BA := BA.keep hm
    replace BB := BB.keep hm
    replace BR := BR.keep hm
    replace HB := HB.call hm
    clear hm
    have kA := BA.cell
    have kB := BB.cell
    have kR := BR.cell
    go_wp2_with fail
    refine Calls.mono (awake_any _) ?_
    rintro e v5 ⟨v, rfl, rfl, hm⟩
    clear kA kB kR
    replace BA := BA.keep hm
    replace BB := BB.keep hm
    replace BR := BR.keep hm
    replace HB := HB.call hm
    clear hm
    have kA := BA.cell
    have kB := BB.cell
    have kR := BR.cell
    go_wp2_with fail
    go_ret
    exact ⟨_, rfl, rfl, HB⟩
  cases p4
  · go_enter Try.func5, Try.ntmps5
    go_wp2_with fail
    refine Lp.settleC (fun w' => Lp.Bk w' (w.heap.size) #[.float .f64 a0, .float .f64 a1, .float .f64 a2, .float .f64 a3, .float .f64 a4, .float .f64 a5] 26 ∧ Lp.Bk w' (w.heap.size + 1) #[.float .f64 b0, .float .f64 b1, .float .f64 b2, .float .f64 b3, .float .f64 b4, .float .f64 b5] 26 ∧ Lp.Bk w' (w.heap.size + 1 + 1) #[.float .f64 r0, .float .f64 r1, .float .f64 r2, .float .f64 r3, .float .f64 r4, .float .f64 r5] 37 ∧ Cl w w') ⟨(((Lp.Bk.al _ _ _).alo _).alo _), ((Lp.Bk.al1 _ _ _ _).alo _), (Lp.Bk.al2 _ _ _ _ _), (((Below.refl _ _).alloc (by simp <;> omega) _).alloc (by simp <;> omega) _).alloc (by simp <;> omega) _⟩ ?_
    rintro v1 ⟨BA, BB, BR, HB⟩
    have kA := BA.cell
    have kB := BB.cell
    have kR := BR.cell
    refine Calls.mono (H1.out _) ?_
    rintro e v2 ⟨v, rfl, rfl, hm⟩
    clear kA kB kR
    replace BA := BA.keep hm
    replace BB := BB.keep hm
    replace BR := BR.keep hm
    replace HB := HB.call hm
    clear hm
    have kA := BA.cell
    have kB := BB.cell
    have kR := BR.cell
    go_wp2_with fail
    refine Calls.mono (H2.out _) ?_
    rintro e v3 ⟨v, rfl, rfl, hm⟩
    clear kA kB kR
    replace BA := BA.keep hm
    replace BB := BB.keep hm
    replace BR := BR.keep hm
    replace HB := HB.call hm
    clear hm
    have kA := BA.cell
    have kB := BB.cell
    have kR := BR.cell
    go_wp2_with fail
    refine Calls.mono (H3.out _) ?_
    rintro e v4 ⟨v, rfl, rfl, hm⟩
    clear kA kB kR
    replace BA := BA.keep hm
    replace BB := BB.keep hm
    replace BR := BR.keep hm
    replace HB := HB.call hm
    clear hm
    have kA := BA.cell
    have kB := BB.cell
    have kR := BR.cell
    go_wp2_with fail
    refine Calls.mono (H4.out _) ?_
    rintro e v5 ⟨v, rfl, rfl, hm⟩
    clear kA kB kR
    replace BA := BA.keep hm
    replace BB := BB.keep hm
    replace BR := BR.keep hm
    replace HB := HB.call hm
    clear hm
    have kA := BA.cell
    have kB := BB.cell
    have kR := BR.cell
    go_wp2_with fail
    refine Calls.mono (awake_any _) ?_
    rintro e v6 ⟨v, rfl, rfl, hm⟩
    clear kA kB kR
    replace BA := BA.keep hm
    replace BB := BB.keep hm
    replace BR := BR.keep hm
    replace HB := HB.call hm
    clear hm
    have kA := BA.cell
    have kB := BB.cell
    have kR := BR.cell
    go_wp2_with fail
    go_ret
    exact ⟨_, rfl, rfl, HB⟩
  obtain ⟨rfl, hm⟩ := HM.out ⟨rfl, rfl, rfl, rfl⟩
  clear HM
  rcases s with _ | ⟨s1, s2'⟩
  · clear hm
    simp only [outT] at HT
    rcases s2 with _ | ⟨m1, m2⟩ <;>
    · simp only [outT] at HC
      go_enter Try.func5, Try.ntmps5
      go_wp2_with fail
      refine Lp.settleC (fun w' => Lp.Bk w' (w.heap.size) #[.float .f64 a0, .float .f64 a1, .float .f64 a2, .float .f64 a3, .float .f64 a4, .float .f64 a5] 26 ∧ Lp.Bk w' (w.heap.size + 1) #[.float .f64 b0, .float .f64 b1, .float .f64 b2, .float .f64 b3, .float .f64 b4, .float .f64 b5] 26 ∧ Lp.Bk w' (w.heap.size + 1 + 1) #[.float .f64 r0, .float .f64 r1, .float .f64 r2, .float .f64 r3, .float .f64 r4, .float .f64 r5] 37 ∧ Cl w w') ⟨(((Lp.Bk.al _ _ _).alo _).alo _), ((Lp.Bk.al1 _ _ _ _).alo _), (Lp.Bk.al2 _ _ _ _ _), (((Below.refl _ _).alloc (by simp <;> omega) _).alloc (by simp <;> omega) _).alloc (by simp <;> omega) _⟩ ?_
      rintro v1 ⟨BA, BB, BR, HB⟩
      have kA := BA.cell
      have kB := BB.cell
      have kR := BR.cell
      refine Calls.mono (H1.out _) ?_
      rintro e v2 ⟨v, rfl, rfl, hm⟩
      clear kA kB kR
      replace BA := BA.keep hm
      replace BB := BB.keep hm
      replace BR := BR.keep hm
      replace HB := HB.call hm
      clear hm
      have kA := BA.cell
      have kB := BB.cell
      have kR := BR.cell
      go_wp2_with fail
      refine Calls.mono (H2.out _) ?_
      rintro e v3 ⟨v, rfl, rfl, hm⟩
      clear kA kB kR
      replace BA := BA.keep hm
      replace BB := BB.keep hm
      replace BR := BR.keep hm
      replace HB := HB.call hm
      clear hm
      have kA := BA.cell
      have kB := BB.cell
      have kR := BR.cell
      go_wp2_with fail
      refine Calls.mono (H3.out _) ?_
      rintro e v4 ⟨v, rfl, rfl, hm⟩
      clear kA kB kR
      replace BA := BA.keep hm
      replace BB := BB.keep hm
      replace BR := BR.keep hm
      replace HB := HB.call hm
      clear hm
      have kA := BA.cell
      have kB := BB.cell
      have kR := BR.cell
      go_wp2_with fail
      refine Calls.mono (H4.out _) ?_
      rintro e v5 ⟨v, rfl, rfl, hm⟩
      clear kA kB kR
      replace BA := BA.keep hm
      replace BB := BB.keep hm
      replace BR := BR.keep hm
      replace HB := HB.call hm
      clear hm
      have kA := BA.cell
      have kB := BB.cell
      have kR := BR.cell
      go_wp2_with fail
      refine Calls.mono (rjoin_any _ _ _ _ _ _ _ _ _ _ _ _ _) ?_
      rintro e v6 ⟨v, rfl, rfl, hm⟩
      clear kA kB kR
      replace BA := BA.keep hm
      replace BB := BB.keep hm
      replace BR := BR.keep hm
      replace HB := HB.call hm
      clear hm
      have kA := BA.cell
      have kB := BB.cell
      have kR := BR.cell
      have lA := BA.lt
      have nA : (w.heap.size = v6.heap.size) = False := eq_false (Nat.ne_of_lt lA)
      have lB := BB.lt
      have nB : (w.heap.size + 1 = v6.heap.size) = False := eq_false (Nat.ne_of_lt lB)
      have lR := BR.lt
      have nR : (w.heap.size + 1 + 1 = v6.heap.size) = False := eq_false (Nat.ne_of_lt lR)
      go_wp2_with fail
      clear lA nA lB nB lR nR
      refine Lp.settleC (fun w' => Lp.Bk w' (w.heap.size) #[.float .f64 a0, .float .f64 a1, .float .f64 a2, .float .f64 a3, .float .f64 a4, .float .f64 a5] 26 ∧ Lp.Bk w' (w.heap.size + 1) #[.float .f64 b0, .float .f64 b1, .float .f64 b2, .float .f64 b3, .float .f64 b4, .float .f64 b5] 26 ∧ Lp.Bk w' (w.heap.size + 1 + 1) #[.float .f64 r0, .float .f64 r1, .float .f64 r2, .float .f64 r3, .float .f64 r4, .float .f64 r5] 37 ∧ Lp.Bk w' (v6.heap.size) #[.float .f64 (lowF a0 b0), .float .f64 (lowF a1 b1), .float .f64 (lowF a2 b2), .float .f64 (highF a3 b3), .float .f64 (highF a4 b4), .float .f64 (highF a5 b5)] 26 ∧ Cl w w') ⟨BA.alo _, BB.alo _, BR.alo _, Lp.Bk.al _ _ _, HB.alloc _⟩ ?_
      clear kA kB kR
      rintro v7 ⟨BA, BB, BR, BC, HB⟩
      have kA := BA.cell
      have kB := BB.cell
      have kR := BR.cell
      have kC := BC.cell
      refine Calls.mono (HT.out _) ?_
      rintro e v8 ⟨v, rfl, rfl, hm⟩
      clear kA kB kR kC
      replace BA := BA.keep hm
      replace BB := BB.keep hm
      replace BR := BR.keep hm
      replace BC := BC.keep hm
      replace HB := HB.call hm
      clear hm
      have kA := BA.cell
      have kB := BB.cell
      have kR := BR.cell
      have kC := BC.cell
      go_wp2_with fail
      refine Calls.mono (HC.out _) ?_
      rintro e v9 ⟨v, rfl, rfl, hm⟩
      clear kA kB kR kC
      replace BA := BA.keep hm
      replace BB := BB.keep hm
      replace BR := BR.keep hm
      replace BC := BC.keep hm
      replace HB := HB.call hm
      clear hm
      have kA := BA.cell
      have kB := BB.cell
      have kR := BR.cell
      have kC := BC.cell
      go_wp2_with fail
      refine Calls.mono (awake_any _) ?_
      rintro e v10 ⟨v, rfl, rfl, hm⟩
      clear kA kB kR kC
      replace BA := BA.keep hm
      replace BB := BB.keep hm
      replace BR := BR.keep hm
      replace BC := BC.keep hm
      replace HB := HB.call hm
      clear hm
      have kA := BA.cell
      have kB := BB.cell
      have kR := BR.cell
      have kC := BC.cell
      go_wp2_with fail
      refine Calls.mono (HA.out _) ?_
      rintro e v11 ⟨v, rfl, rfl, hm⟩
      clear kA kB kR kC
      replace BA := BA.keep hm
      replace BB := BB.keep hm
      replace BR := BR.keep hm
      replace BC := BC.keep hm
      replace HB := HB.call hm
      clear hm
      have kA := BA.cell
      have kB := BB.cell
      have kR := BR.cell
      have kC := BC.cell
      go_wp2_with fail
      go_ret
      exact ⟨_, rfl, rfl, HB⟩
  · obtain ⟨⟨m1, m2⟩, rfl, q1, q2⟩ := hm _ rfl
    clear hm
    replace q1 := le_or q1
    replace q2 := ge_or q2
    simp only [outT] at HT HC q1 q2
    have Q : Aside _ := And.intro q1 q2
    clear q1 q2
    go_enter Try.func5, Try.ntmps5
    go_wp2_with fail
    refine Lp.settleC (fun w' => Lp.Bk w' (w.heap.size) #[.float .f64 a0, .float .f64 a1, .float .f64 a2, .float .f64 a3, .float .f64 a4, .float .f64 a5] 26 ∧ Lp.Bk w' (w.heap.size + 1) #[.float .f64 b0, .float .f64 b1, .float .f64 b2, .float .f64 b3, .float .f64 b4, .float .f64 b5] 26 ∧ Lp.Bk w' (w.heap.size + 1 + 1) #[.float .f64 r0, .float .f64 r1, .float .f64 r2, .float .f64 r3, .float .f64 r4, .float .f64 r5] 37 ∧ Cl w w') ⟨(((Lp.Bk.al _ _ _).alo _).alo _), ((Lp.Bk.al1 _ _ _ _).alo _), (Lp.Bk.al2 _ _ _ _ _), (((Below.refl _ _).alloc (by simp <;> omega) _).alloc (by simp <;> omega) _).alloc (by simp <;> omega) _⟩ ?_
    rintro v1 ⟨BA, BB, BR, HB⟩
    have kA := BA.cell
    have kB := BB.cell
    have kR := BR.cell
    refine Calls.mono (H1.out _) ?_
    rintro e v2 ⟨v, rfl, rfl, hm⟩
    clear kA kB kR
    replace BA := BA.keep hm
    replace BB := BB.keep hm
    replace BR := BR.keep hm
    replace HB := HB.call hm
    clear hm
    have kA := BA.cell
    have kB := BB.cell
    have kR := BR.cell
    go_wp2_with fail
    refine Calls.mono (H2.out _) ?_
    rintro e v3 ⟨v, rfl, rfl, hm⟩
    clear kA kB kR
    replace BA := BA.keep hm
    replace BB := BB.keep hm
    replace BR := BR.keep hm
    replace HB := HB.call hm
    clear hm
    have kA := BA.cell
    have kB := BB.cell
    have kR := BR.cell
    go_wp2_with fail
    refine Calls.mono (H3.out _) ?_
    rintro e v4 ⟨v, rfl, rfl, hm⟩
    clear kA kB kR
    replace BA := BA.keep hm
    replace BB := BB.keep hm
    replace BR := BR.keep hm
    replace HB := HB.call hm
    clear hm
    have kA := BA.cell
    have kB := BB.cell
    have kR := BR.cell
    go_wp2_with fail
    refine Calls.mono (H4.out _) ?_
    rintro e v5 ⟨v, rfl, rfl, hm⟩
    clear kA kB kR
    replace BA := BA.keep hm
    replace BB := BB.keep hm
    replace BR := BR.keep hm
    replace HB := HB.call hm
    clear hm
    have kA := BA.cell
    have kB := BB.cell
    have kR := BR.cell
    go_wp2_with fail
    refine Calls.mono (rjoin_any _ _ _ _ _ _ _ _ _ _ _ _ _) ?_
    rintro e v6 ⟨v, rfl, rfl, hm⟩
    clear kA kB kR
    replace BA := BA.keep hm
    replace BB := BB.keep hm
    replace BR := BR.keep hm
    replace HB := HB.call hm
    clear hm
    have kA := BA.cell
    have kB := BB.cell
    have kR := BR.cell
    have lA := BA.lt
    have nA : (w.heap.size = v6.heap.size) = False := eq_false (Nat.ne_of_lt lA)
    have lB := BB.lt
    have nB : (w.heap.size + 1 = v6.heap.size) = False := eq_false (Nat.ne_of_lt lB)
    have lR := BR.lt
    have nR : (w.heap.size + 1 + 1 = v6.heap.size) = False := eq_false (Nat.ne_of_lt lR)
    go_wp2_with fail
    clear lA nA lB nB lR nR
    refine Lp.settleC (fun w' => Lp.Bk w' (w.heap.size) #[.float .f64 a0, .float .f64 a1, .float .f64 a2, .float .f64 a3, .float .f64 a4, .float .f64 a5] 26 ∧ Lp.Bk w' (w.heap.size + 1) #[.float .f64 b0, .float .f64 b1, .float .f64 b2, .float .f64 b3, .float .f64 b4, .float .f64 b5] 26 ∧ Lp.Bk w' (w.heap.size + 1 + 1) #[.float .f64 r0, .float .f64 r1, .float .f64 r2, .float .f64 r3, .float .f64 r4, .float .f64 r5] 37 ∧ Lp.Bk w' (v6.heap.size) #[.float .f64 (lowF a0 b0), .float .f64 (lowF a1 b1), .float .f64 (lowF a2 b2), .float .f64 (highF a3 b3), .float .f64 (highF a4 b4), .float .f64 (highF a5 b5)] 26 ∧ Cl w w') ⟨BA.alo _, BB.alo _, BR.alo _, Lp.Bk.al _ _ _, HB.alloc _⟩ ?_
    clear kA kB kR
    rintro v7 ⟨BA, BB, BR, BC, HB⟩
    have kA := BA.cell
    have kB := BB.cell
    have kR := BR.cell
    have kC := BC.cell
    refine Calls.mono (HT.out _) ?_
    rintro e v8 ⟨v, rfl, rfl, hm⟩
    clear kA kB kR kC
    replace BA := BA.keep hm
    replace BB := BB.keep hm
    replace BR := BR.keep hm
    replace BC := BC.keep hm
    replace HB := HB.call hm
    clear hm
    have kA := BA.cell
    have kB := BB.cell
    have kR := BR.cell
    have kC := BC.cell
    go_wp2_with fail
    refine Calls.mono (HC.out _) ?_
    rintro e v9 ⟨v, rfl, rfl, hm⟩
    clear kA kB kR kC
    replace BA := BA.keep hm
    replace BB := BB.keep hm
    replace BR := BR.keep hm
    replace BC := BC.keep hm
    replace HB := HB.call hm
    clear hm
    have kA := BA.cell
    have kB := BB.cell
    have kR := BR.cell
    have kC := BC.cell
    go_wp2_with fail
    refine Calls.mono (awake_any _) ?_
    rintro e v10 ⟨v, rfl, rfl, hm⟩
    clear kA kB kR kC
    replace BA := BA.keep hm
    replace BB := BB.keep hm
    replace BR := BR.keep hm
    replace BC := BC.keep hm
    replace HB := HB.call hm
    clear hm
    have kA := BA.cell
    have kB := BB.cell
    have kR := BR.cell
    have kC := BC.cell
    go_wp2_with fail
    refine Calls.mono (HA.out _) ?_
    rintro e v11 ⟨v, rfl, rfl, hm⟩
    clear kA kB kR kC
    replace BA := BA.keep hm
    replace BB := BB.keep hm
    replace BR := BR.keep hm
    replace BC := BC.keep hm
    replace HB := HB.call hm
    clear hm
    have kA := BA.cell
    have kB := BB.cell
    have kR := BR.cell
    have kC := BC.cell
    obtain ⟨q1, q2⟩ := Q.out
    rcases q1 with q1 | q1 <;> rcases q2 with q2 | q2 <;>
    · go_wp2_with fail
      go_ret
      exact ⟨_, rfl, rfl, HB⟩

end Go.Proofs.Ytgimkcbegalepaa
