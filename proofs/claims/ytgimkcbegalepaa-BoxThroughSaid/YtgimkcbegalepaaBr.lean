/- The walk of the law BoxThrough. -/
import Derived.Deep.LoopGhost
import Derived.Test.YtgimkcbegalepaaRows
import Derived.Test.YtgimkcbegalepaaBp
import Derived.Test.YtgimkcbegalepaaBl
import Derived.Test.YtgimkcbegalepaaVv
namespace Go.Proofs.Ytgimkcbegalepaa
open Go.RowKit Fl

set_option maxRecDepth 100000 in
set_option maxHeartbeats 1000000 in
theorem through_walk (b0 b1 b2 b3 b4 b5 r0 r1 r2 r3 r4 r5 : Nat) (w : World) : Ret Try.prog 4 #[.agg #[.float .f64 b0, .float .f64 b1, .float .f64 b2, .float .f64 b3, .float .f64 b4, .float .f64 b5], .agg #[.float .f64 r0, .float .f64 r1, .float .f64 r2, .float .f64 r3, .float .f64 r4, .float .f64 r5]] w (fun v => v = .bool true) := by
  unfold Ret
  have HT : Hid _ := through_any b0 b1 b2 b3 b4 b5 r0 r1 r2 r3 r4 r5
  have HR : Hid _ := rthrough_any b0 b1 b2 b3 b4 b5 r0 r1 r2 r3 r4 r5
  generalize goesF b0 b1 b2 b3 b4 b5 r0 r1 r2 r3 r4 r5 = s at HT HR ⊢
  rcases s with _ | ⟨s1, s2⟩
  · simp only [outT] at HT HR
    go_enter Try.func4, Try.ntmps4
    go_wp2_with fail
    refine Lp.settleC (fun w' => Lp.Bk w' (w.heap.size) #[.float .f64 b0, .float .f64 b1, .float .f64 b2, .float .f64 b3, .float .f64 b4, .float .f64 b5] 26 ∧ Lp.Bk w' (w.heap.size + 1) #[.float .f64 r0, .float .f64 r1, .float .f64 r2, .float .f64 r3, .float .f64 r4, .float .f64 r5] 37 ∧ Cl w w') ⟨((Lp.Bk.al _ _ _).alo _), (Lp.Bk.al1 _ _ _ _), ((Below.refl _ _).alloc (by simp <;> omega) _).alloc (by simp <;> omega) _⟩ ?_
    rintro v1 ⟨BB, BR, HB⟩
    have kB := BB.cell
    have kR := BR.cell
    refine Calls.mono (HT.out _) ?_
    rintro e v2 ⟨v, rfl, rfl, hm⟩
    clear kB kR
    replace BB := BB.keep hm
    replace BR := BR.keep hm
    replace HB := HB.call hm
    clear hm
    have kB := BB.cell
    have kR := BR.cell
    go_wp2_with fail
    refine Calls.mono (HR.out _) ?_
    rintro e v3 ⟨v, rfl, rfl, hm⟩
    clear kB kR
    replace BB := BB.keep hm
    replace BR := BR.keep hm
    replace HB := HB.call hm
    clear hm
    have kB := BB.cell
    have kR := BR.cell
    go_wp2_with fail
    refine Calls.mono (awake_any _) ?_
    rintro e v4 ⟨v, rfl, rfl, hm⟩
    clear kB kR
    replace BB := BB.keep hm
    replace BR := BR.keep hm
    replace HB := HB.call hm
    clear hm
    have kB := BB.cell
    have kR := BR.cell
    go_wp2_with fail
    refine Calls.mono (rsame_true (Sm.refl _) _) ?_
    rintro e v5 ⟨v, rfl, rfl, hm⟩
    clear kB kR
    replace BB := BB.keep hm
    replace BR := BR.keep hm
    replace HB := HB.call hm
    clear hm
    have kB := BB.cell
    have kR := BR.cell
    go_wp2_with fail
    refine Calls.mono (rsame_true (Sm.refl _) _) ?_
    rintro e v6 ⟨v, rfl, rfl, hm⟩
    clear kB kR
    replace BB := BB.keep hm
    replace BR := BR.keep hm
    replace HB := HB.call hm
    clear hm
    have kB := BB.cell
    have kR := BR.cell
    go_wp2_with fail
    go_ret
    exact ⟨_, rfl, rfl, HB⟩
  · simp only [outT] at HT HR
    go_enter Try.func4, Try.ntmps4
    go_wp2_with fail
    refine Lp.settleC (fun w' => Lp.Bk w' (w.heap.size) #[.float .f64 b0, .float .f64 b1, .float .f64 b2, .float .f64 b3, .float .f64 b4, .float .f64 b5] 26 ∧ Lp.Bk w' (w.heap.size + 1) #[.float .f64 r0, .float .f64 r1, .float .f64 r2, .float .f64 r3, .float .f64 r4, .float .f64 r5] 37 ∧ Cl w w') ⟨((Lp.Bk.al _ _ _).alo _), (Lp.Bk.al1 _ _ _ _), ((Below.refl _ _).alloc (by simp <;> omega) _).alloc (by simp <;> omega) _⟩ ?_
    rintro v1 ⟨BB, BR, HB⟩
    have kB := BB.cell
    have kR := BR.cell
    refine Calls.mono (HT.out _) ?_
    rintro e v2 ⟨v, rfl, rfl, hm⟩
    clear kB kR
    replace BB := BB.keep hm
    replace BR := BR.keep hm
    replace HB := HB.call hm
    clear hm
    have kB := BB.cell
    have kR := BR.cell
    go_wp2_with fail
    refine Calls.mono (HR.out _) ?_
    rintro e v3 ⟨v, rfl, rfl, hm⟩
    clear kB kR
    replace BB := BB.keep hm
    replace BR := BR.keep hm
    replace HB := HB.call hm
    clear hm
    have kB := BB.cell
    have kR := BR.cell
    go_wp2_with fail
    refine Calls.mono (awake_any _) ?_
    rintro e v4 ⟨v, rfl, rfl, hm⟩
    clear kB kR
    replace BB := BB.keep hm
    replace BR := BR.keep hm
    replace HB := HB.call hm
    clear hm
    have kB := BB.cell
    have kR := BR.cell
    go_wp2_with fail
    refine Calls.mono (rsame_true (Sm.refl _) _) ?_
    rintro e v5 ⟨v, rfl, rfl, hm⟩
    clear kB kR
    replace BB := BB.keep hm
    replace BR := BR.keep hm
    replace HB := HB.call hm
    clear hm
    have kB := BB.cell
    have kR := BR.cell
    go_wp2_with fail
    refine Calls.mono (rsame_true (Sm.refl _) _) ?_
    rintro e v6 ⟨v, rfl, rfl, hm⟩
    clear kB kR
    replace BB := BB.keep hm
    replace BR := BR.keep hm
    replace HB := HB.call hm
    clear hm
    have kB := BB.cell
    have kR := BR.cell
    go_wp2_with fail
    go_ret
    exact ⟨_, rfl, rfl, HB⟩

end Go.Proofs.Ytgimkcbegalepaa
