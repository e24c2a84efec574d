/- Package tape: Need. -/
import Derived.Test.YthbcbeaagmgafaaRows
import Derived.Test.YthbcbeaagmgafaaTc
namespace Go.Proofs.Ythbcbeaagmgafaa
open Go.RowKit Fl

theorem al_below {W w : World} (h : Below W.heap.size W w) (o : Obj) : Below W.heap.size W (w.alloc o) := Below.alloc h h.size o
theorem div_lt {e s : Int} (he : 1 ≤ e) : 4194304 / e < s ↔ 4194304 < e * s := by
  rw [Int.ediv_lt_iff_lt_mul (by omega), Int.mul_comm]
theorem pos_mul {a b : Int} (ha : 1 ≤ a) (hb : 1 ≤ b) : 1 ≤ a * b := by
  have := Int.mul_le_mul ha hb (by omega) (by omega)
  omega

set_option maxRecDepth 100000 in
set_option maxHeartbeats 4000000 in
theorem need_any (x y s d : Int) (w : World) : Ret Try.prog 16 #[.int .i64 x, .int .i64 y, .int .i64 s, .int .i64 d] w (fun v => v = outN (needF x y s d)) := by
  unfold Ret
  have HS : Hid _ := slots_any d
  have HA : Hid _ := within2 1 8192 x y
  have HC : Hid _ := within1 1 65536 s
  by_cases c1 : (1 ≤ x ∧ x ≤ 8192) ∧ 1 ≤ y ∧ y ≤ 8192
  · rw [decide_eq_true c1] at HA
    by_cases c2 : 1 ≤ s ∧ s ≤ 65536
    · rw [decide_eq_true c2] at HC
      by_cases c3 : 0 ≤ d ∧ d ≤ 64
      · have hn : needF x y s d = (if 65536 < x * y then (0, 4) else if 4194304 < x * y * s * slotsF d then (0, 4) else (x * y * s * slotsF d, 0)) := if_pos ⟨c1.1, c1.2, c2, c3⟩
        rw [hn]
        clear hn
        have hsl : 12 ≤ slotsF d := by rw [slots_on c3]; omega
        have hsu := (slots_bound d).2
        obtain ⟨⟨h0, h1⟩, h2, h3⟩ := c1
        obtain ⟨h4, h5⟩ := c2
        clear c3
        generalize slotsF d = sl at *
        have hz : (sl = 0) = False := eq_false (by omega)
        have p1 := mul_le (a := x) (b := y) (by omega) (by omega) h1 h3
        by_cases q1 : 65536 < x * y
        · rw [if_pos q1]
          go_enter Try.func16, Try.ntmps16
          go_wp2_with fail
          refine Calls.mono (HS.out _) ?_
          rintro e w1 ⟨v, rfl, rfl, hb⟩
          go_wp2_with fail
          refine Calls.mono (HA.out _ _ _ (Lp.Bk.al _ _ _)) ?_
          rintro e w' ⟨rfl, hw⟩
          obtain rfl := hw.symm
          clear hw
          go_wp2_with fail
          refine Calls.mono (HC.out _ _ _ (Lp.Bk.al1 _ _ _ _)) ?_
          rintro e w' ⟨rfl, hw⟩
          obtain rfl := hw.symm
          clear hw
          go_wp2_with fail
          go_ret2
          exact ⟨_, rfl, rfl, (al_below (al_below hb _) _)⟩
        · rw [if_neg q1]
          have p0 := pos_mul h0 h2
          have p2 := mul_le (a := x * y) (b := sl) (by omega) (by omega) (Int.not_lt.1 q1) hsu
          have p3 := pos_mul p0 (show 1 ≤ sl by omega)
          have hcm : x * y * s * sl = x * y * sl * s := by rw [Int.mul_assoc, Int.mul_comm s sl, Int.mul_assoc (x * y) sl s]
          have hz2 : (x * y * sl = 0) = False := eq_false (by omega)
          rw [hcm]
          have hq := div_lt (e := x * y * sl) (s := s) p3
          by_cases q2 : 4194304 < x * y * sl * s
          · rw [if_pos q2]
            have hq2 : (4194304 / (x * y * sl) < s) = True := eq_true (hq.2 q2)
            clear hq hcm
            go_enter Try.func16, Try.ntmps16
            go_wp2_with fail
            refine Calls.mono (HS.out _) ?_
            rintro e w1 ⟨v, rfl, rfl, hb⟩
            go_wp2_with fail
            refine Calls.mono (HA.out _ _ _ (Lp.Bk.al _ _ _)) ?_
            rintro e w' ⟨rfl, hw⟩
            obtain rfl := hw.symm
            clear hw
            go_wp2_with fail
            refine Calls.mono (HC.out _ _ _ (Lp.Bk.al1 _ _ _ _)) ?_
            rintro e w' ⟨rfl, hw⟩
            obtain rfl := hw.symm
            clear hw
            go_wp2_with fail
            go_ret2
            exact ⟨_, rfl, rfl, (al_below (al_below hb _) _)⟩
          · rw [if_neg q2]
            have hq2 : (4194304 / (x * y * sl) < s) = False := eq_false fun k => q2 (hq.1 k)
            have p4 := pos_mul p3 h4
            clear hq hcm
            go_enter Try.func16, Try.ntmps16
            go_wp2_with fail
            refine Calls.mono (HS.out _) ?_
            rintro e w1 ⟨v, rfl, rfl, hb⟩
            go_wp2_with fail
            refine Calls.mono (HA.out _ _ _ (Lp.Bk.al _ _ _)) ?_
            rintro e w' ⟨rfl, hw⟩
            obtain rfl := hw.symm
            clear hw
            go_wp2_with fail
            refine Calls.mono (HC.out _ _ _ (Lp.Bk.al1 _ _ _ _)) ?_
            rintro e w' ⟨rfl, hw⟩
            obtain rfl := hw.symm
            clear hw
            go_wp2_with fail
            go_ret2
            exact ⟨_, rfl, rfl, (al_below (al_below hb _) _)⟩
      · have hn : needF x y s d = (0, 12) := if_neg fun k => c3 k.2.2.2
        rw [hn]
        rw [slots_off c3] at HS
        clear hn
        go_enter Try.func16, Try.ntmps16
        go_wp2_with fail
        refine Calls.mono (HS.out _) ?_
        rintro e w1 ⟨v, rfl, rfl, hb⟩
        go_wp2_with fail
        refine Calls.mono (HA.out _ _ _ (Lp.Bk.al _ _ _)) ?_
        rintro e w' ⟨rfl, hw⟩
        obtain rfl := hw.symm
        clear hw
        go_wp2_with fail
        refine Calls.mono (HC.out _ _ _ (Lp.Bk.al1 _ _ _ _)) ?_
        rintro e w' ⟨rfl, hw⟩
        obtain rfl := hw.symm
        clear hw
        go_wp2_with fail
        go_ret2
        exact ⟨_, rfl, rfl, (al_below (al_below hb _) _)⟩
    · have hn : needF x y s d = (0, 12) := if_neg fun k => c2 k.2.2.1
      rw [hn]
      rw [decide_eq_false c2] at HC
      clear hn
      go_enter Try.func16, Try.ntmps16
      go_wp2_with fail
      refine Calls.mono (HS.out _) ?_
      rintro e w1 ⟨v, rfl, rfl, hb⟩
      go_wp2_with fail
      refine Calls.mono (HA.out _ _ _ (Lp.Bk.al _ _ _)) ?_
      rintro e w' ⟨rfl, hw⟩
      obtain rfl := hw.symm
      clear hw
      go_wp2_with fail
      refine Calls.mono (HC.out _ _ _ (Lp.Bk.al1 _ _ _ _)) ?_
      rintro e w' ⟨rfl, hw⟩
      obtain rfl := hw.symm
      clear hw
      go_wp2_with fail
      go_ret2
      exact ⟨_, rfl, rfl, (al_below (al_below hb _) _)⟩
  · have hn : needF x y s d = (0, 12) := if_neg fun k => c1 ⟨k.1, k.2.1⟩
    rw [hn]
    rw [decide_eq_false c1] at HA
    clear hn
    go_enter Try.func16, Try.ntmps16
    go_wp2_with fail
    refine Calls.mono (HS.out _) ?_
    rintro e w1 ⟨v, rfl, rfl, hb⟩
    go_wp2_with fail
    refine Calls.mono (HA.out _ _ _ (Lp.Bk.al _ _ _)) ?_
    rintro e w' ⟨rfl, hw⟩
    obtain rfl := hw.symm
    clear hw
    go_wp2_with fail
    go_ret2
    exact ⟨_, rfl, rfl, (al_below hb _)⟩
end Go.Proofs.Ythbcbeaagmgafaa
