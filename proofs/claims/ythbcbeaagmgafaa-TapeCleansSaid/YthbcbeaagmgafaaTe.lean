/- Package tape: Slot. -/
import Derived.Test.YthbcbeaagmgafaaRows
import Derived.Test.YthbcbeaagmgafaaTd
namespace Go.Proofs.Ythbcbeaagmgafaa
open Go.RowKit Fl

/-- What a place may be of. -/
abbrev slotP (x s d a b c k : Int) : Prop := (0 ≤ d ∧ d ≤ 64) ∧ ((0 ≤ x ∧ x ≤ 8192) ∧ (0 ≤ a ∧ a ≤ 8192) ∧ 0 ≤ b ∧ b ≤ 8192) ∧ ((0 ≤ s ∧ s ≤ 65536) ∧ 0 ≤ c ∧ c ≤ 65536) ∧ 0 ≤ k ∧ k ≤ 516
/-- The place of a slot. -/
def slotF (x s d a b c k : Int) : Int := if slotP x s d a b c k then ((b * x + a) * s + c) * slotsF d + k else -1
theorem slot_bounds {x s d a b c k : Int} (h : slotP x s d a b c k) : (0 ≤ b * x ∧ b * x ≤ 67108864) ∧ (0 ≤ (b * x + a) * s ∧ (b * x + a) * s ≤ 4398583382016) ∧ 0 ≤ ((b * x + a) * s + c) * slotsF d ∧ ((b * x + a) * s + c) * slotsF d ≤ 2304892032516096 := by
  obtain ⟨-, ⟨⟨h0, h1⟩, ⟨h2, h3⟩, h4, h5⟩, ⟨⟨h6, h7⟩, h8, h9⟩, -⟩ := h
  have q1 := mul_le h4 h0 h5 h1
  have q2 := mul_le (a := b * x + a) (A := 67117056) (by omega) h6 (by omega) h7
  have q3 := mul_le (a := (b * x + a) * s + c) (A := 4398583447552) (by omega) (slots_bound d).1 (by omega) (slots_bound d).2
  omega

set_option maxRecDepth 100000 in
set_option maxHeartbeats 4000000 in
theorem slot_any (x s d a b c k : Int) (w : World) : Ret Try.prog 20 #[.int .i64 x, .int .i64 s, .int .i64 d, .int .i64 a, .int .i64 b, .int .i64 c, .int .i64 k] w (fun v => v = .int .i64 (slotF x s d a b c k)) := by
  unfold Ret
  have HS : Hid _ := slots_any d
  have HA : Hid _ := within3 0 8192 x a b
  have HC : Hid _ := within2 0 65536 s c
  have HK : Hid _ := within1 0 516 k
  by_cases c0 : 0 ≤ d ∧ d ≤ 64
  · have hsl : 12 ≤ slotsF d := by rw [slots_on c0]; omega
    have hz : (slotsF d = 0) = False := eq_false (by omega)
    by_cases c1 : (0 ≤ x ∧ x ≤ 8192) ∧ (0 ≤ a ∧ a ≤ 8192) ∧ 0 ≤ b ∧ b ≤ 8192
    · rw [decide_eq_true c1] at HA
      by_cases c2 : (0 ≤ s ∧ s ≤ 65536) ∧ 0 ≤ c ∧ c ≤ 65536
      · rw [decide_eq_true c2] at HC
        by_cases c3 : 0 ≤ k ∧ k ≤ 516
        · rw [decide_eq_true c3] at HK
          have hp : slotP x s d a b c k := ⟨c0, c1, c2, c3⟩
          have hn : slotF x s d a b c k = ((b * x + a) * s + c) * slotsF d + k := if_pos hp
          rw [hn]
          clear hn
          have hbd := slot_bounds hp
          clear hp
          have hsu := (slots_bound d).2
          generalize slotsF d = sl at *
          obtain ⟨⟨b0, b1⟩, ⟨b2, b3⟩, b4, b5⟩ := hbd
          obtain ⟨⟨h0, h1⟩, ⟨h2, h3⟩, h4, h5⟩ := c1
          obtain ⟨⟨h6, h7⟩, h8, h9⟩ := c2
          obtain ⟨h10, h11⟩ := c3
          go_enter Try.func20, Try.ntmps20
          go_wp2_with fail
          refine Calls.mono (HS.out _) ?_
          rintro e w1 ⟨v, rfl, rfl, hb⟩
          go_wp2_with fail
          refine Calls.mono (HA.out _ _ _ (Lp.Bk.al _ _ _)) ?_
          rintro e w' ⟨rfl, hw⟩
          obtain rfl := hw.symm
          clear hw
          go_wp2_with fail
          refine Calls.mono (HC.out _ _ _ (Lp.Bk.al1 _ _ _ _)) ?_
          rintro e w' ⟨rfl, hw⟩
          obtain rfl := hw.symm
          clear hw
          go_wp2_with fail
          refine Calls.mono (HK.out _ _ _ (Lp.Bk.al2 _ _ _ _ _)) ?_
          rintro e w' ⟨rfl, hw⟩
          obtain rfl := hw.symm
          clear hw
          go_wp2_with fail
          go_ret
          exact ⟨_, rfl, rfl, (al_below (al_below (al_below hb _) _) _)⟩
        · rw [decide_eq_false c3] at HK
          have hn : slotF x s d a b c k = -1 := if_neg fun h => c3 h.2.2.2
          rw [hn]
          clear hn
          generalize slotsF d = sl at *
          go_enter Try.func20, Try.ntmps20
          go_wp2_with fail
          refine Calls.mono (HS.out _) ?_
          rintro e w1 ⟨v, rfl, rfl, hb⟩
          go_wp2_with fail
          refine Calls.mono (HA.out _ _ _ (Lp.Bk.al _ _ _)) ?_
          rintro e w' ⟨rfl, hw⟩
          obtain rfl := hw.symm
          clear hw
          go_wp2_with fail
          refine Calls.mono (HC.out _ _ _ (Lp.Bk.al1 _ _ _ _)) ?_
          rintro e w' ⟨rfl, hw⟩
          obtain rfl := hw.symm
          clear hw
          go_wp2_with fail
          refine Calls.mono (HK.out _ _ _ (Lp.Bk.al2 _ _ _ _ _)) ?_
          rintro e w' ⟨rfl, hw⟩
          obtain rfl := hw.symm
          clear hw
          go_wp2_with fail
          go_ret
          exact ⟨_, rfl, rfl, (al_below (al_below (al_below hb _) _) _)⟩
      · rw [decide_eq_false c2] at HC
        have hn : slotF x s d a b c k = -1 := if_neg fun h => c2 h.2.2.1
        rw [hn]
        clear hn
        generalize slotsF d = sl at *
        go_enter Try.func20, Try.ntmps20
        go_wp2_with fail
        refine Calls.mono (HS.out _) ?_
        rintro e w1 ⟨v, rfl, rfl, hb⟩
        go_wp2_with fail
        refine Calls.mono (HA.out _ _ _ (Lp.Bk.al _ _ _)) ?_
        rintro e w' ⟨rfl, hw⟩
        obtain rfl := hw.symm
        clear hw
        go_wp2_with fail
        refine Calls.mono (HC.out _ _ _ (Lp.Bk.al1 _ _ _ _)) ?_
        rintro e w' ⟨rfl, hw⟩
        obtain rfl := hw.symm
        clear hw
        go_wp2_with fail
        go_ret
        exact ⟨_, rfl, rfl, (al_below (al_below hb _) _)⟩
    · rw [decide_eq_false c1] at HA
      have hn : slotF x s d a b c k = -1 := if_neg fun h => c1 h.2.1
      rw [hn]
      clear hn
      generalize slotsF d = sl at *
      go_enter Try.func20, Try.ntmps20
      go_wp2_with fail
      refine Calls.mono (HS.out _) ?_
      rintro e w1 ⟨v, rfl, rfl, hb⟩
      go_wp2_with fail
      refine Calls.mono (HA.out _ _ _ (Lp.Bk.al _ _ _)) ?_
      rintro e w' ⟨rfl, hw⟩
      obtain rfl := hw.symm
      clear hw
      go_wp2_with fail
      go_ret
      exact ⟨_, rfl, rfl, (al_below hb _)⟩
  · have hn : slotF x s d a b c k = -1 := if_neg fun h => c0 h.1
    rw [hn]
    rw [slots_off c0] at HS
    clear hn
    go_enter Try.func20, Try.ntmps20
    go_wp2_with fail
    refine Calls.mono (HS.out _) ?_
    rintro e w1 ⟨v, rfl, rfl, hb⟩
    go_wp2_with fail
    go_ret
    exact ⟨_, rfl, rfl, hb⟩
end Go.Proofs.Ythbcbeaagmgafaa
