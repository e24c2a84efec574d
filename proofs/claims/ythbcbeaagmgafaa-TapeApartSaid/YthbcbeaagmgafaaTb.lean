/- Package tape: how many slots; the reference's. -/
import Derived.Test.YthbcbeaagmgafaaTa
namespace Go.Proofs.Ythbcbeaagmgafaa
open Go.RowKit Fl

theorem within1 (lo hi d : Int) (b : Nat) (t : TypeId) (w : World) (hb : Lp.Bk w b #[.int .i64 d] t) : Calls Try.prog 24 #[.int .i64 lo, .int .i64 hi, .slice (some ⟨b, 0, none⟩) 1 1] w fun e w' => e = .returned (.bool (decide (lo ≤ d ∧ d ≤ hi))) ∧ w' = w := by
  have h := within_any lo hi [d] b w (by simp) (fun k hk => by
    rw [hb.cell k]
    match k, hk with
    | 0, _ => rfl)
  have hin : inB lo hi [d] = decide (lo ≤ d ∧ d ≤ hi) := by simp [inB]
  rw [hin] at h
  exact h

theorem within2 (lo hi d d2 : Int) (b : Nat) (t : TypeId) (w : World) (hb : Lp.Bk w b #[.int .i64 d, .int .i64 d2] t) : Calls Try.prog 24 #[.int .i64 lo, .int .i64 hi, .slice (some ⟨b, 0, none⟩) 2 2] w fun e w' => e = .returned (.bool (decide ((lo ≤ d ∧ d ≤ hi) ∧ lo ≤ d2 ∧ d2 ≤ hi))) ∧ w' = w := by
  have h := within_any lo hi [d, d2] b w (by simp) (fun k hk => by
    rw [hb.cell k]
    match k, hk with
    | 0, _ => rfl
    | 1, _ => rfl)
  have hin : inB lo hi [d, d2] = decide ((lo ≤ d ∧ d ≤ hi) ∧ lo ≤ d2 ∧ d2 ≤ hi) := by simp [inB]
  rw [hin] at h
  exact h

theorem within3 (lo hi d d2 d3 : Int) (b : Nat) (t : TypeId) (w : World) (hb : Lp.Bk w b #[.int .i64 d, .int .i64 d2, .int .i64 d3] t) : Calls Try.prog 24 #[.int .i64 lo, .int .i64 hi, .slice (some ⟨b, 0, none⟩) 3 3] w fun e w' => e = .returned (.bool (decide ((lo ≤ d ∧ d ≤ hi) ∧ (lo ≤ d2 ∧ d2 ≤ hi) ∧ lo ≤ d3 ∧ d3 ≤ hi))) ∧ w' = w := by
  have h := within_any lo hi [d, d2, d3] b w (by simp) (fun k hk => by
    rw [hb.cell k]
    match k, hk with
    | 0, _ => rfl
    | 1, _ => rfl
    | 2, _ => rfl)
  have hin : inB lo hi [d, d2, d3] = decide ((lo ≤ d ∧ d ≤ hi) ∧ (lo ≤ d2 ∧ d2 ≤ hi) ∧ lo ≤ d3 ∧ d3 ≤ hi) := by simp [inB, Bool.and_assoc]
  rw [hin] at h
  exact h

/-- How many slots a path has. -/
def slotsF (d : Int) : Int := if 0 ≤ d ∧ d ≤ 64 then 12 + 8 * d else 0
theorem slots_on {d : Int} (h : 0 ≤ d ∧ d ≤ 64) : slotsF d = 12 + 8 * d := if_pos h
theorem slots_off {d : Int} (h : ¬(0 ≤ d ∧ d ≤ 64)) : slotsF d = 0 := if_neg h
theorem slots_bound (d : Int) : 0 ≤ slotsF d ∧ slotsF d ≤ 524 := by unfold slotsF; split <;> omega
theorem slots_zero (d : Int) : slotsF d = 0 ↔ ¬(0 ≤ d ∧ d ≤ 64) := by
  unfold slotsF
  split <;> omega

set_option maxRecDepth 100000 in
set_option maxHeartbeats 1000000 in
theorem slots_any (d : Int) (w : World) : Ret Try.prog 18 #[.int .i64 d] w (fun v => v = .int .i64 (slotsF d)) := by
  unfold Ret
  have HW : Hid _ := within1 0 64 d
  unfold slotsF
  by_cases hd : 0 ≤ d ∧ d ≤ 64
  · rw [if_pos hd]
    rw [decide_eq_true hd] at HW
    go_enter Try.func18, Try.ntmps18
    go_wp2_with fail
    refine Calls.mono (HW.out _ _ _ (Lp.Bk.al _ _ _)) ?_
    rintro e w' ⟨rfl, hw⟩
    obtain rfl := hw.symm
    clear hw
    go_wp2_with fail
    go_ret
    refine ⟨_, rfl, ?_, (Below.refl _ _).alloc (Nat.le_refl _) _⟩
    show Value.int .i64 _ = Value.int .i64 _
    rw [show (4 + 8 * (d + 1) : Int) = 12 + 8 * d by omega]
  · rw [if_neg hd]
    rw [decide_eq_false hd] at HW
    go_enter Try.func18, Try.ntmps18
    go_wp2_with fail
    refine Calls.mono (HW.out _ _ _ (Lp.Bk.al _ _ _)) ?_
    rintro e w' ⟨rfl, hw⟩
    obtain rfl := hw.symm
    clear hw
    go_wp2_with fail
    go_ret
    exact ⟨_, rfl, rfl, (Below.refl _ _).alloc (Nat.le_refl _) _⟩

set_option maxRecDepth 100000 in
set_option maxHeartbeats 1000000 in
theorem rslots_any (d : Int) (w : World) : Calls Try.prog 19 #[.int .i64 d] w fun e w' => e = .returned (.int .i64 (slotsF d)) ∧ w' = w := by
  have hs : slotsF d = if 0 ≤ d ∧ d ≤ 64 then 12 + 8 * d else 0 := rfl
  by_cases h0 : 0 ≤ d
  · by_cases h1 : d ≤ 64
    · rw [hs, if_pos ⟨h0, h1⟩]
      clear hs
      go_enter Try.func19, Try.ntmps19
      go_wp2_with fail
      go_ret
      exact ⟨rfl, rfl⟩
    · rw [hs, if_neg (by omega)]
      clear hs
      go_enter Try.func19, Try.ntmps19
      go_wp2_with fail
      go_ret
      exact ⟨rfl, rfl⟩
  · rw [hs, if_neg (by omega)]
    clear hs
    go_enter Try.func19, Try.ntmps19
    go_wp2_with fail
    go_ret
    exact ⟨rfl, rfl⟩
end Go.Proofs.Ythbcbeaagmgafaa
