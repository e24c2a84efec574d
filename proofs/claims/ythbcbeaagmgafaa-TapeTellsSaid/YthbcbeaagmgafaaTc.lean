/- Package tape: how many draws a picture needs; the reference's. -/
import Derived.Test.YthbcbeaagmgafaaTb
namespace Go.Proofs.Ythbcbeaagmgafaa
open Go.RowKit Fl

/-- A picture that may be. -/
abbrev confP (x y s d : Int) : Prop := (1 ≤ x ∧ x ≤ 8192) ∧ (1 ≤ y ∧ y ≤ 8192) ∧ (1 ≤ s ∧ s ≤ 65536) ∧ 0 ≤ d ∧ d ≤ 64
/-- How many draws it needs, and which error. -/
def needF (x y s d : Int) : Int × Int := if confP x y s d then (if 65536 < x * y then (0, 4) else if 4194304 < x * y * s * slotsF d then (0, 4) else (x * y * s * slotsF d, 0)) else (0, 12)
def outN (p : Int × Int) : Value := .tuple #[.int .i64 p.1, .int .i64 p.2]
theorem conf_cases {x y s d : Int} (h : ¬confP x y s d) : x < 1 ∨ (1 ≤ x ∧ 8192 < x) ∨ (1 ≤ x ∧ x ≤ 8192 ∧ y < 1) ∨ (1 ≤ x ∧ x ≤ 8192 ∧ 1 ≤ y ∧ 8192 < y) ∨ (1 ≤ x ∧ x ≤ 8192 ∧ 1 ≤ y ∧ y ≤ 8192 ∧ s < 1) ∨ (1 ≤ x ∧ x ≤ 8192 ∧ 1 ≤ y ∧ y ≤ 8192 ∧ 1 ≤ s ∧ 65536 < s) ∨ (1 ≤ x ∧ x ≤ 8192 ∧ 1 ≤ y ∧ y ≤ 8192 ∧ 1 ≤ s ∧ s ≤ 65536 ∧ d < 0) ∨ (1 ≤ x ∧ x ≤ 8192 ∧ 1 ≤ y ∧ y ≤ 8192 ∧ 1 ≤ s ∧ s ≤ 65536 ∧ 0 ≤ d ∧ 64 < d) := by
  unfold confP at h
  omega
theorem mul_le {a b A B : Int} (ha : 0 ≤ a) (hb : 0 ≤ b) (hA : a ≤ A) (hB : b ≤ B) : 0 ≤ a * b ∧ a * b ≤ A * B :=
  ⟨Int.mul_nonneg ha hb, Int.mul_le_mul hA hB hb (Int.le_trans ha hA)⟩

set_option maxRecDepth 100000 in
set_option maxHeartbeats 4000000 in
theorem rneed_off (x y s d : Int) (h : ¬confP x y s d) (w : World) : Calls Try.prog 17 #[.int .i64 x, .int .i64 y, .int .i64 s, .int .i64 d] w fun e w' => e = .returned (.tuple #[.int .i64 0, .int .i64 12]) ∧ w' = w := by
  have h := conf_cases h
  rcases h with h | ⟨h0, h⟩ | ⟨h0, h1, h⟩ | ⟨h0, h1, h2, h⟩ | ⟨h0, h1, h2, h3, h⟩ | ⟨h0, h1, h2, h3, h4, h⟩ | ⟨h0, h1, h2, h3, h4, h5, h⟩ | ⟨h0, h1, h2, h3, h4, h5, h6, h⟩ <;>
  · go_enter Try.func17, Try.ntmps17
    go_wp2_with fail
    go_ret2
    exact ⟨rfl, rfl⟩

set_option maxRecDepth 100000 in
set_option maxHeartbeats 4000000 in
theorem rneed_on (x y s d : Int) (h : confP x y s d) (w : World) : Calls Try.prog 17 #[.int .i64 x, .int .i64 y, .int .i64 s, .int .i64 d] w fun e w' => e = .returned (outN (needF x y s d)) ∧ w' = w := by
  have hn : needF x y s d = (if 65536 < x * y then (0, 4) else if 4194304 < x * y * s * slotsF d then (0, 4) else (x * y * s * slotsF d, 0)) := if_pos h
  rw [hn]
  clear hn
  obtain ⟨⟨h0, h1⟩, ⟨h2, h3⟩, ⟨h4, h5⟩, h6, h7⟩ := h
  have p1 := mul_le (a := x) (b := y) (by omega) (by omega) h1 h3
  by_cases q1 : 65536 < x * y
  · rw [if_pos q1]
    go_enter Try.func17, Try.ntmps17
    go_wp2_with fail
    go_ret2
    exact ⟨rfl, rfl⟩
  · rw [if_neg q1]
    have p2 := mul_le (a := x * y) (b := s) (by omega) (by omega) (Int.not_lt.1 q1) h5
    have p3 := mul_le (a := x * y * s) (b := slotsF d) (by omega) (slots_bound d).1 p2.2 (slots_bound d).2
    have HS : Hid _ := rslots_any d
    generalize slotsF d = sl at *
    by_cases q2 : 4194304 < x * y * s * sl
    · rw [if_pos q2]
      go_enter Try.func17, Try.ntmps17
      go_wp2_with fail
      refine Calls.mono (HS.out _) ?_
      rintro e w' ⟨rfl, hw⟩
      obtain rfl := hw.symm
      clear hw
      go_wp2_with fail
      go_ret2
      exact ⟨rfl, rfl⟩
    · rw [if_neg q2]
      go_enter Try.func17, Try.ntmps17
      go_wp2_with fail
      refine Calls.mono (HS.out _) ?_
      rintro e w' ⟨rfl, hw⟩
      obtain rfl := hw.symm
      clear hw
      go_wp2_with fail
      go_ret2
      exact ⟨rfl, rfl⟩

theorem rneed_any (x y s d : Int) (w : World) : Calls Try.prog 17 #[.int .i64 x, .int .i64 y, .int .i64 s, .int .i64 d] w fun e w' => e = .returned (outN (needF x y s d)) ∧ w' = w := by
  by_cases h : confP x y s d
  · exact rneed_on x y s d h w
  · have hn : needF x y s d = (0, 12) := if_neg h
    rw [hn]
    exact rneed_off x y s d h w
end Go.Proofs.Ythbcbeaagmgafaa
