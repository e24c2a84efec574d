/- Len2, Len, Finite, Part. -/
import Derived.Test.YtcpbehnjjnhcnaaVb
import Derived.Test.YtcpbehnjjnhcnaaVe
namespace Go.Proofs.Ytcpbehnjjnhcnaa
open Go.RowKit Fl

set_option maxRecDepth 100000 in
set_option maxHeartbeats 1000000 in
theorem len2_any (ax ay az : Nat) (w : World) : Ret Try.prog 27 #[.agg #[.float .f64 ax, .float .f64 ay, .float .f64 az]] w (isF (dotF ax ay az ax ay az)) := by
  unfold Ret
  go_enter Try.func27, Try.ntmps27
  go_wp2_with fail
  refine Calls.mono (dot_any _ _ _ _ _ _ _) ?_
  rintro e w' ⟨v, rfl, ⟨r, rfl, hr⟩, hb⟩
  have HW : Hid (Cl (w.alloc (.cells #[.float .f64 ax, .float .f64 ay, .float .f64 az] 24)) w') := hb
  clear hb
  go_wp2_with fail
  go_ret
  exact ⟨_, rfl, ⟨_, rfl, hr⟩, HW.out.out1⟩

set_option maxRecDepth 100000 in
set_option maxHeartbeats 1000000 in
theorem len_any (ax ay az : Nat) (w : World) : Ret Try.prog 28 #[.agg #[.float .f64 ax, .float .f64 ay, .float .f64 az]] w (isF (fsqrt (dotF ax ay az ax ay az))) := by
  unfold Ret
  go_enter Try.func28, Try.ntmps28
  go_wp2_with fail
  refine Calls.mono (len2_any _ _ _ _) ?_
  rintro e w' ⟨v, rfl, ⟨r, rfl, hr⟩, hb⟩
  have HW : Hid (Cl (w.alloc (.cells #[.float .f64 ax, .float .f64 ay, .float .f64 az] 24)) w') := hb
  clear hb
  go_wp2_with fail
  refine Calls.mono (sqrt_any _ _) ?_
  rintro e w2 ⟨v, rfl, ⟨r2, rfl, hr2⟩, hb⟩
  have HW2 : Hid (Cl (w.alloc (.cells #[.float .f64 ax, .float .f64 ay, .float .f64 az] 24)) w2) := HW.out.call hb
  clear hb
  go_wp2_with fail
  go_ret
  exact ⟨_, rfl, ⟨_, rfl, hr2.to (Sm.of_eq (fsqrt_congr hr.sm))⟩, HW2.out.out1⟩

set_option maxRecDepth 100000 in
set_option maxHeartbeats 1000000 in
theorem finite_any (ax ay az : Nat) (w : World) : Ret Try.prog 29 #[.agg #[.float .f64 ax, .float .f64 ay, .float .f64 az]] w (fun v => v = .bool (numB ax && numB ay && numB az)) := by
  unfold Ret
  have HX : Hid _ := number_any ax
  have HY : Hid _ := number_any ay
  have HZ : Hid _ := number_any az
  generalize numB ax = p at HX ⊢
  generalize numB ay = q at HY ⊢
  generalize numB az = s at HZ ⊢
  cases p <;> cases q <;> cases s <;>
  · go_enter Try.func29, Try.ntmps29
    go_wp2_with fail
    refine Calls.mono (HX.out _) ?_
    rintro e w' ⟨rfl, hw⟩
    obtain rfl := hw.symm
    go_wp2_with fail
    try
      refine Calls.mono (HY.out _) ?_
      rintro e w' ⟨rfl, hw⟩
      obtain rfl := hw.symm
      go_wp2_with fail
    try
      refine Calls.mono (HZ.out _) ?_
      rintro e w' ⟨rfl, hw⟩
      obtain rfl := hw.symm
      go_wp2_with fail
    go_ret
    exact ⟨_, rfl, rfl, (Below.refl _ _).alloc (Nat.le_refl _) _⟩

/-- The part of an axis. -/
def partF (ax ay az : Nat) (i : Int) : Nat := if i = 0 then ax else if i = 1 then ay else az

set_option maxRecDepth 100000 in
set_option maxHeartbeats 1000000 in
theorem part_any (ax ay az : Nat) (i : Int) (hx : Wd ax) (hy : Wd ay) (hz : Wd az) (w : World) : Ret Try.prog 33 #[.agg #[.float .f64 ax, .float .f64 ay, .float .f64 az], .int .i64 i] w (isF (partF ax ay az i)) := by
  unfold Ret partF
  by_cases h0 : i = 0
  · subst h0
    go_enter Try.func33, Try.ntmps33
    go_wp2_with fail
    go_ret
    exact ⟨_, rfl, ⟨_, rfl, Eqv.refl hx⟩, (Below.refl _ _).alloc (Nat.le_refl _) _⟩
  · by_cases h1 : i = 1
    · subst h1
      go_enter Try.func33, Try.ntmps33
      go_wp2_with fail
      go_ret
      exact ⟨_, rfl, ⟨_, rfl, Eqv.refl hy⟩, (Below.refl _ _).alloc (Nat.le_refl _) _⟩
    · rw [if_neg h0, if_neg h1]
      have b0 : (i == 0) = false := by simpa using h0
      have b1 : (i == 1) = false := by simpa using h1
      clear h0 h1
      go_enter Try.func33, Try.ntmps33
      go_wp2_with fail
      go_ret
      exact ⟨_, rfl, ⟨_, rfl, Eqv.refl hz⟩, (Below.refl _ _).alloc (Nat.le_refl _) _⟩

end Go.Proofs.Ytcpbehnjjnhcnaa
