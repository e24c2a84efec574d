/- Package tape: the walks of TapeCleans and TapeNeeds. -/
import Derived.BigQuiet
import Derived.Test.YthbcbeaagmgafaaRows
import Derived.Test.YthbcbeaagmgafaaTj
namespace Go.Proofs.Ythbcbeaagmgafaa
open Go.RowKit Fl

theorem ok_clean (x : Nat) : okB (cleanF x) = true := by
  unfold cleanF
  cases h : okB x
  · exact (by decide +kernel : okB 0 = true)
  · exact h
theorem clean_clean (x : Nat) : cleanF (cleanF x) = cleanF x := if_pos (ok_clean x)
theorem ok_isN {x : Nat} (h : okB x = true) : isN x = false := by
  cases k : isN x
  · rfl
  · unfold okB at h
    rw [ord_nan_left k, ord_nan_left k] at h
    exact absurd h (by decide)

set_option maxRecDepth 100000 in
set_option maxHeartbeats 1000000 in
theorem cleans_any (x : Nat) (w : World) : Ret Try.prog 4 #[.float .f64 x] w (fun v => v = .bool true) := by
  unfold Ret
  have HC : Hid _ := clean_any x
  have HR : Hid _ := rclean_any x
  have HD : Hid _ := clean_any (cleanF x)
  rw [clean_clean] at HD
  have hok := ok_clean x
  have hn := ok_isN hok
  generalize cleanF x = y at *
  have hs : (FloatKind.f64.format.order y y == some .eq) = true := by have := ford_self y; rw [hn] at this; exact this
  have hz : (FloatKind.f64.format.order 0 0 == some .eq) = true := by decide +kernel
  unfold okB at hok
  have hr : (FloatKind.f64.format.order y 4607182418800017408 == some .lt) = true := (Bool.and_eq_true_iff.1 hok).2
  replace hok := (Bool.and_eq_true_iff.1 hok).1
  have hp : (FloatKind.f64.format.order y 0 == some .gt) = (ford y 0 == some .gt) := rfl
  have hq : (FloatKind.f64.format.order y 0 == some .eq) = (ford y 0 == some .eq) := rfl
  generalize (ford y 0 == some .gt) = p at *
  generalize (ford y 0 == some .eq) = q at *
  have HB := Below.refl w.heap.size w
  cases p <;> cases q <;> first | (exact absurd hok (by decide)) | skip
  all_goals
    clear hok
    go_enter Try.func4, Try.ntmps4
    go_wp2_with fail
    refine Calls.mono (HC.out _) ?_
    rintro e w' ⟨rfl, hw⟩
    obtain rfl := hw.symm
    clear hw
    go_wp2_with fail
    refine Calls.mono (awake_any _) ?_
    rintro e w1 ⟨v, rfl, rfl, hb⟩
    replace HB := HB.trans (hb.mono HB.size)
    clear hb
    go_wp2_with fail
    refine Calls.mono (HR.out _) ?_
    rintro e w' ⟨rfl, hw⟩
    obtain rfl := hw.symm
    clear hw
    go_wp2_with fail
    refine Calls.mono (HD.out _) ?_
    rintro e w' ⟨rfl, hw⟩
    obtain rfl := hw.symm
    clear hw
    go_wp2_with fail
    refine Calls.mono (at_nil 3 _) ?_
    rintro e w' ⟨rfl, hw⟩
    obtain rfl := hw.symm
    clear hw
    go_wp2_with fail
    refine Calls.mono (read_nil _) ?_
    rintro e w' ⟨rfl, hw⟩
    obtain rfl := hw.symm
    clear hw
    go_wp2_with fail
    refine Calls.mono (len_nil _) ?_
    rintro e w' ⟨rfl, hw⟩
    obtain rfl := hw.symm
    clear hw
    go_wp2_with fail
    go_ret
    exact ⟨_, rfl, rfl, HB⟩

set_option maxRecDepth 100000 in
set_option maxHeartbeats 1000000 in
theorem needs_any (x y s d : Int) (w : World) : Ret Try.prog 5 #[.agg #[.int .i64 x, .int .i64 y, .int .i64 s, .int .i64 d]] w (fun v => v = .bool true) := by
  unfold Ret
  have HN : Hid _ := need_any x y s d
  have HM : Hid _ := rneed_any x y s d
  have HS : Hid _ := slots_any d
  have HR : Hid _ := rslots_any d
  unfold outN at HN HM
  generalize (needF x y s d).1 = n at *
  generalize (needF x y s d).2 = e at *
  generalize slotsF d = sl at *
  go_enter Try.func5, Try.ntmps5
  go_wp2_with fail
  refine Lp.settle (fun w' => Lp.Bk w' (w.heap.size) #[.int .i64 x, .int .i64 y, .int .i64 s, .int .i64 d] 36 ∧ Cl w w') ⟨(Lp.Bk.al _ _ _), (Below.refl _ _).alloc (by simp <;> omega) _⟩ ?_
  rintro v1 ⟨BQ, HB⟩
  have kQ := BQ.cell
  have HK : Hid _ := HB
  clear HB
  go_quiet (fail)
  have HB : Below w.heap.size w (v1.drewN nq) := below_dr HK.out _
  go_wp2_with fail
  refine Calls.mono (HN.out _) ?_
  rintro e w1 ⟨v, rfl, rfl, hb⟩
  replace HB := HB.trans (hb.mono HB.size)
  clear hb
  go_wp2_with fail
  refine Calls.mono (HM.out _) ?_
  rintro e w' ⟨rfl, hw⟩
  obtain rfl := hw.symm
  clear hw
  go_wp2_with fail
  refine Calls.mono (awake_any _) ?_
  rintro e w2 ⟨v, rfl, rfl, hb⟩
  replace HB := HB.trans (hb.mono HB.size)
  clear hb
  go_wp2_with fail
  refine Calls.mono (HS.out _) ?_
  rintro e w3 ⟨v, rfl, rfl, hb⟩
  replace HB := HB.trans (hb.mono HB.size)
  clear hb
  go_wp2_with fail
  refine Calls.mono (HR.out _) ?_
  rintro e w' ⟨rfl, hw⟩
  obtain rfl := hw.symm
  clear hw
  go_wp2_with fail
  go_ret
  exact ⟨_, rfl, rfl, HB⟩
end Go.Proofs.Ythbcbeaagmgafaa
