/- Package tape: the walk of TapeApart where there is no place, ways 11 to 13. -/
import Derived.Test.YthbcbeaagmgafaaRows
import Derived.Test.YthbcbeaagmgafaaTl
namespace Go.Proofs.Ythbcbeaagmgafaa
open Go.RowKit Fl

set_option maxRecDepth 100000 in
set_option maxHeartbeats 4000000 in
theorem apart_off11 (x h s d a b c k a2 b2 c2 k2 : Int) (n e : Int) (w : World) (e0 : (a < 0) = False) (e1 : (b < 0) = False) (e2 : (c < 0) = False) (e3 : (k < 0) = False) (e4 : (8192 < a) = False) (e5 : (8192 < b) = False) (e6 : (65536 < c) = False) (e7 : (516 < k) = False) (e8 : (x < 0) = False) (e9 : (8192 < x) = False) (e10 : (s < 0) = False) (e11 : (65536 < s) = True) (HM : Hid (∀ w, Calls Try.prog 17 #[.int .i64 x, .int .i64 h, .int .i64 s, .int .i64 d] w fun e' w' => e' = .returned (.tuple #[.int .i64 n, .int .i64 e]) ∧ w' = w)) (HA : Hid (∀ w, Ret Try.prog 20 #[.int .i64 x, .int .i64 s, .int .i64 d, .int .i64 a, .int .i64 b, .int .i64 c, .int .i64 k] w (fun v => v = .int .i64 (-1)))) : Ret Try.prog 6 #[.agg #[.int .i64 x, .int .i64 h, .int .i64 s, .int .i64 d, .int .i64 a, .int .i64 b, .int .i64 c, .int .i64 k, .int .i64 a2, .int .i64 b2, .int .i64 c2, .int .i64 k2]] w (fun v => v = .bool true) := by
  unfold Ret
  go_enter Try.func6, Try.ntmps6
  go_wp2_with fail
  refine Lp.settleC (fun w' => Lp.Bk w' (w.heap.size) #[.int .i64 x, .int .i64 h, .int .i64 s, .int .i64 d, .int .i64 a, .int .i64 b, .int .i64 c, .int .i64 k, .int .i64 a2, .int .i64 b2, .int .i64 c2, .int .i64 k2] 43 ∧ Cl w w') ⟨(Lp.Bk.al _ _ _), (Below.refl _ _).alloc (by simp <;> omega) _⟩ ?_
  rintro v1 ⟨BQ, HB⟩
  have kQ := BQ.cell
  refine Calls.mono (HM.out _) ?_
  rintro e w' ⟨rfl, hw⟩
  obtain rfl := hw.symm
  clear hw
  go_wp2_with fail
  refine Calls.mono (HA.out _) ?_
  rintro e v2 ⟨v, rfl, rfl, hm⟩
  clear kQ
  replace BQ := BQ.keep hm
  replace HB := HB.call hm
  clear hm
  have kQ := BQ.cell
  go_wp2_with fail
  refine Calls.mono (awake_any _) ?_
  rintro e v3 ⟨v, rfl, rfl, hm⟩
  clear kQ
  replace BQ := BQ.keep hm
  replace HB := HB.call hm
  clear hm
  have kQ := BQ.cell
  go_wp2_with fail
  go_ret
  exact ⟨_, rfl, rfl, HB⟩

set_option maxRecDepth 100000 in
set_option maxHeartbeats 4000000 in
theorem apart_off12 (x h s d a b c k a2 b2 c2 k2 : Int) (n e : Int) (w : World) (e0 : (a < 0) = False) (e1 : (b < 0) = False) (e2 : (c < 0) = False) (e3 : (k < 0) = False) (e4 : (8192 < a) = False) (e5 : (8192 < b) = False) (e6 : (65536 < c) = False) (e7 : (516 < k) = False) (e8 : (x < 0) = False) (e9 : (8192 < x) = False) (e10 : (s < 0) = False) (e11 : (65536 < s) = False) (e12 : (d < 0) = True) (HM : Hid (∀ w, Calls Try.prog 17 #[.int .i64 x, .int .i64 h, .int .i64 s, .int .i64 d] w fun e' w' => e' = .returned (.tuple #[.int .i64 n, .int .i64 e]) ∧ w' = w)) (HA : Hid (∀ w, Ret Try.prog 20 #[.int .i64 x, .int .i64 s, .int .i64 d, .int .i64 a, .int .i64 b, .int .i64 c, .int .i64 k] w (fun v => v = .int .i64 (-1)))) : Ret Try.prog 6 #[.agg #[.int .i64 x, .int .i64 h, .int .i64 s, .int .i64 d, .int .i64 a, .int .i64 b, .int .i64 c, .int .i64 k, .int .i64 a2, .int .i64 b2, .int .i64 c2, .int .i64 k2]] w (fun v => v = .bool true) := by
  unfold Ret
  go_enter Try.func6, Try.ntmps6
  go_wp2_with fail
  refine Lp.settleC (fun w' => Lp.Bk w' (w.heap.size) #[.int .i64 x, .int .i64 h, .int .i64 s, .int .i64 d, .int .i64 a, .int .i64 b, .int .i64 c, .int .i64 k, .int .i64 a2, .int .i64 b2, .int .i64 c2, .int .i64 k2] 43 ∧ Cl w w') ⟨(Lp.Bk.al _ _ _), (Below.refl _ _).alloc (by simp <;> omega) _⟩ ?_
  rintro v1 ⟨BQ, HB⟩
  have kQ := BQ.cell
  refine Calls.mono (HM.out _) ?_
  rintro e w' ⟨rfl, hw⟩
  obtain rfl := hw.symm
  clear hw
  go_wp2_with fail
  refine Calls.mono (HA.out _) ?_
  rintro e v2 ⟨v, rfl, rfl, hm⟩
  clear kQ
  replace BQ := BQ.keep hm
  replace HB := HB.call hm
  clear hm
  have kQ := BQ.cell
  go_wp2_with fail
  refine Calls.mono (awake_any _) ?_
  rintro e v3 ⟨v, rfl, rfl, hm⟩
  clear kQ
  replace BQ := BQ.keep hm
  replace HB := HB.call hm
  clear hm
  have kQ := BQ.cell
  go_wp2_with fail
  go_ret
  exact ⟨_, rfl, rfl, HB⟩

set_option maxRecDepth 100000 in
set_option maxHeartbeats 4000000 in
theorem apart_off13 (x h s d a b c k a2 b2 c2 k2 : Int) (n e : Int) (w : World) (e0 : (a < 0) = False) (e1 : (b < 0) = False) (e2 : (c < 0) = False) (e3 : (k < 0) = False) (e4 : (8192 < a) = False) (e5 : (8192 < b) = False) (e6 : (65536 < c) = False) (e7 : (516 < k) = False) (e8 : (x < 0) = False) (e9 : (8192 < x) = False) (e10 : (s < 0) = False) (e11 : (65536 < s) = False) (e12 : (d < 0) = False) (e13 : (64 < d) = True) (HM : Hid (∀ w, Calls Try.prog 17 #[.int .i64 x, .int .i64 h, .int .i64 s, .int .i64 d] w fun e' w' => e' = .returned (.tuple #[.int .i64 n, .int .i64 e]) ∧ w' = w)) (HA : Hid (∀ w, Ret Try.prog 20 #[.int .i64 x, .int .i64 s, .int .i64 d, .int .i64 a, .int .i64 b, .int .i64 c, .int .i64 k] w (fun v => v = .int .i64 (-1)))) : Ret Try.prog 6 #[.agg #[.int .i64 x, .int .i64 h, .int .i64 s, .int .i64 d, .int .i64 a, .int .i64 b, .int .i64 c, .int .i64 k, .int .i64 a2, .int .i64 b2, .int .i64 c2, .int .i64 k2]] w (fun v => v = .bool true) := by
  unfold Ret
  go_enter Try.func6, Try.ntmps6
  go_wp2_with fail
  refine Lp.settleC (fun w' => Lp.Bk w' (w.heap.size) #[.int .i64 x, .int .i64 h, .int .i64 s, .int .i64 d, .int .i64 a, .int .i64 b, .int .i64 c, .int .i64 k, .int .i64 a2, .int .i64 b2, .int .i64 c2, .int .i64 k2] 43 ∧ Cl w w') ⟨(Lp.Bk.al _ _ _), (Below.refl _ _).alloc (by simp <;> omega) _⟩ ?_
  rintro v1 ⟨BQ, HB⟩
  have kQ := BQ.cell
  refine Calls.mono (HM.out _) ?_
  rintro e w' ⟨rfl, hw⟩
  obtain rfl := hw.symm
  clear hw
  go_wp2_with fail
  refine Calls.mono (HA.out _) ?_
  rintro e v2 ⟨v, rfl, rfl, hm⟩
  clear kQ
  replace BQ := BQ.keep hm
  replace HB := HB.call hm
  clear hm
  have kQ := BQ.cell
  go_wp2_with fail
  refine Calls.mono (awake_any _) ?_
  rintro e v3 ⟨v, rfl, rfl, hm⟩
  clear kQ
  replace BQ := BQ.keep hm
  replace HB := HB.call hm
  clear hm
  have kQ := BQ.cell
  go_wp2_with fail
  go_ret
  exact ⟨_, rfl, rfl, HB⟩

end Go.Proofs.Ythbcbeaagmgafaa
