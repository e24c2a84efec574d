/- What must come at any rate. -/
import Derived.Deep.LoopGhost
import Derived.Test.YtgimkcbegalepaaRows
import Derived.Test.YtgimkcbegalepaaBj
import Derived.Test.YtgimkcbegalepaaBo
import Derived.Test.YtgimkcbegalepaaVi
import Derived.Test.YtgimkcbegalepaaLf
namespace Go.Proofs.Ytgimkcbegalepaa
open Go.RowKit Fl

theorem aw1 : goesF 0 0 0 4607182418800017408 4607182418800017408 4607182418800017408 13830554455654793216 4602678819172646912 4602678819172646912 4607182418800017408 0 0 = some (4607182418800017408, 4611686018427387904) := by decide +kernel
theorem aw2 : goesF 0 0 0 4607182418800017408 4607182418800017408 4607182418800017408 13830554455654793216 4611686018427387904 4602678819172646912 4607182418800017408 0 0 = none := by decide +kernel
theorem aw3 : ford (halfF (fsub 4607182418800017408 0) (fsub 4607182418800017408 0) (fsub 4607182418800017408 0)) 4613937818241073152 = some .eq := by decide +kernel
theorem aw4 : ford (fmul (fadd 0 4607182418800017408) half) 4602678819172646912 = some .eq := by decide +kernel
theorem aw5 : bestF (fsub 0 0) (fsub 4611686018427387904 0) (fsub 4607182418800017408 0) 3 = 1 := by decide +kernel
theorem aw6 : (FloatKind.f64.format.order 4607182418800017408 4607182418800017408 == some .eq) = true := by decide +kernel
theorem aw7 : (FloatKind.f64.format.order 4611686018427387904 4611686018427387904 == some .eq) = true := by decide +kernel
theorem eq_by {r z c : Nat} (h : Eqv r z) (k : ford z c = some .eq) : (FloatKind.f64.format.order r c == some .eq) = true := by
  rw [ordf, ford_congr h.sm (Sm.refl c), k]; rfl
theorem thr_aw1 (w : World) : Ret Try.prog 16 #[.agg #[.float .f64 0, .float .f64 0, .float .f64 0, .float .f64 4607182418800017408, .float .f64 4607182418800017408, .float .f64 4607182418800017408], .agg #[.float .f64 13830554455654793216, .float .f64 4602678819172646912, .float .f64 4602678819172646912, .float .f64 4607182418800017408, .float .f64 0, .float .f64 0]] w (fun v => v = .tuple #[.float .f64 4607182418800017408, .float .f64 4611686018427387904, .bool true]) :=
  (through_any _ _ _ _ _ _ _ _ _ _ _ _ w).mono fun v h => by rw [h, aw1]; rfl

theorem thr_aw2 (w : World) : Ret Try.prog 16 #[.agg #[.float .f64 0, .float .f64 0, .float .f64 0, .float .f64 4607182418800017408, .float .f64 4607182418800017408, .float .f64 4607182418800017408], .agg #[.float .f64 13830554455654793216, .float .f64 4611686018427387904, .float .f64 4602678819172646912, .float .f64 4607182418800017408, .float .f64 0, .float .f64 0]] w (fun v => v = .tuple #[.float .f64 0, .float .f64 0, .bool false]) :=
  (through_any _ _ _ _ _ _ _ _ _ _ _ _ w).mono fun v h => by rw [h, aw2]; rfl

theorem lon_aw (w : World) : Ret Try.prog 28 #[.agg #[.float .f64 0, .float .f64 0, .float .f64 0, .float .f64 0, .float .f64 4611686018427387904, .float .f64 4607182418800017408]] w (fun v => v = .int .i64 1) :=
  (longest_any _ _ _ _ _ _ w).mono fun v h => by rw [h, aw5]; rfl

set_option maxRecDepth 100000 in
set_option maxHeartbeats 1000000 in
theorem awake_any  (w : World) : Ret Try.prog 7 #[] w (fun v => v = .bool true) := by
  unfold Ret
  have q6 := aw6
  have q7 := aw7
  go_enter Try.func7, Try.ntmps7
  go_wp2_with fail
  refine Lp.settleC (fun w' => Lp.Bk w' (w.heap.size) #[.float .f64 0, .float .f64 0, .float .f64 0, .float .f64 4607182418800017408, .float .f64 4607182418800017408, .float .f64 4607182418800017408] 26 ∧ Cl w w') ⟨(Lp.Bk.al _ _ _), (Below.refl _ _).alloc (by simp <;> omega) _⟩ ?_
  rintro v1 ⟨BA, HB⟩
  have kA := BA.cell
  refine Calls.mono (thr_aw1 _) ?_
  rintro e v2 ⟨v, rfl, rfl, hm⟩
  clear kA
  replace BA := BA.keep hm
  replace HB := HB.call hm
  clear hm
  have kA := BA.cell
  go_wp2_with fail
  refine Calls.mono (thr_aw2 _) ?_
  rintro e v3 ⟨v, rfl, rfl, hm⟩
  clear kA
  replace BA := BA.keep hm
  replace HB := HB.call hm
  clear hm
  have kA := BA.cell
  go_wp2_with fail
  refine Calls.mono (half_any _ _ _ _ _ _ _) ?_
  rintro e v4 ⟨v, rfl, ⟨h, rfl, hh⟩, hm⟩
  clear kA
  replace BA := BA.keep hm
  replace HB := HB.call hm
  clear hm
  have kA := BA.cell
  have q3 := eq_by hh aw3
  go_wp2_with fail
  refine Calls.mono (mid_any _ _ _ _ _ _ _) ?_
  rintro e v5 ⟨v, rfl, ⟨x, y, z, rfl, hx, hy, hz⟩, hm⟩
  clear kA
  replace BA := BA.keep hm
  replace HB := HB.call hm
  clear hm
  have kA := BA.cell
  have q4 := eq_by hx aw4
  go_wp2_with fail
  refine Calls.mono (lon_aw _) ?_
  rintro e v6 ⟨v, rfl, rfl, hm⟩
  clear kA
  replace BA := BA.keep hm
  replace HB := HB.call hm
  clear hm
  have kA := BA.cell
  go_wp2_with fail
  go_ret
  exact ⟨_, rfl, rfl, HB⟩

end Go.Proofs.Ytgimkcbegalepaa
