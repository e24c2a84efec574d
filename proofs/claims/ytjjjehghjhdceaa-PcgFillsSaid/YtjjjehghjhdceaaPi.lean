/- Package pcg: the walk of PcgFills. -/
import Derived.Deep.LoopGhost
import Derived.Test.YtjjjehghjhdceaaRows
import Derived.Test.YtjjjehghjhdceaaPh
import Derived.Test.YtjjjehghjhdceaaPe
namespace Go.Proofs.Ytjjjehghjhdceaa
open Go.RowKit Fl

set_option maxRecDepth 100000 in
set_option maxHeartbeats 8000000 in
theorem fills_walk (s c n : Int) (w : World) : Ret Try.prog 5 #[.int .u64 s, .int .u64 c, .int .i64 n] w (fun v => v = .bool true) := by
  unfold Ret
  have HA : Hid _ := fun w => awake_any w
  by_cases h1 : 2000 < n ∧ n ≤ 4194304
  · have hd1 : (2000 < n) = True := eq_true h1.1
    have hd2 : (n ≤ 4194304) = True := eq_true h1.2
    clear h1
    go_enter Try.func5, Try.ntmps5
    go_wp2_with fail
    refine Calls.mono (HA.out _) ?_
    rintro e w1 ⟨v, rfl, rfl, hb⟩
    go_wp2_with fail
    go_ret
    exact ⟨_, rfl, rfl, hb⟩
  · by_cases h2 : n < 0 ∨ 4194304 < n
    · have HF : Hid _ := fun w => fill_bad s c n w h2
      by_cases h3 : n < 0
      · have hd1 : (2000 < n) = False := eq_false (by omega)
        have hd3 : (n < 0) = True := eq_true h3
        clear h1 h2 h3
        go_enter Try.func5, Try.ntmps5
        go_wp2_with fail
        refine Calls.mono (HF.out _) ?_
        rintro e w1 ⟨v, rfl, rfl, hb⟩
        go_wp2_with fail
        refine Calls.mono (HA.out _) ?_
        rintro e w2 ⟨v, rfl, rfl, hb2⟩
        go_wp2_with fail
        go_ret
        exact ⟨_, rfl, rfl, hb.trans (hb2.mono hb.size)⟩
      · have hd1 : (2000 < n) = True := eq_true (by omega)
        have hd2 : (n ≤ 4194304) = False := eq_false (by omega)
        have hd3 : (n < 0) = False := eq_false h3
        have hd4 : (4194304 < n) = True := eq_true (by omega)
        clear h1 h2 h3
        go_enter Try.func5, Try.ntmps5
        go_wp2_with fail
        refine Calls.mono (HF.out _) ?_
        rintro e w1 ⟨v, rfl, rfl, hb⟩
        go_wp2_with fail
        refine Calls.mono (HA.out _) ?_
        rintro e w2 ⟨v, rfl, rfl, hb2⟩
        go_wp2_with fail
        go_ret
        exact ⟨_, rfl, rfl, hb.trans (hb2.mono hb.size)⟩
    · obtain ⟨N, rfl⟩ : ∃ N : Nat, n = N := ⟨n.toNat, by omega⟩
      have hN : N ≤ 2000 := by omega
      have hd1 : (2000 < (N : Int)) = False := eq_false (by omega)
      have hd3 : ((N : Int) < 0) = False := eq_false (by omega)
      have hd4 : (4194304 < (N : Int)) = False := eq_false (by omega)
      have HF : Hid _ := fun w => fill_any s c N w (by omega)
      have HRN : Hid _ := fun w => rnew_any s c w
      have HR0 : Aside _ := step_range (IntKind.u64.wrap (stepF 0 (strF c) + s)) (strF c)
      have hnew : stepF (IntKind.u64.wrap (stepF 0 (strF c) + s)) (strF c) = newF s c := rfl
      rw [hnew] at HR0
      clear hnew h1 h2
      generalize newF s c = S at *
      generalize strF c = C at *
      have HNR : Hid _ := fun j => num_range (steps_range (c := C) HR0.out.1 HR0.out.2 j).1 (steps_range (c := C) HR0.out.1 HR0.out.2 j).2
      have HX : Hid _ := fun j B w => rnext_any (stepsF S C j) C B w (steps_range (c := C) HR0.out.1 HR0.out.2 j).1 (steps_range (c := C) HR0.out.1 HR0.out.2 j).2
      have HE : Hid (∀ j, stepF (stepsF S C j) C = stepsF S C (j + 1)) := fun j => rfl
      go_enter Try.func5, Try.ntmps5
      go_wp2_with fail
      refine Calls.mono (HF.out _) ?_
      rintro e w1 ⟨D, A, rfl, hD0, hD, hA, hAF, HB⟩
      have HAF : Aside _ := hAF
      clear hAF hA
      go_wp2_with fail
      refine Calls.mono (HRN.out _) ?_
      rintro e w2 ⟨X, rfl, hX0, hX, hb⟩
      have HDX : Aside (D ≠ X) := by have := Lp.Bk.lt hD; show D ≠ X; omega
      have HX0 : Aside (w.heap.size ≤ X) := Nat.le_trans HB.size hX0
      clear hX0
      replace hD := Lp.Bk.keep hD hb
      replace HB := HB.trans (hb.mono HB.size)
      clear hb hD0
      go_wp2_with fail
      go_loopg [10] N (fun k i wr => ∃ j : Nat, k + j = N ∧ i = .int .i64 (j : Int) ∧ Gx wr X (stepsF S C j) C ∧ Lp.Bk wr D A 44 ∧ Below w.heap.size w wr)
      case atStart => exact ⟨0, by omega, rfl, hX, hD, HB⟩
      case round =>
        clear hX hD HB
        obtain ⟨j, hk, rfl, hX, hD, HB⟩ := hrel
        have HK : Aside _ := hk
        clear hk
        by_cases hj : j < N
        · have hd : ((j : Int) < (N : Int)) = True := eq_true (by omega)
          go_wp2_with fail
          refine Calls.mono (HX.out j X _ hX) ?_
          clear hX
          rintro e w3 ⟨rfl, hX, hb⟩
          rw [HE.out] at hX
          replace hD := hb.keep hD HDX.out
          replace HB := hb.below HB HX0.out HB.size
          clear hb
          have hz := HAF.out j hj
          obtain ⟨n0, n1⟩ := HNR.out j
          generalize numF (stepsF S C j) = m at *
          have q1 := draw_want n0 n1
          have q2 := draw_ge n0 n1
          have q3 := draw_lt n0 n1
          have hm : ∀ w, _ := run_want 44 n0 n1
          generalize drawF m = z at *
          generalize wantF m = y at *
          have kD := (Lp.Bk.cell hD j).trans hz
          clear hz
          go_wp2_with fail
          go_roundg (gk - 1)
          case measure => have := HK.out; omega
          case rel => exact ⟨j + 1, by have := HK.out; omega, by go_num, hX, hD, HB⟩
        · have hd : ((j : Int) < (N : Int)) = False := eq_false (by omega)
          go_wp2_with fail
          refine Calls.mono (skip_nil _) ?_
          rintro e w3 ⟨rfl, hw⟩
          obtain rfl := hw.symm
          clear hw
          go_wp2_with fail
          refine Calls.mono (state_nil _) ?_
          rintro e w3 ⟨rfl, hw⟩
          obtain rfl := hw.symm
          clear hw
          go_wp2_with fail
          refine Calls.mono (HA.out _) ?_
          rintro e w3 ⟨v, rfl, rfl, hb⟩
          replace HB := HB.trans (hb.mono HB.size)
          clear hb
          go_wp2_with fail
          refine Calls.mono (next_nil _) ?_
          rintro e w4 ⟨rfl, hw⟩
          obtain rfl := hw.symm
          clear hw
          go_wp2_with fail
          refine Calls.mono (float_nil _) ?_
          rintro e w4 ⟨v, rfl, rfl, hb⟩
          replace HB := HB.trans (hb.mono HB.size)
          clear hb
          go_wp2_with fail
          refine Calls.mono (below_nil _) ?_
          rintro e w5 ⟨rfl, hw⟩
          obtain rfl := hw.symm
          clear hw
          go_wp2_with fail
          go_ret
          exact ⟨_, rfl, rfl, HB⟩
end Go.Proofs.Ytjjjehghjhdceaa
