/- Package pcg: the walk of PcgBelow. -/
import Derived.Deep.LoopGhost
import Derived.Test.YtjjjehghjhdceaaRows
import Derived.Test.YtjjjehghjhdceaaPe
namespace Go.Proofs.Ytjjjehghjhdceaa
open Go.RowKit Fl

theorem all_succ {p : Nat → Prop} {m : Nat} (h : ∀ i, i < m → p i) (hm : p m) : ∀ i, i < m + 1 → p i := fun i hi => (Nat.lt_or_eq_of_le (Nat.le_of_lt_succ hi)).elim (h i) fun e => e ▸ hm
theorem str_odd (c : Int) : strF c ≠ 0 := by
  unfold strF
  simp only [IntKind.wrap_u64]
  omega

set_option maxRecDepth 100000 in
set_option maxHeartbeats 8000000 in
theorem below_walk (s c : Int) (zs : List Int) (ai : Option Addr) (cz : Nat) (w : World) (hz : Nums .u32 w.heap.size w ai zs) (hzr : ∀ k, k < zs.length → 0 ≤ zs.getD k 0 ∧ zs.getD k 0 < 4294967296) :
    Ret Try.prog 4 #[.int .u64 s, .int .u64 c, .slice ai zs.length cz] w (fun v => v = .bool true) := by
  unfold Ret
  have HN : Hid _ := fun w => new_any s c w
  have HRN : Hid _ := fun w => rnew_any s c w
  have HR0 : Aside _ := step_range (IntKind.u64.wrap (stepF 0 (strF c) + s)) (strF c)
  have hnew : stepF (IntKind.u64.wrap (stepF 0 (strF c) + s)) (strF c) = newF s c := rfl
  rw [hnew] at HR0
  clear hnew
  have HC : Aside _ := str_odd c
  generalize newF s c = S0 at *
  generalize strF c = C at *
  have HZ0 : Aside _ := hz
  have HZR : Aside _ := hzr
  clear hz hzr
  go_enter Try.func4, Try.ntmps4
  go_wp2_with fail
  refine Calls.mono (HN.out _) ?_
  rintro e w1 ⟨G, rfl, hG0, hG, HB⟩
  have HG0 : Aside _ := hG0
  clear hG0
  go_wp2_with fail
  refine Calls.mono (HRN.out _) ?_
  rintro e w2 ⟨X, rfl, hX0, hX, hb⟩
  have HGX : Aside (G ≠ X) := by have := Lp.Bk.lt hG; show G ≠ X; omega
  have HX0 : Aside (w.heap.size ≤ X) := Nat.le_trans HB.size hX0
  clear hX0
  replace hG := Lp.Bk.keep hG hb
  replace HB := HB.trans (hb.mono HB.size)
  clear hb
  go_wp2_with fail
  go_loopg [9] 30 (fun k i wr => ∃ (j : Nat) (S : Int), k + j = 30 ∧ i = .int .i64 (j : Int) ∧ Gn wr G S C ∧ Gx wr X S C ∧ (0 ≤ S ∧ S < 18446744073709551616) ∧ Below w.heap.size w wr)
  case atStart => exact ⟨0, S0, rfl, rfl, hG, hX, HR0.out, HB⟩
  case round =>
    clear hG hX HB
    obtain ⟨g0, hg0⟩ : ∃ g0, g0 = gk := ⟨_, rfl⟩
    subst hg0
    obtain ⟨j, S, hk, rfl, hG, hX, hr, HB⟩ := hrel
    have HK : Aside _ := hk
    have HR : Aside _ := hr
    clear hk hr
    by_cases hj1 : j < zs.length
    · have hd1 : ((j : Int) < (zs.length : Int)) = True := eq_true (by omega)
      by_cases hj2 : j < 30
      · have hd2 : ((j : Int) < 30) = True := eq_true (by omega)
        have hz := HZ0.out
        rcases hz with hz | ⟨bz, oz, rfl, hbz, hcz⟩
        · rw [hz] at hj1; exact absurd hj1 (by simp)
        have hzj := hcz j hj1
        obtain ⟨n0, n1⟩ := HZR.out j hj1
        clear hcz
        generalize zs.getD j 0 = n at *
        have hzc := (HB.cell (p := ⟨bz, oz + j, none⟩) hbz).trans hzj
        have HZJ : Aside _ := hzj
        clear hzj
        by_cases z0 : n = 0
        · subst z0
          go_wp2_with fail
          refine Calls.mono (below_zero S C G _ hG HC.out) ?_
          rintro e w4 ⟨rfl, hw⟩
          obtain rfl := hw.symm
          clear hw
          go_wp2_with fail
          go_roundg (g0 - 1)
          case measure => have := HK.out; omega
          case rel => exact ⟨j + 1, _, by have := HK.out; omega, by go_num, hG, hX, HR.out, HB⟩
        · have hd3 : (n == 0) = false := beq_eq_false_iff_ne.2 z0
          have hd3b : (n = 0) = False := eq_false z0
          have hn0 : 0 < n := by omega
          have hlr := least_range hn0
          have hlf : 4294967296 % n = leastF n := rfl
          generalize hlg : leastF n = l at *
          obtain ⟨l0, l1⟩ := hlr
          clear z0
          go_wp2_with fail
          refine Calls.mono (rnext_any S C X _ HR.out.1 HR.out.2 hX) ?_
          clear hX
          rintro e w4 ⟨rfl, hX, hb⟩
          replace hG := hb.keep hG HGX.out
          replace HB := hb.below HB HX0.out HB.size
          clear hb hzc
          go_wp2_with fail
          go_loopg [12, 13] 200 (fun k x t wr => ∃ m : Nat, k + m = 200 ∧ x = .int .u32 (numF (stepsF S C m)) ∧ t = .int .i64 (m : Int) ∧ Gn wr G S C ∧ Gx wr X (stepsF S C (m + 1)) C ∧ (∀ i, i < m → numF (stepsF S C i) < l) ∧ Below w.heap.size w wr)
          case atStart => exact ⟨0, rfl, rfl, rfl, hG, hX, fun i hi => absurd hi (Nat.not_lt_zero i), HB⟩
          case round =>
            clear hG hX HB
            obtain ⟨m, hm, rfl, rfl, hG, hX, hlt, HB⟩ := hrel
            have HM : Aside _ := hm
            have HLT : Aside _ := hlt
            clear hm hlt
            have hrm := steps_range (c := C) HR.out.1 HR.out.2 (m + 1)
            have HRM : Aside _ := hrm
            have HNR : Aside _ := num_range (steps_range (c := C) HR.out.1 HR.out.2 m).1 (steps_range (c := C) HR.out.1 HR.out.2 m).2
            clear hrm
            by_cases hw : numF (stepsF S C m) < l
            · have hd4 : (numF (stepsF S C m) < l) = True := eq_true hw
              by_cases hm2 : m < 200
              · have hd5 : ((m : Int) < 200) = True := eq_true (by omega)
                go_wp2_with fail
                refine Calls.mono (rnext_any _ C X _ HRM.out.1 HRM.out.2 hX) ?_
                clear hX
                rintro e w5 ⟨rfl, hX, hb⟩
                replace hG := hb.keep hG HGX.out
                replace HB := hb.below HB HX0.out HB.size
                clear hb
                go_wp2_with fail
                go_roundg (gk - 1)
                case measure => have := HM.out; omega
                case rel => exact ⟨m + 1, by have := HM.out; omega, rfl, by go_num, hG, hX, all_succ (p := fun i => numF (stepsF S C i) < l) HLT.out hw, HB⟩
              · have hm3 : m = 200 := by have := HM.out; omega
                subst hm3
                generalize numF (stepsF S C 200) = x at *
                go_wp2_with fail
                refine Calls.mono (awake_any _) ?_
                rintro e w9 ⟨v, rfl, rfl, hb⟩
                replace HB := HB.trans (hb.mono HB.size)
                clear hb
                go_wp2_with fail
                go_ret
                exact ⟨_, rfl, rfl, HB⟩
            · have hd4 : (numF (stepsF S C m) < l) = False := eq_false hw
              by_cases hm2 : m = 200
              · subst hm2
                generalize numF (stepsF S C 200) = x at *
                go_wp2_with fail
                refine Calls.mono (awake_any _) ?_
                rintro e w9 ⟨v, rfl, rfl, hb⟩
                replace HB := HB.trans (hb.mono HB.size)
                clear hb
                go_wp2_with fail
                go_ret
                exact ⟨_, rfl, rfl, HB⟩
              · have hd5 : ((m : Int) == 200) = false := beq_eq_false_iff_ne.2 (by omega)
                have hd6 : ((m : Int) = 200) = False := eq_false (by omega)
                have HBE : Hid _ := fun w hG => below_any S C n m G w HR.out hG HC.out hn0 n1 (by rw [hlg]; exact HLT.out) (by rw [hlg]; omega)
                have hm1 : 0 ≤ numF (stepsF S C m) % n := Int.emod_nonneg _ (by omega)
                have hm2 : numF (stepsF S C m) % n < n := Int.emod_lt_of_pos _ (by omega)
                have hnr := HNR.out
                clear HNR HLT
                obtain ⟨r0, r1⟩ := hnr
                generalize numF (stepsF S C m) = x at *
                have hd7 : (n ≤ x % n) = False := eq_false (by omega)
                go_wp2_with fail
                refine Calls.mono (HBE.out _ hG) ?_
                clear hG
                rintro e w6 ⟨rfl, hG, hb⟩
                replace hX := hb.keep hX HGX.out.symm
                replace HB := hb.below HB HG0.out HB.size
                clear hb
                go_wp2_with fail
                go_roundg (g0 - 1)
                case measure => have := HK.out; omega
                case rel => exact ⟨j + 1, _, by have := HK.out; omega, by go_num, hG, hX, HRM.out, HB⟩
      · have hd2 : ((j : Int) < 30) = False := eq_false (by omega)
        go_wp2_with fail
        refine Calls.mono (awake_any _) ?_
        rintro e w9 ⟨v, rfl, rfl, hb⟩
        replace HB := HB.trans (hb.mono HB.size)
        clear hb
        go_wp2_with fail
        go_ret
        exact ⟨_, rfl, rfl, HB⟩
    · have hd1 : ((j : Int) < (zs.length : Int)) = False := eq_false (by omega)
      go_wp2_with fail
      refine Calls.mono (awake_any _) ?_
      rintro e w9 ⟨v, rfl, rfl, hb⟩
      replace HB := HB.trans (hb.mono HB.size)
      clear hb
      go_wp2_with fail
      go_ret
      exact ⟨_, rfl, rfl, HB⟩
end Go.Proofs.Ytjjjehghjhdceaa
