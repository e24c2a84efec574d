/- Package pcg: whole numbers that lie in memory; the walk of PcgDraws. -/
import Derived.Deep.LoopGhost
import Derived.Test.YtjjjehghjhdceaaRows
import Derived.Test.YtjjjehghjhdceaaPc
namespace Go.Proofs.Ytjjjehghjhdceaa
open Go.RowKit Fl

/-- Whole numbers in memory. -/
def Nums (kd : IntKind) (T : Nat) (w : World) (ao : Option Addr) (zs : List Int) : Prop := zs = [] ∨ ∃ b off, ao = some ⟨b, off, none⟩ ∧ b < T ∧ ∀ k, k < zs.length → w.cell? ⟨b, off + k, none⟩ = some (.int kd (zs.getD k 0))

set_option maxRecDepth 100000 in
set_option maxHeartbeats 8000000 in
theorem draws_any (s c : Int) (zs : List Int) (ai : Option Addr) (cz : Nat) (w : World) (hz : Nums .i64 w.heap.size w ai zs) :
    Ret Try.prog 3 #[.int .u64 s, .int .u64 c, .slice ai zs.length cz] w (fun v => v = .bool true) := by
  unfold Ret
  have HN : Hid _ := fun w => new_any s c w
  have HRN : Hid _ := fun w => rnew_any s c w
  have HR0 : Aside _ := step_range (IntKind.u64.wrap (stepF 0 (strF c) + s)) (strF c)
  have hnew : stepF (IntKind.u64.wrap (stepF 0 (strF c) + s)) (strF c) = newF s c := rfl
  rw [hnew] at HR0
  clear hnew
  generalize newF s c = S0 at *
  generalize strF c = C at *
  have HZ0 : Aside _ := hz
  clear hz
  go_enter Try.func3, Try.ntmps3
  go_wp2_with fail
  refine Calls.mono (HN.out _) ?_
  rintro e w1 ⟨G, rfl, hG0, hG, HB⟩
  have HG0 : Aside _ := hG0
  clear hG0
  go_wp2_with fail
  refine Calls.mono (HRN.out _) ?_
  rintro e w2 ⟨X, rfl, hX0, hX, hb⟩
  have HGX : Aside (G ≠ X) := by have := Lp.Bk.lt hG; show G ≠ X; omega
  have HX0 : Aside (w.heap.size ≤ X) := Nat.le_trans HB.size hX0
  clear hX0
  replace hG := Lp.Bk.keep hG hb
  replace HB := HB.trans (hb.mono HB.size)
  clear hb
  go_wp2_with fail
  refine Calls.mono (awake_any _) ?_
  rintro e w3 ⟨v, rfl, rfl, hb⟩
  replace hG := Lp.Bk.keep hG hb
  replace hX := Lp.Bk.keep hX hb
  replace HB := HB.trans (hb.mono HB.size)
  clear hb
  go_wp2_with fail
  go_loopg [9] 30 (fun k i wr => ∃ (j : Nat) (S : Int), k + j = 30 ∧ i = .int .i64 (j : Int) ∧ Gn wr G S C ∧ Gx wr X S C ∧ (0 ≤ S ∧ S < 18446744073709551616) ∧ Below w.heap.size w wr)
  case atStart => exact ⟨0, S0, rfl, rfl, hG, hX, HR0.out, HB⟩
  case round =>
    clear hG hX HB
    obtain ⟨g0, hg0⟩ : ∃ g0, g0 = gk := ⟨_, rfl⟩
    subst hg0
    obtain ⟨j, S, hk, rfl, hG, hX, hr, HB⟩ := hrel
    have HK : Aside _ := hk
    have HR : Aside _ := hr
    clear hk hr
    by_cases hj1 : j < zs.length
    · have hd1 : ((j : Int) < (zs.length : Int)) = True := eq_true (by omega)
      by_cases hj2 : j < 30
      · have hd2 : ((j : Int) < 30) = True := eq_true (by omega)
        have hz := HZ0.out
        rcases hz with hz | ⟨bz, oz, rfl, hbz, hcz⟩
        · rw [hz] at hj1; exact absurd hj1 (by simp)
        have hzj := hcz j hj1
        clear hcz
        generalize zs.getD j 0 = z at *
        have hzc := (HB.cell (p := ⟨bz, oz + j, none⟩) hbz).trans hzj
        have HZJ : Aside _ := hzj
        clear hzj
        by_cases z0 : 300 < z
        · have hd3 : (300 < z) = True := eq_true z0
          go_wp2_with fail
          go_roundg (g0 - 1)
          case measure => have := HK.out; omega
          case rel => exact ⟨j + 1, _, by have := HK.out; omega, by go_num, hG, hX, HR.out, HB⟩
        · have hd3 : (300 < z) = False := eq_false z0
          go_wp2_with fail
          refine Calls.mono (skip_any S C z G _ hG) ?_
          clear hG
          rintro e w4 ⟨rfl, hG, hb⟩
          rw [show (min z 1048576).toNat = z.toNat by omega] at hG
          replace hX := hb.keep hX HGX.out.symm
          replace HB := hb.below HB HG0.out HB.size
          clear hzc hb
          have hzc := (HB.cell (p := ⟨bz, oz + j, none⟩) hbz).trans HZJ.out
          go_wp2_with fail
          go_loopg [10] z.toNat (fun k i wr => ∃ (n : Nat), k + n = z.toNat ∧ i = .int .i64 (n : Int) ∧ Gn wr G (stepsF S C z.toNat) C ∧ Gx wr X (stepsF S C n) C ∧ Below w.heap.size w wr)
          case atStart => exact ⟨0, by omega, rfl, hG, hX, HB⟩
          case round =>
            clear hG hX HB hzc
            obtain ⟨n, hn, rfl, hG, hX, HB⟩ := hrel
            have HNK : Aside _ := hn
            clear hn
            have hzc := (HB.cell (p := ⟨bz, oz + j, none⟩) hbz).trans HZJ.out
            by_cases hnz : (n : Int) < z
            · have hd4 : ((n : Int) < z) = True := eq_true hnz
              go_wp2_with fail
              refine Calls.mono (rstep_any _ C X _ hX) ?_
              clear hX
              rintro e w5 ⟨rfl, hX, hb⟩
              replace hG := hb.keep hG HGX.out
              replace HB := hb.below HB HX0.out HB.size
              clear hzc hb
              go_wp2_with fail
              go_roundg (gk - 1)
              case measure => have := HNK.out; omega
              case rel => exact ⟨n + 1, by have := HNK.out; omega, by go_num, hG, hX, HB⟩
            · have hd4 : ((n : Int) < z) = False := eq_false hnz
              have hnn : n = z.toNat := by have := HNK.out; omega
              rw [hnn] at hX
              have hr := steps_range (c := C) HR.out.1 HR.out.2 z.toNat
              generalize stepsF S C z.toNat = S1 at *
              have HR1 : Aside _ := hr
              clear hr hnn
              go_wp2_with fail
              refine Calls.mono (state_any S1 C G _ hG) ?_
              rintro e w5 ⟨v, rfl, rfl, hb⟩
              replace hG := Lp.Bk.keep hG hb
              replace hX := Lp.Bk.keep hX hb
              replace HB := HB.trans (hb.mono HB.size)
              clear hb hzc
              have kX := Lp.Bk.cell hX
              go_wp2_with fail
              refine Calls.mono (next_any S1 C G _ HR1.out.1 HR1.out.2 hG) ?_
              clear hG
              rintro e w6 ⟨rfl, hG, hb⟩
              replace hX := hb.keep hX HGX.out.symm
              replace HB := hb.below HB HG0.out HB.size
              clear hb kX
              go_wp2_with fail
              refine Calls.mono (rnext_any S1 C X _ HR1.out.1 HR1.out.2 hX) ?_
              clear hX
              rintro e w7 ⟨rfl, hX, hb⟩
              replace hG := hb.keep hG HGX.out
              replace HB := hb.below HB HX0.out HB.size
              clear hb
              go_wp2_with fail
              go_roundg (g0 - 1)
              case measure => have := HK.out; omega
              case rel => exact ⟨j + 1, _, by have := HK.out; omega, by go_num, hG, hX, step_range _ _, HB⟩
      · have hd2 : ((j : Int) < 30) = False := eq_false (by omega)
        go_wp2_with fail
        go_ret
        exact ⟨_, rfl, rfl, HB⟩
    · have hd1 : ((j : Int) < (zs.length : Int)) = False := eq_false (by omega)
      go_wp2_with fail
      go_ret
      exact ⟨_, rfl, rfl, HB⟩
end Go.Proofs.Ytjjjehghjhdceaa
