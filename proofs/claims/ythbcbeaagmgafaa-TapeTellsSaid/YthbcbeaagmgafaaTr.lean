/- Package tape: the walk of TapeTells. -/
import Derived.Deep.LoopGhost
import Derived.Test.YthbcbeaagmgafaaRows
import Derived.Test.YthbcbeaagmgafaaTq
namespace Go.Proofs.Ythbcbeaagmgafaa
open Go.RowKit Fl

set_option maxRecDepth 100000 in
set_option maxHeartbeats 8000000 in
theorem tells_any (xs : List Nat) (zs : List Int) (ao ai : Option Addr) (cx cz : Nat) (w : World) (hn : xs.length ≤ cx) (hx : xs = [] ∨ ∃ b off, ao = some ⟨b, off, none⟩ ∧ b < w.heap.size ∧ ∀ k, k < xs.length → w.cell? ⟨b, off + k, none⟩ = some (.float .f64 (xs.getD k 0)))
    (hz : Ints w.heap.size w ai zs) (hzr : ∀ k, k < zs.length → zs.getD k 0 ≤ 9223372036854775807) :
    Ret Try.prog 3 #[.slice ao xs.length cx, .slice ai zs.length cz] w (fun v => v = .bool true) := by
  unfold Ret
  have HZR : Hid _ := hzr
  clear hzr
  by_cases h100 : 100 < xs.length
  · have hd0 : (100 < (xs.length : Int)) = True := eq_true (by omega)
    have hx2 : ∃ b off, ao = some ⟨b, off, none⟩ ∧ b < w.heap.size ∧ ∀ k, k < xs.length → w.cell? ⟨b, off + k, none⟩ = some (.float .f64 (xs.getD k 0)) := by
      rcases hx with h | h
      · rw [h] at h100; exact absurd h100 (by simp)
      · exact h
    clear hx
    obtain ⟨b, off, rfl, hb, hc⟩ := hx2
    obtain ⟨ys, hys⟩ : ∃ ys, ys = xs.take 100 := ⟨_, rfl⟩
    have hyl : ys.length = 100 := by rw [hys, List.length_take]; omega
    have hR : Row w.heap.size w (.slice (some ⟨b, off, none⟩) 100 cx) ys := by
      refine ⟨_, cx, by rw [hyl], by omega, .inr ⟨b, off, rfl, hb, fun k hk => ?_⟩⟩
      have h1 := hc k (by omega)
      rw [h1, hys]
      simp only [List.getD_eq_getElem?_getD]
      rw [List.getElem?_take, if_pos (by omega)]
    have HO : Hid _ := over_any ys w.heap.size _ w hR (Nat.le_refl _)
    have HR : Hid _ := hR
    have HYL : Aside _ := hyl
    clear hR hc hyl hys
    go_enter Try.func3, Try.ntmps3
    go_wp2_with fail
    refine Calls.mono (HO.out) ?_
    rintro e w1 ⟨T, rfl, hT0, hT, hb⟩
    have HB : Below w.heap.size w w1 := hb
    have HT0 : Aside _ := hT0
    clear hb HO hT0
    have HZ0 : Aside _ := hz
    clear hz
    go_wp2_with fail
    go_loopg [6, 7] 60 (fun k r i wr => ∃ (j : Nat) (R : Int), k + j = 60 ∧ i = .int .i64 (j : Int) ∧ r = .int .i64 R ∧ Tp wr T ys R ∧ Below w.heap.size w wr)
    case atStart => exact ⟨0, 0, rfl, rfl, rfl, hT, HB⟩
    case round =>
      clear hT HB
      obtain ⟨j, R, hk, rfl, rfl, hT, HB⟩ := hrel
      have HK : Aside _ := hk
      clear hk
      by_cases hj1 : j < zs.length
      · have hd1 : ((j : Int) < (zs.length : Int)) = True := eq_true (by omega)
        by_cases hj2 : j < 60
        · have hd2 : ((j : Int) < 60) = True := eq_true (by omega)
          have hz := HZ0.out
          rcases hz with hz | ⟨bz, oz, rfl, hbz, hcz⟩
          · rw [hz] at hj1; exact absurd hj1 (by simp)
          have hzj := hcz j hj1
          have hzm := HZR.out j hj1
          clear hcz
          generalize zs.getD j 0 = z at *
          have hzc := (HB.cell (p := ⟨bz, oz + j, none⟩) hbz).trans hzj
          have HZJ : Aside _ := hzj
          clear hzj
          go_wp2_with fail
          have HRow : Hid _ := Row.mono (Row.keep (v := .slice (some ⟨b, off, none⟩) 100 cx) HR.out HB) HT0.out
          have hne := draw_ne ys z
          have HE : Aside _ := draw_ne ys z
          clear hne
          apply Lt.wp_region_loose (Asks T ys R (readF R z)) (Asked wr T ys R (readF R z)) _ 13 (by kernel_rfl) (by kernel_rfl) (by kernel_rfl) (asked_stable _ _ _ _ _) (asked_drew hT)
          apply Lt.facts
          · intro w1 hw
            exact (hw.1.cell (p := ⟨bz, oz + j, none⟩) (Nat.lt_of_lt_of_le hbz HT0.out)).trans hzc
          intro HF
          iterate 5 (
            apply Lt.one ?_ rfl
            · intro w hw
              have k0 := HF.out _ hw
              go_simp
              exact rfl
            intro K hK
            go_simp
            refine hK.out _ ?_
            clear hK K)
          apply Lt.anyW (asked_one T ys R (readF R z) (drawF ys z)) rfl
          · intro w hw
            go_simp
            exact at_upon hzm hw
          intro K hK
          rintro v ⟨_, rfl, _⟩
          go_simp
          refine hK.out _ _ ?_
          clear hK K
          iterate 5 (
            apply Lt.one ?_ rfl
            · intro w hw
              have k0 := HF.out _ hw
              go_simp
              exact rfl
            intro K hK
            go_simp
            refine hK.out _ ?_
            clear hK K)
          apply Lt.any rfl
          · intro w hw
            go_simp
            exact rat_upon (v := .slice (some ⟨b, off, none⟩) 100 cx) HRow.out hw
          intro K hK
          rintro v rfl
          go_simp
          refine hK.out _ ?_
          clear hK K
          have hne := HE.out
          iterate 1 (
            apply Lt.one ?_ rfl
            · intro w hw
              have k0 := HF.out _ hw
              go_simp
              exact rfl
            intro K hK
            go_simp
            refine hK.out _ ?_
            clear hK K)
          rotate_left
          exact []
          rintro v1 ⟨⟨hb, -⟩, -, hT1⟩
          clear hT hzc HF HRow
          have hT := hT1
          clear hT1
          replace HB := HB.trans (hb.mono HT0.out)
          clear hb
          have hzc := (HB.cell (p := ⟨bz, oz + j, none⟩) hbz).trans HZJ.out
          by_cases z0 : z < 0
          · rw [show readF R z = R from if_pos z0] at hT
            go_wp2_with fail
            refine Calls.mono (read_any T ys _ _ hT) ?_
            rintro e w2 ⟨rfl, hw⟩
            obtain rfl := hw.symm
            clear hw
            go_wp2_with fail
            go_roundg (gk - 1)
            case measure => have := HK.out; omega
            case rel => exact ⟨j + 1, _, by have := HK.out; omega, by go_num, rfl, hT, HB⟩
          · by_cases z1 : z < 4611686018427387904
            · have hrd : readF R z = max R (z + 1) := by unfold readF bhd; rw [if_neg z0, if_neg (by omega)]
              rw [hrd] at hT
              have HH : Hid _ := high_int R (z + 1)
              clear hrd
              generalize max R (z + 1) = M at *
              go_wp2_with fail
              refine Calls.mono (HH.out _) ?_
              rintro e w2 ⟨rfl, hw⟩
              obtain rfl := hw.symm
              clear hw
              go_wp2_with fail
              refine Calls.mono (read_any T ys _ _ hT) ?_
              rintro e w2 ⟨rfl, hw⟩
              obtain rfl := hw.symm
              clear hw
              go_wp2_with fail
              go_roundg (gk - 1)
              case measure => have := HK.out; omega
              case rel => exact ⟨j + 1, _, by have := HK.out; omega, by go_num, rfl, hT, HB⟩
            · go_wp2_with fail
              refine Calls.mono (awake_any _) ?_
              rintro e w3 ⟨v, rfl, rfl, hb⟩
              replace HB := HB.trans (hb.mono HB.size)
              clear hb hT hzc
              go_wp2_with fail
              go_ret
              exact ⟨_, rfl, rfl, HB⟩
        · have hd2 : ((j : Int) < 60) = False := eq_false (by omega)
          go_wp2_with fail
          refine Calls.mono (awake_any _) ?_
          rintro e w3 ⟨v, rfl, rfl, hb⟩
          replace HB := HB.trans (hb.mono HB.size)
          replace hT := hT.keep hb
          clear hb
          go_wp2_with fail
          refine Calls.mono (len_any T ys _ _ hT) ?_
          rintro e w4 ⟨rfl, hw⟩
          obtain rfl := hw.symm
          clear hw
          have hl : (ys.length : Int) = 100 := by have := HYL.out; omega
          rw [hl]
          clear hl
          go_wp2_with fail
          go_ret
          exact ⟨_, rfl, rfl, HB⟩
      · have hd1 : ((j : Int) < (zs.length : Int)) = False := eq_false (by omega)
        go_wp2_with fail
        refine Calls.mono (awake_any _) ?_
        rintro e w3 ⟨v, rfl, rfl, hb⟩
        replace HB := HB.trans (hb.mono HB.size)
        replace hT := hT.keep hb
        clear hb
        go_wp2_with fail
        refine Calls.mono (len_any T ys _ _ hT) ?_
        rintro e w4 ⟨rfl, hw⟩
        obtain rfl := hw.symm
        clear hw
        have hl : (ys.length : Int) = 100 := by have := HYL.out; omega
        rw [hl]
        clear hl
        go_wp2_with fail
        go_ret
        exact ⟨_, rfl, rfl, HB⟩
  · have hR : Row w.heap.size w (.slice ao xs.length cx) xs := ⟨ao, cx, rfl, by omega, hx⟩
    have HO : Hid _ := over_any xs w.heap.size _ w hR (Nat.le_refl _)
    have HR : Hid _ := hR
    clear hR hx
    have hd0 : (100 < (xs.length : Int)) = False := eq_false (by omega)
    have hys : ∃ ys, ys = xs := ⟨xs, rfl⟩
    obtain ⟨ys, rfl⟩ := hys
    go_enter Try.func3, Try.ntmps3
    go_wp2_with fail
    refine Calls.mono (HO.out) ?_
    rintro e w1 ⟨T, rfl, hT0, hT, hb⟩
    have HB : Below w.heap.size w w1 := hb
    have HT0 : Aside _ := hT0
    clear hb HO hT0
    have HZ0 : Aside _ := hz
    clear hz
    go_wp2_with fail
    go_loopg [6, 7] 60 (fun k r i wr => ∃ (j : Nat) (R : Int), k + j = 60 ∧ i = .int .i64 (j : Int) ∧ r = .int .i64 R ∧ Tp wr T ys R ∧ Below w.heap.size w wr)
    case atStart => exact ⟨0, 0, rfl, rfl, rfl, hT, HB⟩
    case round =>
      clear hT HB
      obtain ⟨j, R, hk, rfl, rfl, hT, HB⟩ := hrel
      have HK : Aside _ := hk
      clear hk
      by_cases hj1 : j < zs.length
      · have hd1 : ((j : Int) < (zs.length : Int)) = True := eq_true (by omega)
        by_cases hj2 : j < 60
        · have hd2 : ((j : Int) < 60) = True := eq_true (by omega)
          have hz := HZ0.out
          rcases hz with hz | ⟨bz, oz, rfl, hbz, hcz⟩
          · rw [hz] at hj1; exact absurd hj1 (by simp)
          have hzj := hcz j hj1
          have hzm := HZR.out j hj1
          clear hcz
          generalize zs.getD j 0 = z at *
          have hzc := (HB.cell (p := ⟨bz, oz + j, none⟩) hbz).trans hzj
          have HZJ : Aside _ := hzj
          clear hzj
          go_wp2_with fail
          have HRow : Hid _ := Row.mono (Row.keep (v := .slice ao ys.length cx) HR.out HB) HT0.out
          have hne := draw_ne ys z
          have HE : Aside _ := draw_ne ys z
          clear hne
          apply Lt.wp_region_loose (Asks T ys R (readF R z)) (Asked wr T ys R (readF R z)) _ 13 (by kernel_rfl) (by kernel_rfl) (by kernel_rfl) (asked_stable _ _ _ _ _) (asked_drew hT)
          apply Lt.facts
          · intro w1 hw
            exact (hw.1.cell (p := ⟨bz, oz + j, none⟩) (Nat.lt_of_lt_of_le hbz HT0.out)).trans hzc
          intro HF
          iterate 5 (
            apply Lt.one ?_ rfl
            · intro w hw
              have k0 := HF.out _ hw
              go_simp
              exact rfl
            intro K hK
            go_simp
            refine hK.out _ ?_
            clear hK K)
          apply Lt.anyW (asked_one T ys R (readF R z) (drawF ys z)) rfl
          · intro w hw
            go_simp
            exact at_upon hzm hw
          intro K hK
          rintro v ⟨_, rfl, _⟩
          go_simp
          refine hK.out _ _ ?_
          clear hK K
          iterate 5 (
            apply Lt.one ?_ rfl
            · intro w hw
              have k0 := HF.out _ hw
              go_simp
              exact rfl
            intro K hK
            go_simp
            refine hK.out _ ?_
            clear hK K)
          apply Lt.any rfl
          · intro w hw
            go_simp
            exact rat_upon (v := .slice ao ys.length cx) HRow.out hw
          intro K hK
          rintro v rfl
          go_simp
          refine hK.out _ ?_
          clear hK K
          have hne := HE.out
          iterate 1 (
            apply Lt.one ?_ rfl
            · intro w hw
              have k0 := HF.out _ hw
              go_simp
              exact rfl
            intro K hK
            go_simp
            refine hK.out _ ?_
            clear hK K)
          rotate_left
          exact []
          rintro v1 ⟨⟨hb, -⟩, -, hT1⟩
          clear hT hzc HF HRow
          have hT := hT1
          clear hT1
          replace HB := HB.trans (hb.mono HT0.out)
          clear hb
          have hzc := (HB.cell (p := ⟨bz, oz + j, none⟩) hbz).trans HZJ.out
          by_cases z0 : z < 0
          · rw [show readF R z = R from if_pos z0] at hT
            go_wp2_with fail
            refine Calls.mono (read_any T ys _ _ hT) ?_
            rintro e w2 ⟨rfl, hw⟩
            obtain rfl := hw.symm
            clear hw
            go_wp2_with fail
            go_roundg (gk - 1)
            case measure => have := HK.out; omega
            case rel => exact ⟨j + 1, _, by have := HK.out; omega, by go_num, rfl, hT, HB⟩
          · by_cases z1 : z < 4611686018427387904
            · have hrd : readF R z = max R (z + 1) := by unfold readF bhd; rw [if_neg z0, if_neg (by omega)]
              rw [hrd] at hT
              have HH : Hid _ := high_int R (z + 1)
              clear hrd
              generalize max R (z + 1) = M at *
              go_wp2_with fail
              refine Calls.mono (HH.out _) ?_
              rintro e w2 ⟨rfl, hw⟩
              obtain rfl := hw.symm
              clear hw
              go_wp2_with fail
              refine Calls.mono (read_any T ys _ _ hT) ?_
              rintro e w2 ⟨rfl, hw⟩
              obtain rfl := hw.symm
              clear hw
              go_wp2_with fail
              go_roundg (gk - 1)
              case measure => have := HK.out; omega
              case rel => exact ⟨j + 1, _, by have := HK.out; omega, by go_num, rfl, hT, HB⟩
            · go_wp2_with fail
              refine Calls.mono (awake_any _) ?_
              rintro e w3 ⟨v, rfl, rfl, hb⟩
              replace HB := HB.trans (hb.mono HB.size)
              clear hb hT hzc
              go_wp2_with fail
              go_ret
              exact ⟨_, rfl, rfl, HB⟩
        · have hd2 : ((j : Int) < 60) = False := eq_false (by omega)
          go_wp2_with fail
          refine Calls.mono (awake_any _) ?_
          rintro e w3 ⟨v, rfl, rfl, hb⟩
          replace HB := HB.trans (hb.mono HB.size)
          replace hT := hT.keep hb
          clear hb
          go_wp2_with fail
          refine Calls.mono (len_any T ys _ _ hT) ?_
          rintro e w4 ⟨rfl, hw⟩
          obtain rfl := hw.symm
          clear hw
          go_wp2_with fail
          go_ret
          exact ⟨_, rfl, rfl, HB⟩
      · have hd1 : ((j : Int) < (zs.length : Int)) = False := eq_false (by omega)
        go_wp2_with fail
        refine Calls.mono (awake_any _) ?_
        rintro e w3 ⟨v, rfl, rfl, hb⟩
        replace HB := HB.trans (hb.mono HB.size)
        replace hT := hT.keep hb
        clear hb
        go_wp2_with fail
        refine Calls.mono (len_any T ys _ _ hT) ?_
        rintro e w4 ⟨rfl, hw⟩
        obtain rfl := hw.symm
        clear hw
        go_wp2_with fail
        go_ret
        exact ⟨_, rfl, rfl, HB⟩
end Go.Proofs.Ythbcbeaagmgafaa
