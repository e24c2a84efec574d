/- The reference's Of. The reference's Through. -/
import Derived.Deep.LoopGhost
import Derived.Test.YtiblmojdjnfoaaaGreatRows
import Derived.Test.YtiblmojdjnfoaaaGreatG11
import Derived.Test.YtiblmojdjnfoaaaGreatG7
import Derived.Test.YtiblmojdjnfoaaaGreatG6
namespace Go.Proofs.YtiblmojdjnfoaaaGreat
open Go.RowKit Fl

set_option maxRecDepth 100000 in
set_option maxHeartbeats 1000000 in
theorem rof_any (t0 t1 t2 t3 t4 t5 t6 t7 t8 : Nat) (w : World) : Ret Tryz.prog 46 #[.agg #[.float .f64 t0, .float .f64 t1, .float .f64 t2, .float .f64 t3, .float .f64 t4, .float .f64 t5, .float .f64 t6, .float .f64 t7, .float .f64 t8]] w (fun v => v = .agg #[.float .f64 (lowF (lowF (lowF pinf t0) t3) t6), .float .f64 (lowF (lowF (lowF pinf t1) t4) t7), .float .f64 (lowF (lowF (lowF pinf t2) t5) t8), .float .f64 (highF (highF (highF ninf t0) t3) t6), .float .f64 (highF (highF (highF ninf t1) t4) t7), .float .f64 (highF (highF (highF ninf t2) t5) t8)]) := by
  unfold Ret
  go_enter Tryz.func46, Tryz.ntmps46
  go_wp2_with fail
  refine Lp.settle (fun w' => Lp.Bk w' (w.heap.size) #[.float .f64 t0, .float .f64 t1, .float .f64 t2, .float .f64 t3, .float .f64 t4, .float .f64 t5, .float .f64 t6, .float .f64 t7, .float .f64 t8] 60 ∧ Lp.Bk w' (w.heap.size + 1) #[.float .f64 0, .float .f64 0, .float .f64 0, .float .f64 0, .float .f64 0, .float .f64 0] 54 ∧ Cl w w') ⟨((Lp.Bk.al _ _ _).alo _), (Lp.Bk.al1 _ _ _ _), ((Below.refl _ _).alloc (by simp <;> omega) _).alloc (by simp <;> omega) _⟩ ?_
  rintro v1 ⟨BT, BR, HB⟩
  have kT := BT.cell
  have kR := BR.cell
  apply Lp.wp_region_loose _ _ 8 (by kernel_rfl) (by kernel_rfl) (by kernel_rfl) (Below.refl _ _)
  apply Lp.facts
  · intro w1 hw
    exact And.intro (BT.cl hw).cell ((BR.cl hw).cell)
  intro HF
  apply Lp.any rfl
  · intro w hw
    go_simp
    exact Lp.ret (rempty_any _)
  intro K hK
  rintro v rfl
  go_simp
  refine hK.out _ ?_
  clear hK K
  iterate 5 (
    apply Lp.one ?_ rfl
    · intro w hw
      obtain ⟨k0, k1⟩ := HF.out _ hw
      go_simp
      exact rfl
    intro K hK
    go_simp
    refine hK.out _ ?_
    clear hK K)
  apply Lp.any rfl
  · intro w hw
    go_simp
    exact Lp.ret (rjoin_any _ _ _ _ _ _ _ _ _ _ _ _ _)
  intro K hK
  rintro v rfl
  go_simp
  refine hK.out _ ?_
  clear hK K
  apply Lp.new _ rfl
  · intro w hw
    go_simp
    exact rfl
  intro K hK b hb
  go_simp
  refine hK.out _ _ ?_
  clear hK K
  rotate_left
  exact []
  rintro v2 ⟨hm, -, hk⟩
  have BN : Lp.Bk v2 (b) #[.float .f64 0, .float .f64 0, .float .f64 0, .float .f64 0, .float .f64 0, .float .f64 0] 54 := hk
  clear hk
  have hlt : w.heap.size + 1 < b := Nat.lt_of_lt_of_le BR.lt hb
  have n0 : (b = w.heap.size) = False := eq_false (by omega)
  have n1 : (w.heap.size = b) = False := eq_false (by omega)
  have n2 : (b = w.heap.size + 1) = False := eq_false (by omega)
  have n3 : (w.heap.size + 1 = b) = False := eq_false (by omega)
  clear hb
  clear kT kR
  replace BT := BT.keep hm
  replace BR := BR.keep hm
  replace HB := HB.call hm
  clear hm
  have kT := BT.cell
  have kR := BR.cell
  have kN := BN.cell
  have zN := BN.frz
  have zR := BR.frz
  go_wp2_with fail
  refine Lp.settleC (fun w' => Lp.Bk w' (w.heap.size) #[.float .f64 t0, .float .f64 t1, .float .f64 t2, .float .f64 t3, .float .f64 t4, .float .f64 t5, .float .f64 t6, .float .f64 t7, .float .f64 t8] 60 ∧ Lp.Bk w' (w.heap.size + 1) #[.float .f64 0, .float .f64 0, .float .f64 0, .float .f64 0, .float .f64 0, .float .f64 0] 54 ∧ Lp.Bk w' (b) #[.float .f64 (lowF pinf t0), .float .f64 (lowF pinf t1), .float .f64 (lowF pinf t2), .float .f64 (highF ninf t0), .float .f64 (highF ninf t1), .float .f64 (highF ninf t2)] 54 ∧ Cl w w') ⟨(by (repeat (refine Lp.Bk.seto ?_ (by dsimp only; omega) _)); exact BT), (by (repeat (refine Lp.Bk.seto ?_ (by dsimp only; omega) _)); exact BR), BN.set6, (by (repeat (refine Below.setCell ?_ (by dsimp only; omega) _)); exact HB)⟩ ?_
  clear kT kR kN zN zR
  rintro v3 ⟨BT, BR, BN, HB⟩
  have kT := BT.cell
  have kR := BR.cell
  have kN := BN.cell
  have zN := BN.frz
  have zR := BR.frz
  refine Calls.mono (rjoin_any _ _ _ _ _ _ _ _ _ _ _ _ _) ?_
  rintro e v4 ⟨v, rfl, rfl, hm⟩
  clear kT kR kN zN zR
  replace BT := BT.keep hm
  replace BR := BR.keep hm
  replace BN := BN.keep hm
  replace HB := HB.call hm
  clear hm
  have kT := BT.cell
  have kR := BR.cell
  have kN := BN.cell
  have zN := BN.frz
  have zR := BR.frz
  go_wp2_with fail
  refine Lp.settleC (fun w' => Lp.Bk w' (w.heap.size) #[.float .f64 t0, .float .f64 t1, .float .f64 t2, .float .f64 t3, .float .f64 t4, .float .f64 t5, .float .f64 t6, .float .f64 t7, .float .f64 t8] 60 ∧ Lp.Bk w' (w.heap.size + 1) #[.float .f64 0, .float .f64 0, .float .f64 0, .float .f64 0, .float .f64 0, .float .f64 0] 54 ∧ Lp.Bk w' (b) #[.float .f64 (lowF (lowF pinf t0) t3), .float .f64 (lowF (lowF pinf t1) t4), .float .f64 (lowF (lowF pinf t2) t5), .float .f64 (highF (highF ninf t0) t3), .float .f64 (highF (highF ninf t1) t4), .float .f64 (highF (highF ninf t2) t5)] 54 ∧ Cl w w') ⟨(by (repeat (refine Lp.Bk.seto ?_ (by dsimp only; omega) _)); exact BT), (by (repeat (refine Lp.Bk.seto ?_ (by dsimp only; omega) _)); exact BR), BN.set6, (by (repeat (refine Below.setCell ?_ (by dsimp only; omega) _)); exact HB)⟩ ?_
  clear kT kR kN zN zR
  rintro v5 ⟨BT, BR, BN, HB⟩
  have kT := BT.cell
  have kR := BR.cell
  have kN := BN.cell
  have zN := BN.frz
  have zR := BR.frz
  refine Calls.mono (rjoin_any _ _ _ _ _ _ _ _ _ _ _ _ _) ?_
  rintro e v6 ⟨v, rfl, rfl, hm⟩
  clear kT kR kN zN zR
  replace BT := BT.keep hm
  replace BR := BR.keep hm
  replace BN := BN.keep hm
  replace HB := HB.call hm
  clear hm
  have kT := BT.cell
  have kR := BR.cell
  have kN := BN.cell
  have zN := BN.frz
  have zR := BR.frz
  go_wp2_with fail
  refine bodyPost_ret (v := .agg #[.float .f64 (lowF (lowF (lowF pinf t0) t3) t6), .float .f64 (lowF (lowF (lowF pinf t1) t4) t7), .float .f64 (lowF (lowF (lowF pinf t2) t5) t8), .float .f64 (highF (highF (highF ninf t0) t3) t6), .float .f64 (highF (highF (highF ninf t1) t4) t7), .float .f64 (highF (highF (highF ninf t2) t5) t8)]) (by simp [results, go_sem, kR]) rfl ⟨_, rfl, rfl, ?_⟩
  repeat (refine Below.setCell ?_ (by dsimp only; omega) _)
  exact HB

end Go.Proofs.YtiblmojdjnfoaaaGreat

namespace Go.Proofs.YtiblmojdjnfoaaaGreat
open Go.RowKit Fl

set_option maxRecDepth 100000 in
set_option maxHeartbeats 1000000 in
theorem rthrough_any (b0 b1 b2 b3 b4 b5 r0 r1 r2 r3 r4 r5 : Nat) (w : World) : Ret Tryz.prog 18 #[.agg #[.float .f64 b0, .float .f64 b1, .float .f64 b2, .float .f64 b3, .float .f64 b4, .float .f64 b5], .agg #[.float .f64 r0, .float .f64 r1, .float .f64 r2, .float .f64 r3, .float .f64 r4, .float .f64 r5]] w (fun v => v = outT (goesF b0 b1 b2 b3 b4 b5 r0 r1 r2 r3 r4 r5)) := by
  unfold Ret goesF rayB
  have HO : Hid _ := rfinite_any r0 r1 r2
  have HD : Hid _ := rfinite_any r3 r4 r5
  generalize (numB r0 && numB r1 && numB r2) = p at HO ⊢
  generalize (numB r3 && numB r4 && numB r5) = q at HD ⊢
  cases p
  · go_enter Tryz.func18, Tryz.ntmps18
    go_wp2_with fail
    refine Lp.settleC (fun w' => Lp.Bk w' (w.heap.size) #[.float .f64 b0, .float .f64 b1, .float .f64 b2, .float .f64 b3, .float .f64 b4, .float .f64 b5] 54 ∧ Lp.Bk w' (w.heap.size + 1) #[.float .f64 r0, .float .f64 r1, .float .f64 r2, .float .f64 r3, .float .f64 r4, .float .f64 r5] 27 ∧ Cl w w') ⟨((Lp.Bk.al _ _ _).alo _), (Lp.Bk.al1 _ _ _ _), ((Below.refl _ _).alloc (by simp <;> omega) _).alloc (by simp <;> omega) _⟩ ?_
    rintro v1 ⟨BB, BR, HB⟩
    have kB := BB.cell
    have kR := BR.cell
    refine Calls.mono (inf_pos _) ?_
    rintro e w' ⟨rfl, hw⟩
    obtain rfl := hw.symm
    clear hw
    go_wp2_with fail
    refine Calls.mono (HO.out _) ?_
    rintro e v2 ⟨v, rfl, rfl, hm⟩
    clear kB kR
    replace BB := BB.keep hm
    replace BR := BR.keep hm
    replace HB := HB.call hm
    clear hm
    have kB := BB.cell
    have kR := BR.cell
    go_wp2_with fail
    refine wp_loop_rounds 1 ?_
    rw [rounds_succ]
    go_wp2_with fail
    go_ret3
    exact ⟨_, rfl, rfl, HB⟩
  cases q
  · go_enter Tryz.func18, Tryz.ntmps18
    go_wp2_with fail
    refine Lp.settleC (fun w' => Lp.Bk w' (w.heap.size) #[.float .f64 b0, .float .f64 b1, .float .f64 b2, .float .f64 b3, .float .f64 b4, .float .f64 b5] 54 ∧ Lp.Bk w' (w.heap.size + 1) #[.float .f64 r0, .float .f64 r1, .float .f64 r2, .float .f64 r3, .float .f64 r4, .float .f64 r5] 27 ∧ Cl w w') ⟨((Lp.Bk.al _ _ _).alo _), (Lp.Bk.al1 _ _ _ _), ((Below.refl _ _).alloc (by simp <;> omega) _).alloc (by simp <;> omega) _⟩ ?_
    rintro v1 ⟨BB, BR, HB⟩
    have kB := BB.cell
    have kR := BR.cell
    refine Calls.mono (inf_pos _) ?_
    rintro e w' ⟨rfl, hw⟩
    obtain rfl := hw.symm
    clear hw
    go_wp2_with fail
    refine Calls.mono (HO.out _) ?_
    rintro e v2 ⟨v, rfl, rfl, hm⟩
    clear kB kR
    replace BB := BB.keep hm
    replace BR := BR.keep hm
    replace HB := HB.call hm
    clear hm
    have kB := BB.cell
    have kR := BR.cell
    go_wp2_with fail
    refine Calls.mono (HD.out _) ?_
    rintro e v3 ⟨v, rfl, rfl, hm⟩
    clear kB kR
    replace BB := BB.keep hm
    replace BR := BR.keep hm
    replace HB := HB.call hm
    clear hm
    have kB := BB.cell
    have kR := BR.cell
    go_wp2_with fail
    refine wp_loop_rounds 1 ?_
    rw [rounds_succ]
    go_wp2_with fail
    go_ret3
    exact ⟨_, rfl, rfl, HB⟩
  go_enter Tryz.func18, Tryz.ntmps18
  go_wp2_with fail
  refine Lp.settleC (fun w' => Lp.Bk w' (w.heap.size) #[.float .f64 b0, .float .f64 b1, .float .f64 b2, .float .f64 b3, .float .f64 b4, .float .f64 b5] 54 ∧ Lp.Bk w' (w.heap.size + 1) #[.float .f64 r0, .float .f64 r1, .float .f64 r2, .float .f64 r3, .float .f64 r4, .float .f64 r5] 27 ∧ Cl w w') ⟨((Lp.Bk.al _ _ _).alo _), (Lp.Bk.al1 _ _ _ _), ((Below.refl _ _).alloc (by simp <;> omega) _).alloc (by simp <;> omega) _⟩ ?_
  rintro v1 ⟨BB, BR, HB⟩
  have kB := BB.cell
  have kR := BR.cell
  refine Calls.mono (inf_pos _) ?_
  rintro e w' ⟨rfl, hw⟩
  obtain rfl := hw.symm
  clear hw
  go_wp2_with fail
  refine Calls.mono (HO.out _) ?_
  rintro e v2 ⟨v, rfl, rfl, hm⟩
  clear kB kR
  replace BB := BB.keep hm
  replace BR := BR.keep hm
  replace HB := HB.call hm
  clear hm
  have kB := BB.cell
  have kR := BR.cell
  go_wp2_with fail
  refine Calls.mono (HD.out _) ?_
  rintro e v3 ⟨v, rfl, rfl, hm⟩
  clear kB kR
  replace BB := BB.keep hm
  replace BR := BR.keep hm
  replace HB := HB.call hm
  clear hm
  have kB := BB.cell
  have kR := BR.cell
  go_wp2_with fail
  clear kB kR
  go_loopg [7, 8, 9, 10] 3 (fun k n f okv i wr => ∃ (j n1 f1 : Nat) (b : Bool), k + j = 3 ∧ i = .int .i64 (j : Int) ∧ n = .float .f64 n1 ∧ f = .float .f64 f1 ∧ okv = .bool b ∧ stF (fun k => partF r0 r1 r2 k) (fun k => partF r3 r4 r5 k) (fun k => partF b0 b1 b2 k) (fun k => partF b3 b4 b5 k) j = (if b then some (n1, f1) else none) ∧ Lp.Bk wr (w.heap.size) #[.float .f64 b0, .float .f64 b1, .float .f64 b2, .float .f64 b3, .float .f64 b4, .float .f64 b5] 54 ∧ Lp.Bk wr (w.heap.size + 1) #[.float .f64 r0, .float .f64 r1, .float .f64 r2, .float .f64 r3, .float .f64 r4, .float .f64 r5] 27 ∧ Cl w wr)
  case atStart => exact ⟨0, 0, pinf, true, rfl, rfl, rfl, rfl, rfl, rfl, BB, BR, HB⟩
  case round =>
    clear BB BR HB
    obtain ⟨j, n1, f1, b, hk, rfl, rfl, rfl, rfl, hs, BB, BR, HB⟩ := hrel
    cases b
    · have HS : Aside _ := And.intro hk hs
      clear hk hs
      by_cases hj : j < 3
      · have hd : ((j : Int) < 3) = True := eq_true (by omega)
        go_wp2_with fail
        go_ret3
        exact ⟨_, rfl, by rw [through_none HS.out.2 (by omega)]; rfl, HB⟩
      · have hd : ((j : Int) < 3) = False := eq_false (by omega)
        go_wp2_with fail
        go_ret3
        exact ⟨_, rfl, by rw [through_none HS.out.2 (by have := HS.out.1; omega)]; rfl, HB⟩
    · by_cases hj : j < 3
      · have HS : Aside _ := And.intro hk (show stF (fun k => partF r0 r1 r2 k) (fun k => partF r3 r4 r5 k) (fun k => partF b0 b1 b2 k) (fun k => partF b3 b4 b5 k) (j + 1) = axF (partF r0 r1 r2 j) (partF r3 r4 r5 j) (partF b0 b1 b2 j) (partF b3 b4 b5 j) (n1, f1) by show (stF _ _ _ _ j).bind _ = _; rw [hs]; rfl)
        clear hk hs
        have hd : ((j : Int) < 3) = True := eq_true (by omega)
        have kB := BB.cell
        have kR := BR.cell
        go_wp2_with fail
        refine Calls.mono (rpart_any _ _ _ _ _) ?_
        rintro e v4 ⟨v, rfl, rfl, hm⟩
        clear kB kR
        replace BB := BB.keep hm
        replace BR := BR.keep hm
        replace HB := HB.call hm
        clear hm
        have kB := BB.cell
        have kR := BR.cell
        go_wp2_with fail
        refine Calls.mono (rpart_any _ _ _ _ _) ?_
        rintro e v5 ⟨v, rfl, rfl, hm⟩
        clear kB kR
        replace BB := BB.keep hm
        replace BR := BR.keep hm
        replace HB := HB.call hm
        clear hm
        have kB := BB.cell
        have kR := BR.cell
        go_wp2_with fail
        refine Calls.mono (rpart_any _ _ _ _ _) ?_
        rintro e v6 ⟨v, rfl, rfl, hm⟩
        clear kB kR
        replace BB := BB.keep hm
        replace BR := BR.keep hm
        replace HB := HB.call hm
        clear hm
        have kB := BB.cell
        have kR := BR.cell
        go_wp2_with fail
        refine Calls.mono (rpart_any _ _ _ _ _) ?_
        rintro e v7 ⟨v, rfl, rfl, hm⟩
        clear kB kR
        replace BB := BB.keep hm
        replace BR := BR.keep hm
        replace HB := HB.call hm
        clear hm
        have kB := BB.cell
        have kR := BR.cell
        go_wp2_with fail
        · have hz : (ford (partF r3 r4 r5 j) 0 != some .eq) = false := ne_off (by assumption)
          have hst := HS.out.2.trans (ax_zero hz)
          go_roundg (gk - 1)
          case measure => have := HS.out.1; omega
          case rel => exact ⟨j + 1, n1, f1, leB (partF b0 b1 b2 j) (partF r0 r1 r2 j) && leB (partF r0 r1 r2 j) (partF b3 b4 b5 j), by have := HS.out.1; omega, by go_num, rfl, rfl, rfl, hst, BB, BR, HB⟩
        · have hz : (ford (partF r3 r4 r5 j) 0 != some .eq) = false := ne_off (by assumption)
          have hst := HS.out.2.trans (ax_zero hz)
          rw [le2_off1 (by assumption)] at hst
          go_roundg (gk - 1)
          case measure => have := HS.out.1; omega
          case rel => exact ⟨j + 1, n1, f1, false, by have := HS.out.1; omega, by go_num, rfl, rfl, rfl, hst, BB, BR, HB⟩
        · have hz : (ford (partF r3 r4 r5 j) 0 != some .eq) = true := ne_on (by assumption)
          replace HS : Aside _ := And.intro HS.out.1 (HS.out.2.trans (ax_other hz))
          clear hz
          refine upon_div (Sm.refl _) (Sm.refl _) ?_
          intro i ni hi
          go_wp2_with fail
          refine upon_sub (Sm.refl _) (Sm.refl _) ?_
          intro dl nl hdl
          go_wp2_with fail
          refine upon_sub (Sm.refl _) (Sm.refl _) ?_
          intro dh nh hdh
          go_wp2_with fail
          refine upon_mul hdl.sm hi.sm ?_
          intro x nx hx
          go_wp2_with fail
          refine upon_mul hdh.sm hi.sm ?_
          intro y ny hy
          clear kB kR
          refine Lp.settleU (fun w' => Lp.Bk w' (w.heap.size) #[.float .f64 b0, .float .f64 b1, .float .f64 b2, .float .f64 b3, .float .f64 b4, .float .f64 b5] 54 ∧ Lp.Bk w' (w.heap.size + 1) #[.float .f64 r0, .float .f64 r1, .float .f64 r2, .float .f64 r3, .float .f64 r4, .float .f64 r5] 27 ∧  Cl w w') ⟨(BB.dr _).dr _, (BR.dr _).dr _, (HB.drewN _).drewN _⟩ ?_
          clear BB BR HB
          rintro v9 ⟨BB, BR, HB⟩
          go_wp2_with fail
          · have hlt : (ford i 0 == some .lt) = true := by assumption
            have hlt2 : (ford (fdiv one (partF r3 r4 r5 j)) 0 == some .lt) = true := by rw [← ford_congr hi.sm (Sm.refl 0)]; exact hlt
            clear hlt
            refine Calls.mono (rhigh_any _ _ _) ?_
            rintro e w' ⟨rfl, hw⟩
            obtain rfl := hw.symm
            clear hw
            go_wp2_with fail
            refine Calls.mono (rlow_any _ _ _) ?_
            rintro e w' ⟨rfl, hw⟩
            obtain rfl := hw.symm
            clear hw
            go_wp2_with fail
            go_roundg (gk - 1)
            case measure => have := HS.out.1; omega
            case rel => exact ⟨j + 1, _, _, true, by have := HS.out.1; omega, by go_num, congrArg (Value.float .f64) (high_sm hy.sm), congrArg (Value.float .f64) (low_sm hx.sm), rfl, by rw [HS.out.2, thrF_eq]; unfold nearE farE; rw [hlt2]; rfl, BB, BR, HB⟩
          · have hlt : (ford i 0 == some .lt) = false := by assumption
            have hlt2 : (ford (fdiv one (partF r3 r4 r5 j)) 0 == some .lt) = false := by rw [← ford_congr hi.sm (Sm.refl 0)]; exact hlt
            clear hlt
            refine Calls.mono (rhigh_any _ _ _) ?_
            rintro e w' ⟨rfl, hw⟩
            obtain rfl := hw.symm
            clear hw
            go_wp2_with fail
            refine Calls.mono (rlow_any _ _ _) ?_
            rintro e w' ⟨rfl, hw⟩
            obtain rfl := hw.symm
            clear hw
            go_wp2_with fail
            go_roundg (gk - 1)
            case measure => have := HS.out.1; omega
            case rel => exact ⟨j + 1, _, _, true, by have := HS.out.1; omega, by go_num, congrArg (Value.float .f64) (high_sm hx.sm), congrArg (Value.float .f64) (low_sm hy.sm), rfl, by rw [HS.out.2, thrF_eq]; unfold nearE farE; rw [hlt2]; rfl, BB, BR, HB⟩
      · have hj3 : j = 3 := by omega
        subst hj3
        have hd : (((3 : Nat) : Int) < 3) = False := eq_false (by omega)
        rw [if_pos rfl] at hs
        go_wp2_with fail
        · have hn : leB n1 f1 = true := leB_onC (by assumption)
          go_ret3
          exact ⟨_, rfl, by unfold throughF; rw [hs]; show _ = outT (finF (n1, f1)); unfold finF; rw [hn]; rfl, HB⟩
        · have hn : leB n1 f1 = false := leB_offC (by assumption)
          go_ret3
          exact ⟨_, rfl, by unfold throughF; rw [hs]; show _ = outT (finF (n1, f1)); unfold finF; rw [hn]; rfl, HB⟩

end Go.Proofs.YtiblmojdjnfoaaaGreat
