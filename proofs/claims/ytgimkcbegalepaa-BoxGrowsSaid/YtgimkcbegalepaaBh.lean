/- The reference's Of. -/
import Derived.Test.YtgimkcbegalepaaRows
import Derived.Test.YtgimkcbegalepaaBf
import Derived.Test.YtgimkcbegalepaaBd
import Derived.Test.YtgimkcbegalepaaLq
namespace Go.Proofs.Ytgimkcbegalepaa
open Go.RowKit Fl

set_option maxRecDepth 100000 in
set_option maxHeartbeats 1000000 in
theorem rof_any (t0 t1 t2 t3 t4 t5 t6 t7 t8 : Nat) (w : World) : Ret Try.prog 15 #[.agg #[.float .f64 t0, .float .f64 t1, .float .f64 t2, .float .f64 t3, .float .f64 t4, .float .f64 t5, .float .f64 t6, .float .f64 t7, .float .f64 t8]] w (fun v => v = .agg #[.float .f64 (lowF (lowF (lowF pinf t0) t3) t6), .float .f64 (lowF (lowF (lowF pinf t1) t4) t7), .float .f64 (lowF (lowF (lowF pinf t2) t5) t8), .float .f64 (highF (highF (highF ninf t0) t3) t6), .float .f64 (highF (highF (highF ninf t1) t4) t7), .float .f64 (highF (highF (highF ninf t2) t5) t8)]) := by
  unfold Ret
  go_enter Try.func15, Try.ntmps15
  go_wp2_with fail
  refine Lp.settle (fun w' => Lp.Bk w' (w.heap.size) #[.float .f64 t0, .float .f64 t1, .float .f64 t2, .float .f64 t3, .float .f64 t4, .float .f64 t5, .float .f64 t6, .float .f64 t7, .float .f64 t8] 28 ∧ Lp.Bk w' (w.heap.size + 1) #[.float .f64 0, .float .f64 0, .float .f64 0, .float .f64 0, .float .f64 0, .float .f64 0] 26 ∧ Cl w w') ⟨((Lp.Bk.al _ _ _).alo _), (Lp.Bk.al1 _ _ _ _), ((Below.refl _ _).alloc (by simp <;> omega) _).alloc (by simp <;> omega) _⟩ ?_
  rintro v1 ⟨BT, BR, HB⟩
  have kT := BT.cell
  have kR := BR.cell
  apply Lp.wp_region_loose _ _ 8 (by kernel_rfl) (by kernel_rfl) (by kernel_rfl) (Below.refl _ _)
  apply Lp.facts
  · intro w1 hw
    exact And.intro (BT.cl hw).cell ((BR.cl hw).cell)
  intro HF
  apply Lp.any rfl
  · intro w hw
    go_simp
    exact Lp.ret (rempty_any _)
  intro K hK
  rintro v rfl
  go_simp
  refine hK.out _ ?_
  clear hK K
  iterate 5 (
    apply Lp.one ?_ rfl
    · intro w hw
      obtain ⟨k0, k1⟩ := HF.out _ hw
      go_simp
      exact rfl
    intro K hK
    go_simp
    refine hK.out _ ?_
    clear hK K)
  apply Lp.any rfl
  · intro w hw
    go_simp
    exact Lp.ret (rjoin_any _ _ _ _ _ _ _ _ _ _ _ _ _)
  intro K hK
  rintro v rfl
  go_simp
  refine hK.out _ ?_
  clear hK K
  apply Lp.new _ rfl
  · intro w hw
    go_simp
    exact rfl
  intro K hK b hb
  go_simp
  refine hK.out _ _ ?_
  clear hK K
  rotate_left
  exact []
  rintro v2 ⟨hm, -, hk⟩
  have BN : Lp.Bk v2 (b) #[.float .f64 0, .float .f64 0, .float .f64 0, .float .f64 0, .float .f64 0, .float .f64 0] 26 := hk
  clear hk
  have hlt : w.heap.size + 1 < b := Nat.lt_of_lt_of_le BR.lt hb
  have n0 : (b = w.heap.size) = False := eq_false (by omega)
  have n1 : (w.heap.size = b) = False := eq_false (by omega)
  have n2 : (b = w.heap.size + 1) = False := eq_false (by omega)
  have n3 : (w.heap.size + 1 = b) = False := eq_false (by omega)
  clear hb
  clear kT kR
  replace BT := BT.keep hm
  replace BR := BR.keep hm
  replace HB := HB.call hm
  clear hm
  have kT := BT.cell
  have kR := BR.cell
  have kN := BN.cell
  have zN := BN.frz
  have zR := BR.frz
  go_wp2_with fail
  refine Lp.settleC (fun w' => Lp.Bk w' (w.heap.size) #[.float .f64 t0, .float .f64 t1, .float .f64 t2, .float .f64 t3, .float .f64 t4, .float .f64 t5, .float .f64 t6, .float .f64 t7, .float .f64 t8] 28 ∧ Lp.Bk w' (w.heap.size + 1) #[.float .f64 0, .float .f64 0, .float .f64 0, .float .f64 0, .float .f64 0, .float .f64 0] 26 ∧ Lp.Bk w' (b) #[.float .f64 (lowF pinf t0), .float .f64 (lowF pinf t1), .float .f64 (lowF pinf t2), .float .f64 (highF ninf t0), .float .f64 (highF ninf t1), .float .f64 (highF ninf t2)] 26 ∧ Cl w w') ⟨(by (repeat (refine Lp.Bk.seto ?_ (by dsimp only; omega) _)); exact BT), (by (repeat (refine Lp.Bk.seto ?_ (by dsimp only; omega) _)); exact BR), BN.set6, (by (repeat (refine Below.setCell ?_ (by dsimp only; omega) _)); exact HB)⟩ ?_
  clear kT kR kN zN zR
  rintro v3 ⟨BT, BR, BN, HB⟩
  have kT := BT.cell
  have kR := BR.cell
  have kN := BN.cell
  have zN := BN.frz
  have zR := BR.frz
  refine Calls.mono (rjoin_any _ _ _ _ _ _ _ _ _ _ _ _ _) ?_
  rintro e v4 ⟨v, rfl, rfl, hm⟩
  clear kT kR kN zN zR
  replace BT := BT.keep hm
  replace BR := BR.keep hm
  replace BN := BN.keep hm
  replace HB := HB.call hm
  clear hm
  have kT := BT.cell
  have kR := BR.cell
  have kN := BN.cell
  have zN := BN.frz
  have zR := BR.frz
  go_wp2_with fail
  refine Lp.settleC (fun w' => Lp.Bk w' (w.heap.size) #[.float .f64 t0, .float .f64 t1, .float .f64 t2, .float .f64 t3, .float .f64 t4, .float .f64 t5, .float .f64 t6, .float .f64 t7, .float .f64 t8] 28 ∧ Lp.Bk w' (w.heap.size + 1) #[.float .f64 0, .float .f64 0, .float .f64 0, .float .f64 0, .float .f64 0, .float .f64 0] 26 ∧ Lp.Bk w' (b) #[.float .f64 (lowF (lowF pinf t0) t3), .float .f64 (lowF (lowF pinf t1) t4), .float .f64 (lowF (lowF pinf t2) t5), .float .f64 (highF (highF ninf t0) t3), .float .f64 (highF (highF ninf t1) t4), .float .f64 (highF (highF ninf t2) t5)] 26 ∧ Cl w w') ⟨(by (repeat (refine Lp.Bk.seto ?_ (by dsimp only; omega) _)); exact BT), (by (repeat (refine Lp.Bk.seto ?_ (by dsimp only; omega) _)); exact BR), BN.set6, (by (repeat (refine Below.setCell ?_ (by dsimp only; omega) _)); exact HB)⟩ ?_
  clear kT kR kN zN zR
  rintro v5 ⟨BT, BR, BN, HB⟩
  have kT := BT.cell
  have kR := BR.cell
  have kN := BN.cell
  have zN := BN.frz
  have zR := BR.frz
  refine Calls.mono (rjoin_any _ _ _ _ _ _ _ _ _ _ _ _ _) ?_
  rintro e v6 ⟨v, rfl, rfl, hm⟩
  clear kT kR kN zN zR
  replace BT := BT.keep hm
  replace BR := BR.keep hm
  replace BN := BN.keep hm
  replace HB := HB.call hm
  clear hm
  have kT := BT.cell
  have kR := BR.cell
  have kN := BN.cell
  have zN := BN.frz
  have zR := BR.frz
  go_wp2_with fail
  refine bodyPost_ret (v := .agg #[.float .f64 (lowF (lowF (lowF pinf t0) t3) t6), .float .f64 (lowF (lowF (lowF pinf t1) t4) t7), .float .f64 (lowF (lowF (lowF pinf t2) t5) t8), .float .f64 (highF (highF (highF ninf t0) t3) t6), .float .f64 (highF (highF (highF ninf t1) t4) t7), .float .f64 (highF (highF (highF ninf t2) t5) t8)]) (by simp [results, go_sem, kR]) rfl ⟨_, rfl, rfl, ?_⟩
  repeat (refine Below.setCell ?_ (by dsimp only; omega) _)
  exact HB

end Go.Proofs.Ytgimkcbegalepaa
