/- The walk of the law BoxLooks. -/
import Derived.Deep.CutRange
import Derived.Deep.Light
import Derived.Test.YtgimkcbegalepaaRows
import Derived.Test.YtgimkcbegalepaaBp
import Derived.Test.YtgimkcbegalepaaVr
import Derived.Test.YtgimkcbegalepaaVv
namespace Go.Proofs.Ytgimkcbegalepaa
open Go.RowKit Fl

theorem gt_self (x : Nat) : gtB x x = false := by
  unfold gtB
  cases h : isN x
  · rw [ford_refl h]; rfl
  · rw [ord_nan_left h]; rfl
theorem rscale_sm {x y z X Y Z k : Nat} (hx : Sm x X) (hy : Sm y Y) (hz : Sm z Z) (w : World) : Ret Try.prog 25 #[.agg #[.float .f64 x, .float .f64 y, .float .f64 z], .float .f64 k] w (isV (fmul X k) (fmul Y k) (fmul Z k)) :=
  (rscale_any x y z k w).mono (isV.to (fmul_congr hx (Sm.refl k)) (fmul_congr hy (Sm.refl k)) (fmul_congr hz (Sm.refl k)))
def one3 (x y : Nat) : Int := if gtB y x then 1 else 0
theorem best3 (x y z : Nat) : ((bestF x y z 3 : Nat) : Int) = if gtB z (partF x y z (one3 x y)) then 2 else one3 x y := by
  have e1 : bestF x y z 1 = 0 := by
    show (if _ then 0 else bestF x y z 0) = 0
    split <;> rfl
  have e2 : ((bestF x y z 2 : Nat) : Int) = one3 x y := by
    show (((if gtB (partF x y z (1 : Nat)) (partF x y z (bestF x y z 1 : Nat)) then 1 else bestF x y z 1) : Nat) : Int) = _
    rw [e1]
    show (((if gtB y x then 1 else 0) : Nat) : Int) = one3 x y
    unfold one3
    cases gtB y x <;> rfl
  show (((if gtB (partF x y z (2 : Nat)) (partF x y z (bestF x y z 2 : Nat)) then 2 else bestF x y z 2) : Nat) : Int) = _
  have ez : partF x y z (2 : Nat) = z := rfl
  rw [ez, e2]
  cases gtB z (partF x y z (one3 x y))
  · exact e2
  · rfl

set_option maxRecDepth 100000 in
set_option maxHeartbeats 2000000 in
theorem looks_walk (a0 a1 a2 a3 a4 a5 b0 b1 b2 b3 b4 b5 : Nat) (w : World) : Ret Try.prog 6 #[.agg #[.float .f64 a0, .float .f64 a1, .float .f64 a2, .float .f64 a3, .float .f64 a4, .float .f64 a5], .agg #[.float .f64 b0, .float .f64 b1, .float .f64 b2, .float .f64 b3, .float .f64 b4, .float .f64 b5]] w (fun v => v = .bool true) := by
  unfold Ret
  have HH : Hid _ := has_any a0 a1 a2 a3 a4 a5 b0 b1 b2 b3 b4 b5
  have HE : Aside _ := has_eq a0 a1 a2 a3 a4 a5 b0 b1 b2 b3 b4 b5
  generalize hasF a0 a1 a2 a3 a4 a5 b0 b1 b2 b3 b4 b5 = hs at HH HE
  go_enter Try.func6, Try.ntmps6
  go_upto_region 1 with fail
  refine Lp.settle (fun w' => Lp.Bk w' (w.heap.size) #[.float .f64 a0, .float .f64 a1, .float .f64 a2, .float .f64 a3, .float .f64 a4, .float .f64 a5] 26 ∧ Lp.Bk w' (w.heap.size + 1) #[.float .f64 b0, .float .f64 b1, .float .f64 b2, .float .f64 b3, .float .f64 b4, .float .f64 b5] 26 ∧ Cl w w') ⟨((Lp.Bk.al _ _ _).alo _), (Lp.Bk.al1 _ _ _ _), ((Below.refl _ _).alloc (by simp <;> omega) _).alloc (by simp <;> omega) _⟩ ?_
  rintro v1 ⟨BA, BB, HB⟩
  have kA := BA.cell
  have kB := BB.cell
  go_cut [5] from 12 (fun s w' => s = .bool hs ∧ Lp.Bk w' (w.heap.size) #[.float .f64 a0, .float .f64 a1, .float .f64 a2, .float .f64 a3, .float .f64 a4, .float .f64 a5] 26 ∧ Lp.Bk w' (w.heap.size + 1) #[.float .f64 b0, .float .f64 b1, .float .f64 b2, .float .f64 b3, .float .f64 b4, .float .f64 b5] 26 ∧ Cl w w')
  case first =>
    go_wp2_with fail
    all_goals go_meet
    all_goals (
      case rel =>
        refine ⟨?_, BA, BB, HB⟩
        have he := HE.out
        go_light
        rw [he]
        clear he HE
        unfold ltB gtB
        simp only [ordf] at *
        simp [*])
  case rest =>
    obtain ⟨rfl, hA, hB, hW⟩ := hcut
    clear HE
    clear kA kB
    clear BA BB HB
    have BA := hA
    have BB := hB
    have HB := hW
    clear hA hB hW
    have kA := BA.cell
    have kB := BB.cell
    go_wp2_with fail
    refine Calls.mono (rsub_any _ _ _ _ _ _ _) ?_
    rintro e v2 ⟨v, rfl, ⟨x, y, z, rfl, hx, hy, hz⟩, hm⟩
    clear kA kB
    replace BA := BA.keep hm
    replace BB := BB.keep hm
    replace HB := HB.call hm
    clear hm
    have kA := BA.cell
    have kB := BB.cell
    have lA := BA.lt
    have nA : (w.heap.size = v2.heap.size) = False := eq_false (Nat.ne_of_lt lA)
    have lB := BB.lt
    have nB : (w.heap.size + 1 = v2.heap.size) = False := eq_false (Nat.ne_of_lt lB)
    have HX : Aside _ := And.intro hx (And.intro hy hz)
    clear hx hy hz
    go_wp2_with fail
    refine upon_mul (Sm.refl _) (Sm.refl _) ?_
    intro xy nxy hxy
    clear lA nA lB nB
    refine Lp.settleU (fun w' => Lp.Bk w' (w.heap.size) #[.float .f64 a0, .float .f64 a1, .float .f64 a2, .float .f64 a3, .float .f64 a4, .float .f64 a5] 26 ∧ Lp.Bk w' (w.heap.size + 1) #[.float .f64 b0, .float .f64 b1, .float .f64 b2, .float .f64 b3, .float .f64 b4, .float .f64 b5] 26 ∧ Lp.Bk w' (v2.heap.size) #[.float .f64 x, .float .f64 y, .float .f64 z] 24 ∧ Cl w w') ⟨(BA.alo _).dr _, (BB.alo _).dr _, (Lp.Bk.al _ _ _).dr _, (HB.alloc _).drewN _⟩ ?_
    clear kA kB
    rintro v3 ⟨BA, BB, BD, HB⟩
    have kA := BA.cell
    have kB := BB.cell
    have kD := BD.cell
    go_wp2_with fail
    refine upon_mul (Sm.refl _) (Sm.refl _) ?_
    intro yz nyz hyz
    go_wp2_with fail
    refine upon_mul (Sm.refl _) (Sm.refl _) ?_
    intro zx nzx hzx
    go_wp2_with fail
    refine upon_add hxy.sm hyz.sm ?_
    intro sm nsm hsm
    refine Lp.settleU (fun w' => Lp.Bk w' (w.heap.size) #[.float .f64 a0, .float .f64 a1, .float .f64 a2, .float .f64 a3, .float .f64 a4, .float .f64 a5] 26 ∧ Lp.Bk w' (w.heap.size + 1) #[.float .f64 b0, .float .f64 b1, .float .f64 b2, .float .f64 b3, .float .f64 b4, .float .f64 b5] 26 ∧ Lp.Bk w' (v2.heap.size) #[.float .f64 x, .float .f64 y, .float .f64 z] 24 ∧ Cl w w') ⟨(BA.dr _).dr _, (BB.dr _).dr _, (BD.dr _).dr _, (HB.drewN _).drewN _⟩ ?_
    clear kA kB kD
    rintro v4 ⟨BA, BB, BD, HB⟩
    have kA := BA.cell
    have kB := BB.cell
    have kD := BD.cell
    go_upto_if 92 with fail
    go_cut [11] from 12 (fun s w' => s = .int .i64 (one3 x y) ∧ Lp.Bk w' (w.heap.size) #[.float .f64 a0, .float .f64 a1, .float .f64 a2, .float .f64 a3, .float .f64 a4, .float .f64 a5] 26 ∧ Lp.Bk w' (w.heap.size + 1) #[.float .f64 b0, .float .f64 b1, .float .f64 b2, .float .f64 b3, .float .f64 b4, .float .f64 b5] 26 ∧ Lp.Bk w' (v2.heap.size) #[.float .f64 x, .float .f64 y, .float .f64 z] 24 ∧ Cl w w')
    case first =>
      go_wp2_with fail
      · go_meet
        case rel => exact ⟨by unfold one3; rw [show gtB y x = true by assumption]; rfl, BA, BB, BD, HB⟩
      · go_meet
        case rel => exact ⟨by unfold one3; rw [show gtB y x = false by assumption]; rfl, BA, BB, BD, HB⟩
    case rest =>
      obtain ⟨rfl, hA, hB, hD, hW⟩ := hcut
      clear kA kB kD
      clear BA BB BD HB
      have BA := hA
      have BB := hB
      have BD := hD
      have HB := hW
      clear hA hB hD hW
      have kA := BA.cell
      have kB := BB.cell
      have kD := BD.cell
      go_wp2_with fail
      apply Lp.wp_region_loose _ _ 6 (by kernel_rfl) (by kernel_rfl) (by kernel_rfl) (Below.refl _ _)
      apply Lp.facts
      · intro w1 hw
        exact And.intro (BA.cl hw).cell (And.intro (BB.cl hw).cell ((BD.cl hw).cell))
      intro HF
      iterate 4 (
        apply Lp.one ?_ rfl
        · intro w hw
          obtain ⟨k0, k1, k2⟩ := HF.out _ hw
          go_simp
          exact rfl
        intro K hK
        go_simp
        refine hK.out _ ?_
        clear hK K)
      apply Lp.any rfl
      · intro w hw
        go_simp
        exact Lp.ret (rpart_any _ _ _ _ _)
      intro K hK
      rintro v rfl
      go_simp
      refine hK.out _ ?_
      clear hK K
      iterate 1 (
        apply Lp.one ?_ rfl
        · intro w hw
          obtain ⟨k0, k1, k2⟩ := HF.out _ hw
          go_simp
          exact rfl
        intro K hK
        go_simp
        refine hK.out _ ?_
        clear hK K)
      rotate_left
      exact []
      intro v5 hm
      clear kA kB kD
      replace BA := BA.keep hm
      replace BB := BB.keep hm
      replace BD := BD.keep hm
      replace HB := HB.call hm
      clear hm
      have kA := BA.cell
      have kB := BB.cell
      have kD := BD.cell
      go_upto_if 98 with fail
      go_cut [11] from 12 (fun s w' => s = .int .i64 (bestF x y z 3 : Nat) ∧ Lp.Bk w' (w.heap.size) #[.float .f64 a0, .float .f64 a1, .float .f64 a2, .float .f64 a3, .float .f64 a4, .float .f64 a5] 26 ∧ Lp.Bk w' (w.heap.size + 1) #[.float .f64 b0, .float .f64 b1, .float .f64 b2, .float .f64 b3, .float .f64 b4, .float .f64 b5] 26 ∧ Lp.Bk w' (v2.heap.size) #[.float .f64 x, .float .f64 y, .float .f64 z] 24 ∧ Cl w w')
      case first =>
        go_wp2_with fail
        · go_meet
          case rel => exact ⟨by rw [best3, show gtB z (partF x y z (one3 x y)) = true by assumption]; rfl, BA, BB, BD, HB⟩
        · go_meet
          case rel => exact ⟨by rw [best3, show gtB z (partF x y z (one3 x y)) = false by assumption]; rfl, BA, BB, BD, HB⟩
      case rest =>
        obtain ⟨rfl, hA, hB, hD, hW⟩ := hcut
        clear kA kB kD
        clear BA BB BD HB
        have BA := hA
        have BB := hB
        have BD := hD
        have HB := hW
        clear hA hB hD hW
        have kA := BA.cell
        have kB := BB.cell
        have kD := BD.cell
        rw [best_congr HX.out.1.sm HX.out.2.1.sm HX.out.2.2.sm 3]
        have HLo : Hid _ := longest_any a0 a1 a2 a3 a4 a5
        generalize bestF (fsub a3 a0) (fsub a4 a1) (fsub a5 a2) 3 = lo at HLo ⊢
        go_wp2_with fail
        have HS : Aside (halfF (fsub a3 a0) (fsub a4 a1) (fsub a5 a2) = fadd sm zx) := by
          show halfF _ _ _ = _
          rw [fadd_congr hsm.sm hzx.sm]
          unfold halfF
          rw [fmul_congr HX.out.1.sm HX.out.2.1.sm, fmul_congr HX.out.2.1.sm HX.out.2.2.sm, fmul_congr HX.out.2.2.sm HX.out.1.sm]
        clear hxy hyz hzx hsm HX
        apply Lp.wp_region_loose _ _ 34 (by kernel_rfl) (by kernel_rfl) (by kernel_rfl) (Below.refl _ _)
        apply Lp.facts
        · intro w1 hw
          exact And.intro (BA.cl hw).cell (And.intro (BB.cl hw).cell ((BD.cl hw).cell))
        intro HF
        apply Lp.any rfl
        · intro w hw
          go_simp
          exact Lp.ret (awake_any _)
        intro K hK
        rintro v rfl
        go_simp
        refine hK.out _ ?_
        clear hK K
        iterate 3 (
          apply Lp.one ?_ rfl
          · intro w hw
            obtain ⟨kk0, kk1, kk2⟩ := HF.out _ hw
            go_simp
            exact rfl
          intro K hK
          go_simp
          refine hK.out _ ?_
          clear hK K)
        apply Lp.any rfl
        · intro w hw
          go_simp
          exact Lp.ret (HH.out _)
        intro K hK
        rintro v rfl
        go_simp
        refine hK.out _ ?_
        clear hK K
        iterate 5 (
          apply Lp.one ?_ rfl
          · intro w hw
            obtain ⟨kk0, kk1, kk2⟩ := HF.out _ hw
            go_simp
            exact rfl
          intro K hK
          go_simp
          refine hK.out _ ?_
          clear hK K)
        apply Lp.any rfl
        · intro w hw
          go_simp
          exact Lp.ret (mid_any _ _ _ _ _ _ _)
        intro K hK
        rintro v ⟨x0, x1, x2, rfl, h0, h1, h2⟩
        go_simp
        refine hK.out _ ?_
        clear hK K
        iterate 4 (
          apply Lp.one ?_ rfl
          · intro w hw
            obtain ⟨kk0, kk1, kk2⟩ := HF.out _ hw
            go_simp
            exact rfl
          intro K hK
          go_simp
          refine hK.out _ ?_
          clear hK K)
        apply Lp.any rfl
        · intro w hw
          go_simp
          exact Lp.ret (radd_any _ _ _ _ _ _ _)
        intro K hK
        rintro v ⟨y0, y1, y2, rfl, k0, k1, k2⟩
        go_simp
        refine hK.out _ ?_
        clear hK K
        apply Lp.any rfl
        · intro w hw
          go_simp
          exact Lp.ret (rscale_sm k0.sm k1.sm k2.sm _)
        intro K hK
        rintro v ⟨z0, z1, z2, rfl, m0, m1, m2⟩
        go_simp
        refine hK.out _ ?_
        clear hK K
        apply Lp.any rfl
        · intro w hw
          go_simp
          exact Lp.ret (ris_true (h0.sm.trans m0.sm.symm) (h1.sm.trans m1.sm.symm) (h2.sm.trans m2.sm.symm) _)
        intro K hK
        rintro v rfl
        go_simp
        refine hK.out _ ?_
        clear hK K
        iterate 3 (
          apply Lp.one ?_ rfl
          · intro w hw
            obtain ⟨kk0, kk1, kk2⟩ := HF.out _ hw
            go_simp
            exact rfl
          intro K hK
          go_simp
          refine hK.out _ ?_
          clear hK K)
        apply Lp.any rfl
        · intro w hw
          go_simp
          exact Lp.ret (half_any _ _ _ _ _ _ _)
        intro K hK
        rintro v ⟨hf, rfl, hhf⟩
        go_simp
        refine hK.out _ ?_
        clear hK K
        iterate 2 (
          apply Lp.one ?_ rfl
          · intro w hw
            obtain ⟨kk0, kk1, kk2⟩ := HF.out _ hw
            go_simp
            exact rfl
          intro K hK
          go_simp
          refine hK.out _ ?_
          clear hK K)
        apply Lp.any rfl
        · intro w hw
          go_simp
          exact Lp.add (by first | exact Eqv.sm (by assumption) | exact Sm.refl _) (by first | exact Eqv.sm (by assumption) | exact Sm.refl _)
        intro K hK
        rintro v ⟨rq0, rfl, hq0⟩
        go_simp
        refine hK.out _ ?_
        clear hK K
        apply Lp.any rfl
        · intro w hw
          go_simp
          exact Lp.ret (rsame_true (hhf.sm.trans ((Sm.of_eq HS.out).trans hq0.sm.symm)) _)
        intro K hK
        rintro v rfl
        go_simp
        refine hK.out _ ?_
        clear hK K
        iterate 3 (
          apply Lp.one ?_ rfl
          · intro w hw
            obtain ⟨kk0, kk1, kk2⟩ := HF.out _ hw
            go_simp
            exact rfl
          intro K hK
          go_simp
          refine hK.out _ ?_
          clear hK K)
        apply Lp.any rfl
        · intro w hw
          go_simp
          exact Lp.ret (HLo.out _)
        intro K hK
        rintro v rfl
        go_simp
        refine hK.out _ ?_
        clear hK K
        iterate 4 (
          apply Lp.one ?_ rfl
          · intro w hw
            obtain ⟨kk0, kk1, kk2⟩ := HF.out _ hw
            go_simp
            exact rfl
          intro K hK
          go_simp
          refine hK.out _ ?_
          clear hK K)
        rotate_left
        exact []
        intro v6 hm
        clear kA kB kD
        replace BA := BA.keep hm
        replace BB := BB.keep hm
        replace BD := BD.keep hm
        replace HB := HB.call hm
        clear hm
        have kA := BA.cell
        have kB := BB.cell
        have kD := BD.cell
        go_wp2_with fail
        go_ret
        exact ⟨_, rfl, rfl, HB⟩

end Go.Proofs.Ytgimkcbegalepaa
