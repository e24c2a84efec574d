/- The reference's Is; package box: open, Mid, Half. -/
import Derived.Deep.LoopGhost
import Derived.Test.YtgimkcbegalepaaRows
import Derived.Test.YtgimkcbegalepaaLr
import Derived.Test.YtgimkcbegalepaaBc
import Derived.Test.YtgimkcbegalepaaBd
import Derived.Test.YtgimkcbegalepaaVr
import Derived.Test.YtgimkcbegalepaaVi
import Derived.Test.YtgimkcbegalepaaVb
import Derived.Test.YtgimkcbegalepaaVv
namespace Go.Proofs.Ytgimkcbegalepaa
open Go.RowKit Fl

set_option maxRecDepth 100000 in
set_option maxHeartbeats 1000000 in
theorem is4_true {a0 a1 a2 a3 a4 a5 b0 b1 b2 b3 b4 b5 : Nat} (h0 : Sm a0 b0) (h1 : Sm a1 b1) (h2 : Sm a2 b2) (h3 : Sm a3 b3) (h4 : Sm a4 b4) (h5 : Sm a5 b5) (w : World) : Ret Try.prog 8 #[.agg #[.float .f64 a0, .float .f64 a1, .float .f64 a2, .float .f64 a3, .float .f64 a4, .float .f64 a5], .agg #[.float .f64 b0, .float .f64 b1, .float .f64 b2, .float .f64 b3, .float .f64 b4, .float .f64 b5]] w (fun v => v = .bool true) := by
  unfold Ret
  go_enter Try.func8, Try.ntmps8
  go_wp2_with fail
  refine Lp.settleC (fun w' => Lp.Bk w' (w.heap.size) #[.float .f64 a0, .float .f64 a1, .float .f64 a2, .float .f64 a3, .float .f64 a4, .float .f64 a5] 26 ∧ Lp.Bk w' (w.heap.size + 1) #[.float .f64 b0, .float .f64 b1, .float .f64 b2, .float .f64 b3, .float .f64 b4, .float .f64 b5] 26 ∧ Cl w w') ⟨((Lp.Bk.al _ _ _).alo _), (Lp.Bk.al1 _ _ _ _), ((Below.refl _ _).alloc (by simp <;> omega) _).alloc (by simp <;> omega) _⟩ ?_
  rintro v1 ⟨BA, BB, HB⟩
  have kA := BA.cell
  have kB := BB.cell
  refine Calls.mono (ris_true h0 h1 h2 _) ?_
  rintro e v2 ⟨v, rfl, rfl, hm⟩
  clear kA kB
  replace BA := BA.keep hm
  replace BB := BB.keep hm
  replace HB := HB.call hm
  clear hm
  have kA := BA.cell
  have kB := BB.cell
  go_wp2_with fail
  refine Calls.mono (ris_true h3 h4 h5 _) ?_
  rintro e v3 ⟨v, rfl, rfl, hm⟩
  clear kA kB
  replace BA := BA.keep hm
  replace BB := BB.keep hm
  replace HB := HB.call hm
  clear hm
  have kA := BA.cell
  have kB := BB.cell
  go_wp2_with fail
  go_ret
  exact ⟨_, rfl, rfl, HB⟩

set_option maxRecDepth 100000 in
set_option maxHeartbeats 1000000 in
theorem open_any (a0 a1 a2 a3 a4 a5 : Nat) (w : World) : Ret Try.prog 39 #[.agg #[.float .f64 a0, .float .f64 a1, .float .f64 a2, .float .f64 a3, .float .f64 a4, .float .f64 a5]] w (fun v => v = .agg #[.float .f64 (knownF a0 ninf), .float .f64 (knownF a1 ninf), .float .f64 (knownF a2 ninf), .float .f64 (knownF a3 pinf), .float .f64 (knownF a4 pinf), .float .f64 (knownF a5 pinf)]) := by
  unfold Ret
  go_enter Try.func39, Try.ntmps39
  go_wp2_with fail
  refine Lp.settleC (fun w' => Lp.Bk w' (w.heap.size) #[.float .f64 a0, .float .f64 a1, .float .f64 a2, .float .f64 a3, .float .f64 a4, .float .f64 a5] 26 ∧ Lp.Bk w' (w.heap.size + 1) #[.float .f64 0, .float .f64 0, .float .f64 0, .float .f64 0, .float .f64 0, .float .f64 0] 26 ∧ Cl w w') ⟨((Lp.Bk.al _ _ _).alo _), (Lp.Bk.al1 _ _ _ _), ((Below.refl _ _).alloc (by simp <;> omega) _).alloc (by simp <;> omega) _⟩ ?_
  rintro v1 ⟨BA, BR, HB⟩
  have kA := BA.cell
  have kR := BR.cell
  refine Calls.mono (empty_any _) ?_
  rintro e v2 ⟨v, rfl, rfl, hm⟩
  clear kA kR
  replace BA := BA.keep hm
  replace BR := BR.keep hm
  replace HB := HB.call hm
  clear hm
  have kA := BA.cell
  have kR := BR.cell
  go_wp2_with fail
  refine Lp.settle (fun w' => Lp.Bk w' (w.heap.size) #[.float .f64 a0, .float .f64 a1, .float .f64 a2, .float .f64 a3, .float .f64 a4, .float .f64 a5] 26 ∧ Lp.Bk w' (w.heap.size + 1) #[.float .f64 0, .float .f64 0, .float .f64 0, .float .f64 0, .float .f64 0, .float .f64 0] 26 ∧ Lp.Bk w' (v2.heap.size) #[.float .f64 pinf, .float .f64 pinf, .float .f64 pinf, .float .f64 ninf, .float .f64 ninf, .float .f64 ninf] 26 ∧ Cl w w') ⟨BA.alo _, BR.alo _, Lp.Bk.al _ _ _, HB.alloc _⟩ ?_
  clear kA kR
  rintro v3 ⟨BA, BR, BN, HB⟩
  have kA := BA.cell
  have kR := BR.cell
  have kN := BN.cell
  have zR := BR.frz
  apply Lp.wp_region_loose _ _ 11 (by kernel_rfl) (by kernel_rfl) (by kernel_rfl) (Below.refl _ _)
  apply Lp.facts
  · intro w1 hw
    exact And.intro (BA.cl hw).cell (And.intro (BR.cl hw).cell ((BN.cl hw).cell))
  intro HF
  iterate 4 (
    apply Lp.one ?_ rfl
    · intro w hw
      obtain ⟨k0, k1, k2⟩ := HF.out _ hw
      go_simp
      exact rfl
    intro K hK
    go_simp
    refine hK.out _ ?_
    clear hK K)
  apply Lp.any rfl
  · intro w hw
    go_simp
    exact Lp.ret (pairs_known _ _ _ _ _ _ _)
  intro K hK
  rintro v rfl
  go_simp
  refine hK.out _ ?_
  clear hK K
  iterate 4 (
    apply Lp.one ?_ rfl
    · intro w hw
      obtain ⟨k0, k1, k2⟩ := HF.out _ hw
      go_simp
      exact rfl
    intro K hK
    go_simp
    refine hK.out _ ?_
    clear hK K)
  apply Lp.any rfl
  · intro w hw
    go_simp
    exact Lp.ret (pairs_known _ _ _ _ _ _ _)
  intro K hK
  rintro v rfl
  go_simp
  refine hK.out _ ?_
  clear hK K
  iterate 1 (
    apply Lp.one ?_ rfl
    · intro w hw
      obtain ⟨k0, k1, k2⟩ := HF.out _ hw
      go_simp
      exact rfl
    intro K hK
    go_simp
    refine hK.out _ ?_
    clear hK K)
  rotate_left
  exact []
  intro v4 hm
  clear kA kR kN zR
  replace BA := BA.keep hm
  replace BR := BR.keep hm
  replace BN := BN.keep hm
  replace HB := HB.call hm
  clear hm
  have kA := BA.cell
  have kR := BR.cell
  have kN := BN.cell
  have zR := BR.frz
  go_wp2_with fail
  refine bodyPost_ret (v := .agg #[.float .f64 (knownF a0 ninf), .float .f64 (knownF a1 ninf), .float .f64 (knownF a2 ninf), .float .f64 (knownF a3 pinf), .float .f64 (knownF a4 pinf), .float .f64 (knownF a5 pinf)]) (by simp [results, go_sem, kR]) rfl ⟨_, rfl, rfl, ?_⟩
  repeat (refine Below.setCell ?_ (by dsimp only; omega) _)
  exact HB

def half : Nat := 4602678819172646912

set_option maxRecDepth 100000 in
set_option maxHeartbeats 1000000 in
theorem mid_any (a0 a1 a2 a3 a4 a5 : Nat) (w : World) : Ret Try.prog 24 #[.agg #[.float .f64 a0, .float .f64 a1, .float .f64 a2, .float .f64 a3, .float .f64 a4, .float .f64 a5]] w (isV (fmul (fadd a0 a3) half) (fmul (fadd a1 a4) half) (fmul (fadd a2 a5) half)) := by
  unfold Ret
  go_enter Try.func24, Try.ntmps24
  go_wp2_with fail
  refine Lp.settleC (fun w' => Lp.Bk w' (w.heap.size) #[.float .f64 a0, .float .f64 a1, .float .f64 a2, .float .f64 a3, .float .f64 a4, .float .f64 a5] 26 ∧ Lp.Bk w' (w.heap.size + 1) #[.float .f64 0, .float .f64 0, .float .f64 0] 24 ∧ Cl w w') ⟨((Lp.Bk.al _ _ _).alo _), (Lp.Bk.al1 _ _ _ _), ((Below.refl _ _).alloc (by simp <;> omega) _).alloc (by simp <;> omega) _⟩ ?_
  rintro v1 ⟨BA, BR, HB⟩
  have kA := BA.cell
  have kR := BR.cell
  refine Calls.mono (add_any _ _ _ _ _ _ _) ?_
  rintro e v2 ⟨v, rfl, ⟨x, y, z, rfl, hx, hy, hz⟩, hm⟩
  clear kA kR
  replace BA := BA.keep hm
  replace BR := BR.keep hm
  replace HB := HB.call hm
  clear hm
  have kA := BA.cell
  have kR := BR.cell
  go_wp2_with fail
  refine Calls.mono (scale_any _ _ _ _ _) ?_
  rintro e v3 ⟨v, rfl, ⟨p, q, r, rfl, hp, hq, hr⟩, hm⟩
  clear kA kR
  replace BA := BA.keep hm
  replace BR := BR.keep hm
  replace HB := HB.call hm
  clear hm
  have kA := BA.cell
  have kR := BR.cell
  have zR := BR.frz
  go_wp2_with fail
  refine bodyPost_ret (v := .agg #[.float .f64 p, .float .f64 q, .float .f64 r]) (by simp [results, go_sem, kR]) rfl ⟨_, rfl, ⟨p, q, r, rfl, hp.to (Sm.of_eq (fmul_congr hx.sm (Sm.refl _))), hq.to (Sm.of_eq (fmul_congr hy.sm (Sm.refl _))), hr.to (Sm.of_eq (fmul_congr hz.sm (Sm.refl _)))⟩, ?_⟩
  repeat (refine Below.setCell ?_ (by dsimp only; omega) _)
  exact HB

def halfF (x y z : Nat) : Nat := fadd (fadd (fmul x y) (fmul y z)) (fmul z x)

set_option maxRecDepth 100000 in
set_option maxHeartbeats 1000000 in
theorem half_any (a0 a1 a2 a3 a4 a5 : Nat) (w : World) : Ret Try.prog 27 #[.agg #[.float .f64 a0, .float .f64 a1, .float .f64 a2, .float .f64 a3, .float .f64 a4, .float .f64 a5]] w (isF (halfF (fsub a3 a0) (fsub a4 a1) (fsub a5 a2))) := by
  unfold Ret
  go_enter Try.func27, Try.ntmps27
  go_wp2_with fail
  refine Lp.settleC (fun w' => Lp.Bk w' (w.heap.size) #[.float .f64 a0, .float .f64 a1, .float .f64 a2, .float .f64 a3, .float .f64 a4, .float .f64 a5] 26 ∧ Cl w w') ⟨(Lp.Bk.al _ _ _), (Below.refl _ _).alloc (by simp <;> omega) _⟩ ?_
  rintro v1 ⟨BA, HB⟩
  have kA := BA.cell
  refine Calls.mono (sub_any _ _ _ _ _ _ _) ?_
  rintro e v2 ⟨v, rfl, ⟨x, y, z, rfl, hx, hy, hz⟩, hm⟩
  clear kA
  replace BA := BA.keep hm
  replace HB := HB.call hm
  clear hm
  have kA := BA.cell
  go_wp2_with fail
  refine Lp.settleC (fun w' => Lp.Bk w' (v2.heap.size) #[.float .f64 x, .float .f64 y, .float .f64 z] 24 ∧ Cl w w') ⟨Lp.Bk.al _ _ _, HB.alloc _⟩ ?_
  clear kA BA
  rintro v3 ⟨BN, HB⟩
  have kN := BN.cell
  refine Calls.mono (dot_any _ _ _ _ _ _ _) ?_
  rintro e v4 ⟨v, rfl, ⟨r, rfl, hr⟩, hm⟩
  clear kN
  replace BN := BN.keep hm
  replace HB := HB.call hm
  clear hm
  have kN := BN.cell
  go_wp2_with fail
  go_ret
  refine ⟨_, rfl, ⟨r, rfl, hr.to (Sm.of_eq ?_)⟩, HB⟩
  unfold halfF dotF
  rw [fmul_congr hx.sm hy.sm, fmul_congr hy.sm hz.sm, fmul_congr hz.sm hx.sm]

end Go.Proofs.Ytgimkcbegalepaa
