/- Package box: Longest. -/
import Derived.Deep.LoopGhost
import Derived.Test.YtgimkcbegalepaaRows
import Derived.Test.YtgimkcbegalepaaBm
import Derived.Test.YtgimkcbegalepaaBn
namespace Go.Proofs.Ytgimkcbegalepaa
open Go.RowKit Fl

/-- The longest axis of the first k. -/
def bestF (x y z : Nat) : Nat → Nat
  | 0 => 0
  | k + 1 => if gtB (partF x y z k) (partF x y z (bestF x y z k)) then k else bestF x y z k
theorem part_congr {x y z x' y' z' : Nat} (hx : Sm x x') (hy : Sm y y') (hz : Sm z z') (i : Int) : Sm (partF x y z i) (partF x' y' z' i) := by
  unfold partF
  split
  · exact hx
  · split
    · exact hy
    · exact hz
theorem best_congr {x y z x' y' z' : Nat} (hx : Sm x x') (hy : Sm y y') (hz : Sm z z') : ∀ k, bestF x y z k = bestF x' y' z' k
  | 0 => rfl
  | k + 1 => by
    show (if gtB (partF x y z k) (partF x y z (bestF x y z k)) then k else bestF x y z k) = (if gtB (partF x' y' z' k) (partF x' y' z' (bestF x' y' z' k)) then k else bestF x' y' z' k)
    rw [best_congr hx hy hz k]
    unfold gtB
    rw [ford_congr (part_congr hx hy hz _) (part_congr hx hy hz _)]
theorem best_le (x y z : Nat) : ∀ k, bestF x y z k ≤ k
  | 0 => Nat.le_refl 0
  | k + 1 => by
    show (if gtB (partF x y z k) (partF x y z (bestF x y z k)) then k else bestF x y z k) ≤ k + 1
    have := best_le x y z k
    split <;> omega

set_option maxRecDepth 100000 in
set_option maxHeartbeats 1000000 in
theorem longest_any (a0 a1 a2 a3 a4 a5 : Nat) (w : World) : Ret Try.prog 28 #[.agg #[.float .f64 a0, .float .f64 a1, .float .f64 a2, .float .f64 a3, .float .f64 a4, .float .f64 a5]] w (fun v => v = .int .i64 (bestF (fsub a3 a0) (fsub a4 a1) (fsub a5 a2) 3 : Nat)) := by
  unfold Ret
  go_enter Try.func28, Try.ntmps28
  go_wp2_with fail
  refine Lp.settleC (fun w' => Lp.Bk w' (w.heap.size) #[.float .f64 a0, .float .f64 a1, .float .f64 a2, .float .f64 a3, .float .f64 a4, .float .f64 a5] 26 ∧ Cl w w') ⟨(Lp.Bk.al _ _ _), (Below.refl _ _).alloc (by simp <;> omega) _⟩ ?_
  rintro v1 ⟨BA, HB⟩
  have kA := BA.cell
  refine Calls.mono (sub_any _ _ _ _ _ _ _) ?_
  rintro e v2 ⟨v, rfl, ⟨x, y, z, rfl, hx, hy, hz⟩, hm⟩
  clear kA
  replace BA := BA.keep hm
  replace HB := HB.call hm
  clear hm
  have kA := BA.cell
  go_wp2_with fail
  refine Lp.settle (fun w' => Lp.Bk w' (v2.heap.size) #[.float .f64 x, .float .f64 y, .float .f64 z] 24 ∧ Cl w w') ⟨Lp.Bk.al _ _ _, HB.alloc _⟩ ?_
  clear kA BA
  rintro v3 ⟨BN, HB⟩
  have kN := BN.cell
  have HX : Aside _ := And.intro hx (And.intro hy hz)
  clear hx hy hz
  clear kN
  go_loopg [4, 11] 3 (fun k b i wr => ∃ j : Nat, k + j = 3 ∧ i = .int .i64 (j : Int) ∧ b = .int .i64 (bestF x y z j : Nat) ∧ Lp.Bk wr (v2.heap.size) #[.float .f64 x, .float .f64 y, .float .f64 z] 24 ∧ Cl w wr)
  case atStart => exact ⟨0, rfl, rfl, rfl, BN, HB⟩
  case round =>
    clear BN HB
    obtain ⟨j, hk, rfl, rfl, BN, HB⟩ := hrel
    have HS : Aside _ := hk
    clear hk
    by_cases hj : j < 3
    · have hd : ((j : Int) < 3) = True := eq_true (by omega)
      go_wp2_with fail
      apply Lp.wp_region_loose _ _ 7 (by kernel_rfl) (by kernel_rfl) (by kernel_rfl) (Below.refl _ _)
      apply Lp.facts
      · intro w1 hw
        exact (BN.cl hw).cell
      intro HF
      iterate 2 (
        apply Lp.one ?_ rfl
        · intro w hw
          have k0 := HF.out _ hw
          go_simp
          exact rfl
        intro K hK
        go_simp
        refine hK.out _ ?_
        clear hK K)
      apply Lp.any rfl
      · intro w hw
        go_simp
        exact Lp.ret (vpart_any _ _ _ _ _)
      intro K hK
      rintro v rfl
      go_simp
      refine hK.out _ ?_
      clear hK K
      iterate 2 (
        apply Lp.one ?_ rfl
        · intro w hw
          have k0 := HF.out _ hw
          go_simp
          exact rfl
        intro K hK
        go_simp
        refine hK.out _ ?_
        clear hK K)
      apply Lp.any rfl
      · intro w hw
        go_simp
        exact Lp.ret (vpart_any _ _ _ _ _)
      intro K hK
      rintro v rfl
      go_simp
      refine hK.out _ ?_
      clear hK K
      iterate 1 (
        apply Lp.one ?_ rfl
        · intro w hw
          have k0 := HF.out _ hw
          go_simp
          exact rfl
        intro K hK
        go_simp
        refine hK.out _ ?_
        clear hK K)
      rotate_left
      exact []
      intro v4 hm
      replace BN := BN.keep hm
      replace HB := HB.call hm
      clear hm
      have kN := BN.cell
      go_wp2_with fail
      · go_roundg (gk - 1)
        case measure => have := HS.out; omega
        case rel => exact ⟨j + 1, by have := HS.out; omega, by go_num, by show _ = Value.int .i64 ((if gtB (partF x y z j) (partF x y z (bestF x y z j)) then j else bestF x y z j : Nat) : Int); rw [show gtB (partF x y z j) (partF x y z (bestF x y z j)) = true by assumption]; rfl, BN, HB⟩
      · go_roundg (gk - 1)
        case measure => have := HS.out; omega
        case rel => exact ⟨j + 1, by have := HS.out; omega, by go_num, by show _ = Value.int .i64 ((if gtB (partF x y z j) (partF x y z (bestF x y z j)) then j else bestF x y z j : Nat) : Int); rw [show gtB (partF x y z j) (partF x y z (bestF x y z j)) = false by assumption]; rfl, BN, HB⟩
    · have hj3 : j = 3 := by have := HS.out; omega
      subst hj3
      have hd : (((3 : Nat) : Int) < 3) = False := eq_false (by omega)
      go_wp2_with fail
      go_ret
      exact ⟨_, rfl, congrArg (fun n : Nat => Value.int .i64 (n : Int)) (best_congr HX.out.1.sm HX.out.2.1.sm HX.out.2.2.sm 3), HB⟩

end Go.Proofs.Ytgimkcbegalepaa
