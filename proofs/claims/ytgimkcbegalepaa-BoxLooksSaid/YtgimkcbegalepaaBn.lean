/- Package box: Has. -/
import Derived.Deep.LoopGhost
import Derived.Test.YtgimkcbegalepaaRows
import Derived.Test.YtgimkcbegalepaaBm
import Derived.Test.YtgimkcbegalepaaBe
namespace Go.Proofs.Ytgimkcbegalepaa
open Go.RowKit Fl

/-- Equal numbers. -/
def eqB (x y : Nat) : Bool := ford x y == some .eq
theorem feq_eq (x y : Nat) : Op.floatEq .f64 x y = eqB x y := rfl
def hasF (a0 a1 a2 a3 a4 a5 b0 b1 b2 b3 b4 b5 : Nat) : Bool :=
  eqB (lowF (knownF a0 ninf) b0) (knownF a0 ninf) && eqB (lowF (knownF a1 ninf) b1) (knownF a1 ninf) && eqB (lowF (knownF a2 ninf) b2) (knownF a2 ninf) && eqB (highF (knownF a3 pinf) b3) (knownF a3 pinf) && eqB (highF (knownF a4 pinf) b4) (knownF a4 pinf) && eqB (highF (knownF a5 pinf) b5) (knownF a5 pinf)

theorem ite_six (a b c d e f : Bool) (w : World) : (if a = false then Result.ok (Next.value (.bool false)) w else if b = false then .ok (.value (.bool false)) w else if c = false then .ok (.value (.bool false)) w else if d = false then .ok (.value (.bool false)) w else if e = false then .ok (.value (.bool false)) w else if f = false then .ok (.value (.bool false)) w else .ok (.value (.bool true)) w) = .ok (.value (.bool (a && b && c && d && e && f))) w := by
  cases a <;> cases b <;> cases c <;> cases d <;> cases e <;> cases f <;> rfl

def ltB (x y : Nat) : Bool := ford x y == some .lt
def gtB (x y : Nat) : Bool := ford x y == some .gt
theorem isN_pinf : isN pinf = false := by decide +kernel
theorem isN_ninf : isN ninf = false := by decide +kernel
theorem read_pinf : F64.read pinf = .infinity false := by decide +kernel
theorem read_ninf : F64.read ninf = .infinity true := by decide +kernel
theorem lt_ninf (x : Nat) : ltB x ninf = false := by
  unfold ltB ford Ieee.Format.order
  rw [read_ninf]
  cases F64.read x with
  | nan s f => rfl
  | infinity s => cases s <;> rfl
  | number s m e => rfl
theorem gt_pinf (x : Nat) : gtB x pinf = false := by
  unfold gtB ford Ieee.Format.order
  rw [read_pinf]
  cases F64.read x with
  | nan s f => rfl
  | infinity s => cases s <;> rfl
  | number s m e => rfl
theorem low_keeps {a b : Nat} (ha : isN a = false) : eqB (lowF a b) a = !ltB b a := by
  unfold lowF eqB ltB
  cases h : ford b a == some .lt
  · rw [if_neg Bool.false_ne_true, ford_refl ha]; rfl
  · rw [if_pos rfl]
    have : ford b a = some .lt := by simpa using h
    rw [this]; rfl
theorem high_keeps {a b : Nat} (ha : isN a = false) : eqB (highF a b) a = !gtB b a := by
  unfold highF eqB gtB
  cases h : ford b a == some .gt
  · rw [if_neg Bool.false_ne_true, ford_refl ha]; rfl
  · rw [if_pos rfl]
    have : ford b a = some .gt := by simpa using h
    rw [this]; rfl
theorem low_known (a b : Nat) : eqB (lowF (knownF a ninf) b) (knownF a ninf) = !ltB b a := by
  unfold knownF
  cases h : isN a
  · exact low_keeps h
  · rw [if_pos rfl, low_keeps isN_ninf, lt_ninf]
    unfold ltB; rw [ord_nan_right h]; rfl
theorem high_known (a b : Nat) : eqB (highF (knownF a pinf) b) (knownF a pinf) = !gtB b a := by
  unfold knownF
  cases h : isN a
  · exact high_keeps h
  · rw [if_pos rfl, high_keeps isN_pinf, gt_pinf]
    unfold gtB; rw [ord_nan_right h]; rfl
theorem has_eq (a0 a1 a2 a3 a4 a5 b0 b1 b2 b3 b4 b5 : Nat) : hasF a0 a1 a2 a3 a4 a5 b0 b1 b2 b3 b4 b5 = !(ltB b0 a0 || ltB b1 a1 || ltB b2 a2 || gtB b3 a3 || gtB b4 a4 || gtB b5 a5) := by
  unfold hasF
  rw [low_known, low_known, low_known, high_known, high_known, high_known]
  simp only [Bool.not_or]

set_option maxRecDepth 100000 in
set_option maxHeartbeats 1000000 in
theorem has_any (a0 a1 a2 a3 a4 a5 b0 b1 b2 b3 b4 b5 : Nat) (w : World) : Ret Try.prog 20 #[.agg #[.float .f64 a0, .float .f64 a1, .float .f64 a2, .float .f64 a3, .float .f64 a4, .float .f64 a5], .agg #[.float .f64 b0, .float .f64 b1, .float .f64 b2, .float .f64 b3, .float .f64 b4, .float .f64 b5]] w (fun v => v = .bool (hasF a0 a1 a2 a3 a4 a5 b0 b1 b2 b3 b4 b5)) := by
  unfold Ret
  go_enter Try.func20, Try.ntmps20
  go_wp2_with fail
  refine Lp.settleC (fun w' => Lp.Bk w' (w.heap.size) #[.float .f64 a0, .float .f64 a1, .float .f64 a2, .float .f64 a3, .float .f64 a4, .float .f64 a5] 26 ∧ Lp.Bk w' (w.heap.size + 1) #[.float .f64 b0, .float .f64 b1, .float .f64 b2, .float .f64 b3, .float .f64 b4, .float .f64 b5] 26 ∧ Cl w w') ⟨((Lp.Bk.al _ _ _).alo _), (Lp.Bk.al1 _ _ _ _), ((Below.refl _ _).alloc (by simp <;> omega) _).alloc (by simp <;> omega) _⟩ ?_
  rintro v1 ⟨BA, BB, HB⟩
  have kA := BA.cell
  have kB := BB.cell
  refine Calls.mono (open_any _ _ _ _ _ _ _) ?_
  rintro e v2 ⟨v, rfl, rfl, hm⟩
  clear kA kB
  replace BA := BA.keep hm
  replace BB := BB.keep hm
  replace HB := HB.call hm
  clear hm
  have kA := BA.cell
  have kB := BB.cell
  have zA := BA.frz
  go_wp2_with fail
  refine Lp.settle (fun w' => Lp.Bk w' (w.heap.size) #[.float .f64 (knownF a0 ninf), .float .f64 (knownF a1 ninf), .float .f64 (knownF a2 ninf), .float .f64 (knownF a3 pinf), .float .f64 (knownF a4 pinf), .float .f64 (knownF a5 pinf)] 26 ∧ Lp.Bk w' (w.heap.size + 1) #[.float .f64 b0, .float .f64 b1, .float .f64 b2, .float .f64 b3, .float .f64 b4, .float .f64 b5] 26 ∧ Cl w w') ⟨BA.set6, (by (repeat (refine Lp.Bk.seto ?_ (by dsimp only; omega) _)); exact BB), (by (repeat (refine Below.setCell ?_ (by dsimp only; omega) _)); exact HB)⟩ ?_
  clear kA kB zA
  rintro v3 ⟨BA, BB, HB⟩
  have kA := BA.cell
  have kB := BB.cell
  apply Lp.wp_region_loose _ _ 6 (by kernel_rfl) (by kernel_rfl) (by kernel_rfl) (Below.refl _ _)
  apply Lp.facts
  · intro w1 hw
    exact And.intro (BA.cl hw).cell ((BB.cl hw).cell)
  intro HF
  iterate 2 (
    apply Lp.one ?_ rfl
    · intro w hw
      obtain ⟨k0, k1⟩ := HF.out _ hw
      go_simp
      exact rfl
    intro K hK
    go_simp
    refine hK.out _ ?_
    clear hK K)
  apply Lp.any rfl
  · intro w hw
    go_simp
    exact Lp.ret (join_any _ _ _ _ _ _ _ _ _ _ _ _ _)
  intro K hK
  rintro v rfl
  go_simp
  refine hK.out _ ?_
  clear hK K
  iterate 1 (
    apply Lp.one ?_ rfl
    · intro w hw
      obtain ⟨k0, k1⟩ := HF.out _ hw
      go_simp
      exact rfl
    intro K hK
    go_simp
    refine hK.out _ ?_
    clear hK K)
  apply Lp.one (.bool (hasF a0 a1 a2 a3 a4 a5 b0 b1 b2 b3 b4 b5)) rfl
  · intro w hw
    go_simp
    exact ite_six _ _ _ _ _ _ w
  intro K hK
  go_simp
  refine hK.out _ ?_
  clear hK K
  iterate 1 (
    apply Lp.one ?_ rfl
    · intro w hw
      obtain ⟨k0, k1⟩ := HF.out _ hw
      go_simp
      exact rfl
    intro K hK
    go_simp
    refine hK.out _ ?_
    clear hK K)
  rotate_left
  exact []
  intro v4 hm
  clear kA kB
  replace BA := BA.keep hm
  replace BB := BB.keep hm
  replace HB := HB.call hm
  clear hm
  have kA := BA.cell
  have kB := BB.cell
  go_wp2_with fail
  go_ret
  exact ⟨_, rfl, rfl, HB⟩

end Go.Proofs.Ytgimkcbegalepaa
