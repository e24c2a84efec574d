/- Package box: ends, and the function that it makes. -/
import Derived.Test.YtgimkcbegalepaaRows
import Derived.Test.YtgimkcbegalepaaFz
import Derived.Test.YtgimkcbegalepaaLq
import Derived.Test.YtgimkcbegalepaaBb
namespace Go.Proofs.Ytgimkcbegalepaa
open Go.RowKit Fl

set_option maxRecDepth 100000 in
set_option maxHeartbeats 1000000 in
theorem ends_any (o d : Nat) (w : World) : Calls Try.prog 37 #[.float .f64 o, .float .f64 d] w fun e w' => ∃ i, Eqv i (fdiv one d) ∧ e = .returned (.func (.func 46) #[] #[.pointer (some ⟨w.heap.size, 0, none⟩), .pointer (some ⟨w.heap.size + 1, 0, none⟩)]) ∧
    Below w.heap.size w w' ∧ Lp.Bk w' w.heap.size #[.float .f64 o] 22 ∧ Lp.Bk w' (w.heap.size + 1) #[.float .f64 i] 22 := by
  go_enter Try.func37, Try.ntmps37
  go_wp2_with fail
  refine upon_div (Sm.refl _) (Sm.refl _) ?_
  intro i n hi
  go_wp2_with fail
  go_ret
  refine ⟨i, hi, rfl, ?_, ?_, ?_⟩
  · exact Below.alloc (below_dr (Below.alloc (Below.refl _ _) (Nat.le_refl _) _) _) (by simp) _
  · exact Lp.Bk.alo (Lp.Bk.dr (Lp.Bk.al _ _ _) n) _
  · exact Lp.Bk.al1 w _ _ _

/-- The nearer end's product, the farther one's. -/
def nearE (o i lo hi : Nat) : Nat := if ford i 0 == some .lt then fmul (fsub hi o) i else fmul (fsub lo o) i
def farE (o i lo hi : Nat) : Nat := if ford i 0 == some .lt then fmul (fsub lo o) i else fmul (fsub hi o) i
theorem thrF_eq (o d lo hi n f : Nat) : thrF o d lo hi n f = (highF n (nearE o (fdiv one d) lo hi), lowF f (farE o (fdiv one d) lo hi)) := by
  unfold thrF nearE farE
  dsimp only
  split <;> rfl

def isPair (x y : Nat) (v : Value) : Prop := ∃ r s, v = .tuple #[.float .f64 r, .float .f64 s] ∧ Eqv r x ∧ Eqv s y

set_option maxRecDepth 100000 in
set_option maxHeartbeats 1000000 in
theorem ends1_any (o i I lo hi bo bi : Nat) (hi0 : Sm i I) (w : World) (BO : Lp.Bk w bo #[.float .f64 o] 22) (BI : Lp.Bk w bi #[.float .f64 i] 22) :
    Ret Try.prog 46 #[.float .f64 lo, .float .f64 hi, .pointer (some ⟨bo, 0, none⟩), .pointer (some ⟨bi, 0, none⟩)] w (isPair (nearE o I lo hi) (farE o I lo hi)) := by
  unfold Ret
  have hs : (ford i 0 == some .lt) = (ford I 0 == some .lt) := by rw [ford_congr hi0 (Sm.refl 0)]
  have hp : (FloatKind.f64.format.order i 0 == some .lt) = (ford i 0 == some .lt) := rfl
  rw [hs] at hp
  unfold nearE farE
  generalize (ford I 0 == some .lt) = p at hp ⊢
  clear hs
  have HB : Cl w w := Below.refl _ _
  cases p <;>
  · go_enter Try.func46, Try.ntmps46
    go_wp2_with fail
    apply Lp.wp_region_loose _ _ 12 (by kernel_rfl) (by kernel_rfl) (by kernel_rfl) (Below.refl _ _)
    apply Lp.facts
    · intro w1 hw
      exact And.intro (BO.cl hw).cell ((BI.cl hw).cell)
    intro HF
    iterate 2 (
      apply Lp.one ?_ rfl
      · intro w hw
        obtain ⟨k0, k1⟩ := HF.out _ hw
        go_simp
        exact rfl
      intro K hK
      go_simp
      refine hK.out _ ?_
      clear hK K)
    apply Lp.any rfl
    · intro w hw
      go_simp
      exact Lp.sub (by first | exact Eqv.sm (by assumption) | exact Sm.refl _) (by first | exact Eqv.sm (by assumption) | exact Sm.refl _)
    intro K hK
    rintro v ⟨rq0, rfl, hq0⟩
    go_simp
    refine hK.out _ ?_
    clear hK K
    iterate 1 (
      apply Lp.one ?_ rfl
      · intro w hw
        obtain ⟨k0, k1⟩ := HF.out _ hw
        go_simp
        exact rfl
      intro K hK
      go_simp
      refine hK.out _ ?_
      clear hK K)
    apply Lp.any rfl
    · intro w hw
      go_simp
      exact Lp.mul (by first | exact Eqv.sm (by assumption) | exact Sm.refl _) hi0
    intro K hK
    rintro v ⟨rq1, rfl, hq1⟩
    go_simp
    refine hK.out _ ?_
    clear hK K
    iterate 2 (
      apply Lp.one ?_ rfl
      · intro w hw
        obtain ⟨k0, k1⟩ := HF.out _ hw
        go_simp
        exact rfl
      intro K hK
      go_simp
      refine hK.out _ ?_
      clear hK K)
    apply Lp.any rfl
    · intro w hw
      go_simp
      exact Lp.sub (by first | exact Eqv.sm (by assumption) | exact Sm.refl _) (by first | exact Eqv.sm (by assumption) | exact Sm.refl _)
    intro K hK
    rintro v ⟨rq2, rfl, hq2⟩
    go_simp
    refine hK.out _ ?_
    clear hK K
    iterate 1 (
      apply Lp.one ?_ rfl
      · intro w hw
        obtain ⟨k0, k1⟩ := HF.out _ hw
        go_simp
        exact rfl
      intro K hK
      go_simp
      refine hK.out _ ?_
      clear hK K)
    apply Lp.any rfl
    · intro w hw
      go_simp
      exact Lp.mul (by first | exact Eqv.sm (by assumption) | exact Sm.refl _) hi0
    intro K hK
    rintro v ⟨rq3, rfl, hq3⟩
    go_simp
    refine hK.out _ ?_
    clear hK K
    iterate 2 (
      apply Lp.one ?_ rfl
      · intro w hw
        obtain ⟨k0, k1⟩ := HF.out _ hw
        go_simp
        exact rfl
      intro K hK
      go_simp
      refine hK.out _ ?_
      clear hK K)
    rotate_left
    exact []
    intro v1 hm
    replace BO := BO.keep hm
    replace BI := BI.keep hm
    replace HB := HB.call hm
    clear hm
    have kO := BO.cell
    have kI := BI.cell
    go_wp2_with fail
    go_ret2
    exact ⟨_, rfl, ⟨_, _, rfl, by assumption, by assumption⟩, HB⟩

end Go.Proofs.Ytgimkcbegalepaa
