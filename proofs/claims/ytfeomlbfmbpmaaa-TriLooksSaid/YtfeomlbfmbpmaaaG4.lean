/- The parts of a vector that is a value. Package tri: Edges, upright, Normal, Flat, Area, At. Floats as rational numbers: what a written word stands for, and how far it is from what was written. How far a written word is from what was written. Sums, differences, products, quotients and order of floats, as rational numbers. Quotients and the order of floats, as rational numbers. -/
import Derived.Test.YtfeomlbfmbpmaaaRows
import Derived.Test.YtfeomlbfmbpmaaaG1
import Derived.Test.YtfeomlbfmbpmaaaG3
namespace Go.Proofs.Ytfeomlbfmbpmaaa
open Go.RowKit Fl

@[go_sem] theorem fld_0 (x y z : Nat) (w : World) : (Instr.field 24 (.agg #[.float .f64 x, .float .f64 y, .float .f64 z]) 0).run Try.prog w = .ok (.float .f64 x) w := by kernel_rfl

@[go_sem] theorem fld_1 (x y z : Nat) (w : World) : (Instr.field 24 (.agg #[.float .f64 x, .float .f64 y, .float .f64 z]) 1).run Try.prog w = .ok (.float .f64 y) w := by kernel_rfl

@[go_sem] theorem fld_2 (x y z : Nat) (w : World) : (Instr.field 24 (.agg #[.float .f64 x, .float .f64 y, .float .f64 z]) 2).run Try.prog w = .ok (.float .f64 z) w := by kernel_rfl

end Go.Proofs.Ytfeomlbfmbpmaaa

namespace Go.Proofs.Ytfeomlbfmbpmaaa
open Go.RowKit Fl

/-- Two vectors. -/
def isPP (P Q : V3) (v : Value) : Prop := ∃ x y z p q r, v = .tuple #[.agg #[.float .f64 x, .float .f64 y, .float .f64 z], .agg #[.float .f64 p, .float .f64 q, .float .f64 r]] ∧ (S3 x y z P ∧ W3 x y z) ∧ S3 p q r Q ∧ W3 p q r

set_option maxRecDepth 100000 in
set_option maxHeartbeats 1000000 in
theorem edges_any {t0 t1 t2 t3 t4 t5 t6 t7 t8 : Nat} {A B C : V3} (hA : S3 t0 t1 t2 A) (hB : S3 t3 t4 t5 B) (hC : S3 t6 t7 t8 C) (w : World) : Ret Try.prog 15 #[.agg #[.float .f64 t0, .float .f64 t1, .float .f64 t2, .float .f64 t3, .float .f64 t4, .float .f64 t5, .float .f64 t6, .float .f64 t7, .float .f64 t8]] w (isPP (B.sub A) (C.sub A)) := by
  unfold Ret
  go_enter Try.func15, Try.ntmps15
  go_wp2_with fail
  refine Lp.settle (fun w' => Lp.Bk w' (w.heap.size) #[.float .f64 t0, .float .f64 t1, .float .f64 t2, .float .f64 t3, .float .f64 t4, .float .f64 t5, .float .f64 t6, .float .f64 t7, .float .f64 t8] 26 ∧ Lp.Bk w' (w.heap.size + 1) #[.float .f64 0, .float .f64 0, .float .f64 0] 24 ∧ Lp.Bk w' (w.heap.size + 1 + 1) #[.float .f64 0, .float .f64 0, .float .f64 0] 24 ∧ Cl w w') ⟨(((Lp.Bk.al _ _ _).alo _).alo _), ((Lp.Bk.al1 _ _ _ _).alo _), (Lp.Bk.al2 _ _ _ _ _), (((Below.refl _ _).alloc (by simp <;> omega) _).alloc (by simp <;> omega) _).alloc (by simp <;> omega) _⟩ ?_
  rintro v1 ⟨BT, BE, BF, HB⟩
  have kT := BT.cell
  have kE := BE.cell
  have kF := BF.cell
  have zE := BE.frz
  have zF := BF.frz
  have nT0 : (w.heap.size = v1.heap.size) = False := eq_false (by have := BT.lt; omega)
  have nT1 : (w.heap.size = v1.heap.size + 1) = False := eq_false (by have := BT.lt; omega)
  have nE0 : (w.heap.size + 1 = v1.heap.size) = False := eq_false (by have := BE.lt; omega)
  have nE1 : (w.heap.size + 1 = v1.heap.size + 1) = False := eq_false (by have := BE.lt; omega)
  have nF0 : (w.heap.size + 1 + 1 = v1.heap.size) = False := eq_false (by have := BF.lt; omega)
  have nF1 : (w.heap.size + 1 + 1 = v1.heap.size + 1) = False := eq_false (by have := BF.lt; omega)
  apply Lp.wp_region_loose _ _ 10 (by kernel_rfl) (by kernel_rfl) (by kernel_rfl) (Below.refl _ _)
  apply Lp.facts
  · intro w1 hw
    exact And.intro (BT.cl hw).cell (And.intro (BE.cl hw).cell ((BF.cl hw).cell))
  intro HF
  iterate 4 (
    apply Lp.one ?_ rfl
    · intro w hw
      obtain ⟨k0, k1, k2⟩ := HF.out _ hw
      go_simp
      exact rfl
    intro K hK
    go_simp
    refine hK.out _ ?_
    clear hK K)
  apply Lp.any rfl
  · intro w hw
    go_simp
    exact Lp.ret (sub_c _ (by assumption) (by assumption))
  intro K hK
  rintro v ⟨x, y, z, rfl, hx, wx⟩
  go_simp
  refine hK.out _ ?_
  clear hK K
  iterate 4 (
    apply Lp.one ?_ rfl
    · intro w hw
      obtain ⟨k0, k1, k2⟩ := HF.out _ hw
      go_simp
      exact rfl
    intro K hK
    go_simp
    refine hK.out _ ?_
    clear hK K)
  apply Lp.any rfl
  · intro w hw
    go_simp
    exact Lp.ret (sub_c _ (by assumption) (by assumption))
  intro K hK
  rintro v ⟨p, q, r, rfl, hp, wp⟩
  go_simp
  refine hK.out _ ?_
  clear hK K
  rotate_left
  exact []
  intro v2 hm
  clear kT kE kF zE zF nT0 nT1 nE0 nE1 nF0 nF1
  replace BT := BT.keep hm
  replace BE := BE.keep hm
  replace BF := BF.keep hm
  replace HB := HB.call hm
  clear hm
  have kT := BT.cell
  have kE := BE.cell
  have kF := BF.cell
  have zE := BE.frz
  have zF := BF.frz
  have nT0 : (w.heap.size = v2.heap.size) = False := eq_false (by have := BT.lt; omega)
  have nT1 : (w.heap.size = v2.heap.size + 1) = False := eq_false (by have := BT.lt; omega)
  have nE0 : (w.heap.size + 1 = v2.heap.size) = False := eq_false (by have := BE.lt; omega)
  have nE1 : (w.heap.size + 1 = v2.heap.size + 1) = False := eq_false (by have := BE.lt; omega)
  have nF0 : (w.heap.size + 1 + 1 = v2.heap.size) = False := eq_false (by have := BF.lt; omega)
  have nF1 : (w.heap.size + 1 + 1 = v2.heap.size + 1) = False := eq_false (by have := BF.lt; omega)
  go_wp2_with fail
  refine bodyPost_ret (v := .tuple #[.agg #[.float .f64 x, .float .f64 y, .float .f64 z], .agg #[.float .f64 p, .float .f64 q, .float .f64 r]]) (by simp [results, go_sem, kE, kF]) rfl ⟨_, rfl, ⟨_, _, _, _, _, _, rfl, ⟨hx, wx⟩, hp, wp⟩, ?_⟩
  repeat (refine Below.setCell ?_ (by dsimp only; omega) _)
  exact HB

set_option maxRecDepth 100000 in
set_option maxHeartbeats 1000000 in
theorem upright_any {t0 t1 t2 t3 t4 t5 t6 t7 t8 : Nat} {A B C : V3} (hA : S3 t0 t1 t2 A) (hB : S3 t3 t4 t5 B) (hC : S3 t6 t7 t8 C) (w : World) : Ret Try.prog 35 #[.agg #[.float .f64 t0, .float .f64 t1, .float .f64 t2, .float .f64 t3, .float .f64 t4, .float .f64 t5, .float .f64 t6, .float .f64 t7, .float .f64 t8]] w (isP ((B.sub A).cross (C.sub A))) := by
  unfold Ret
  go_enter Try.func35, Try.ntmps35
  go_wp2_with fail
  refine Lp.settleC (fun w' => Lp.Bk w' (w.heap.size) #[.float .f64 t0, .float .f64 t1, .float .f64 t2, .float .f64 t3, .float .f64 t4, .float .f64 t5, .float .f64 t6, .float .f64 t7, .float .f64 t8] 26 ∧ Lp.Bk w' (w.heap.size + 1) #[.float .f64 0, .float .f64 0, .float .f64 0] 24 ∧ Cl w w') ⟨((Lp.Bk.al _ _ _).alo _), (Lp.Bk.al1 _ _ _ _), ((Below.refl _ _).alloc (by simp <;> omega) _).alloc (by simp <;> omega) _⟩ ?_
  rintro v1 ⟨BT, BR, HB⟩
  have kT := BT.cell
  have kR := BR.cell
  have zR := BR.frz
  have nT0 : (w.heap.size = v1.heap.size) = False := eq_false (by have := BT.lt; omega)
  have nT1 : (w.heap.size = v1.heap.size + 1) = False := eq_false (by have := BT.lt; omega)
  have nR0 : (w.heap.size + 1 = v1.heap.size) = False := eq_false (by have := BR.lt; omega)
  have nR1 : (w.heap.size + 1 = v1.heap.size + 1) = False := eq_false (by have := BR.lt; omega)
  refine Calls.mono (edges_any hA hB hC _) ?_
  rintro e v2 ⟨v, rfl, ⟨x, y, z, p, q, r, rfl, ⟨hx, wx⟩, hp, wp⟩, hm⟩
  clear kT kR zR nT0 nT1 nR0 nR1
  replace BT := BT.keep hm
  replace BR := BR.keep hm
  replace HB := HB.call hm
  clear hm
  have kT := BT.cell
  have kR := BR.cell
  have zR := BR.frz
  have nT0 : (w.heap.size = v2.heap.size) = False := eq_false (by have := BT.lt; omega)
  have nT1 : (w.heap.size = v2.heap.size + 1) = False := eq_false (by have := BT.lt; omega)
  have nR0 : (w.heap.size + 1 = v2.heap.size) = False := eq_false (by have := BR.lt; omega)
  have nR1 : (w.heap.size + 1 = v2.heap.size + 1) = False := eq_false (by have := BR.lt; omega)
  go_wp2_with fail
  refine Calls.mono (cross_c _ hx hp) ?_
  rintro e v3 ⟨v, rfl, ⟨x1, y1, z1, rfl, hu, wu⟩, hm⟩
  clear kT kR zR nT0 nT1 nR0 nR1
  replace BT := BT.keep hm
  replace BR := BR.keep hm
  replace HB := HB.call hm
  clear hm
  have kT := BT.cell
  have kR := BR.cell
  have zR := BR.frz
  have nT0 : (w.heap.size = v3.heap.size) = False := eq_false (by have := BT.lt; omega)
  have nT1 : (w.heap.size = v3.heap.size + 1) = False := eq_false (by have := BT.lt; omega)
  have nR0 : (w.heap.size + 1 = v3.heap.size) = False := eq_false (by have := BR.lt; omega)
  have nR1 : (w.heap.size + 1 = v3.heap.size + 1) = False := eq_false (by have := BR.lt; omega)
  go_wp2_with fail
  refine bodyPost_ret (v := .agg #[.float .f64 x1, .float .f64 y1, .float .f64 z1]) (by simp [results, go_sem, kR]) rfl ⟨_, rfl, ⟨x1, y1, z1, rfl, hu, wu⟩, ?_⟩
  repeat (refine Below.setCell ?_ (by dsimp only; omega) _)
  exact HB

set_option maxRecDepth 100000 in
set_option maxHeartbeats 1000000 in
theorem normal_any {t0 t1 t2 t3 t4 t5 t6 t7 t8 : Nat} {A B C : V3} (hA : S3 t0 t1 t2 A) (hB : S3 t3 t4 t5 B) (hC : S3 t6 t7 t8 C) (w : World) : Ret Try.prog 10 #[.agg #[.float .f64 t0, .float .f64 t1, .float .f64 t2, .float .f64 t3, .float .f64 t4, .float .f64 t5, .float .f64 t6, .float .f64 t7, .float .f64 t8]] w (isU ((B.sub A).cross (C.sub A))) := by
  unfold Ret
  go_enter Try.func10, Try.ntmps10
  go_wp2_with fail
  refine Lp.settleC (fun w' => Lp.Bk w' (w.heap.size) #[.float .f64 t0, .float .f64 t1, .float .f64 t2, .float .f64 t3, .float .f64 t4, .float .f64 t5, .float .f64 t6, .float .f64 t7, .float .f64 t8] 26 ∧ Lp.Bk w' (w.heap.size + 1) #[.float .f64 0, .float .f64 0, .float .f64 0] 24 ∧ Cl w w') ⟨((Lp.Bk.al _ _ _).alo _), (Lp.Bk.al1 _ _ _ _), ((Below.refl _ _).alloc (by simp <;> omega) _).alloc (by simp <;> omega) _⟩ ?_
  rintro v1 ⟨BT, BR, HB⟩
  have kT := BT.cell
  have kR := BR.cell
  have zR := BR.frz
  have nT0 : (w.heap.size = v1.heap.size) = False := eq_false (by have := BT.lt; omega)
  have nT1 : (w.heap.size = v1.heap.size + 1) = False := eq_false (by have := BT.lt; omega)
  have nR0 : (w.heap.size + 1 = v1.heap.size) = False := eq_false (by have := BR.lt; omega)
  have nR1 : (w.heap.size + 1 = v1.heap.size + 1) = False := eq_false (by have := BR.lt; omega)
  refine Calls.mono (upright_any hA hB hC _) ?_
  rintro e v2 ⟨v, rfl, ⟨x, y, z, rfl, hx, wx⟩, hm⟩
  clear kT kR zR nT0 nT1 nR0 nR1
  replace BT := BT.keep hm
  replace BR := BR.keep hm
  replace HB := HB.call hm
  clear hm
  have kT := BT.cell
  have kR := BR.cell
  have zR := BR.frz
  have nT0 : (w.heap.size = v2.heap.size) = False := eq_false (by have := BT.lt; omega)
  have nT1 : (w.heap.size = v2.heap.size + 1) = False := eq_false (by have := BT.lt; omega)
  have nR0 : (w.heap.size + 1 = v2.heap.size) = False := eq_false (by have := BR.lt; omega)
  have nR1 : (w.heap.size + 1 = v2.heap.size + 1) = False := eq_false (by have := BR.lt; omega)
  go_wp2_with fail
  refine Calls.mono (unit_c _ hx) ?_
  rintro e v3 ⟨v, rfl, ⟨x1, y1, z1, rfl, hu, wu⟩, hm⟩
  clear kT kR zR nT0 nT1 nR0 nR1
  replace BT := BT.keep hm
  replace BR := BR.keep hm
  replace HB := HB.call hm
  clear hm
  have kT := BT.cell
  have kR := BR.cell
  have zR := BR.frz
  have nT0 : (w.heap.size = v3.heap.size) = False := eq_false (by have := BT.lt; omega)
  have nT1 : (w.heap.size = v3.heap.size + 1) = False := eq_false (by have := BT.lt; omega)
  have nR0 : (w.heap.size + 1 = v3.heap.size) = False := eq_false (by have := BR.lt; omega)
  have nR1 : (w.heap.size + 1 = v3.heap.size + 1) = False := eq_false (by have := BR.lt; omega)
  go_wp2_with fail
  refine bodyPost_ret (v := .tuple #[.agg #[.float .f64 x1, .float .f64 y1, .float .f64 z1], .bool ((B.sub A).cross (C.sub A)).ok]) (by simp [results, go_sem, kR]) rfl ⟨_, rfl, ⟨x1, y1, z1, rfl, hu, wu⟩, ?_⟩
  repeat (refine Below.setCell ?_ (by dsimp only; omega) _)
  exact HB

set_option maxRecDepth 100000 in
set_option maxHeartbeats 1000000 in
theorem flat_any {t0 t1 t2 t3 t4 t5 t6 t7 t8 : Nat} {A B C : V3} (hA : S3 t0 t1 t2 A) (hB : S3 t3 t4 t5 B) (hC : S3 t6 t7 t8 C) (w : World) : Ret Try.prog 20 #[.agg #[.float .f64 t0, .float .f64 t1, .float .f64 t2, .float .f64 t3, .float .f64 t4, .float .f64 t5, .float .f64 t6, .float .f64 t7, .float .f64 t8]] w (fun v => v = .bool (!((B.sub A).cross (C.sub A)).ok)) := by
  unfold Ret
  have HN := hid (fun w => normal_any hA hB hC w)
  unfold isU at HN
  generalize ((B.sub A).cross (C.sub A)) = U at *
  generalize U.ok = b at *
  go_enter Try.func20, Try.ntmps20
  go_wp2_with fail
  refine Lp.settleC (fun w' => Lp.Bk w' (w.heap.size) #[.float .f64 t0, .float .f64 t1, .float .f64 t2, .float .f64 t3, .float .f64 t4, .float .f64 t5, .float .f64 t6, .float .f64 t7, .float .f64 t8] 26 ∧ Cl w w') ⟨(Lp.Bk.al _ _ _), (Below.refl _ _).alloc (by simp <;> omega) _⟩ ?_
  rintro v1 ⟨BT, HB⟩
  have kT := BT.cell
  have nT0 : (w.heap.size = v1.heap.size) = False := eq_false (by have := BT.lt; omega)
  have nT1 : (w.heap.size = v1.heap.size + 1) = False := eq_false (by have := BT.lt; omega)
  refine Calls.mono (HN.out _) ?_
  rintro e v2 ⟨v, rfl, ⟨x, y, z, rfl, hx, wx⟩, hm⟩
  clear kT nT0 nT1
  replace BT := BT.keep hm
  replace HB := HB.call hm
  clear hm
  have kT := BT.cell
  have nT0 : (w.heap.size = v2.heap.size) = False := eq_false (by have := BT.lt; omega)
  have nT1 : (w.heap.size = v2.heap.size + 1) = False := eq_false (by have := BT.lt; omega)
  go_wp2_with fail
  go_ret
  exact ⟨_, rfl, rfl, HB.alloc _⟩

set_option maxRecDepth 100000 in
set_option maxHeartbeats 1000000 in
theorem tproduct_any {x y X Y : Nat} (hx : Sm x X) (hy : Sm y Y) (w : World) : Ret Try.prog 39 #[.float .f64 x, .float .f64 y] w (isF (fmul X Y)) := by
  unfold Ret
  go_enter Try.func39, Try.ntmps39
  go_wp2_with fail
  refine upon_mul hx hy ?_
  intro r n hr
  go_wp2_with fail
  go_ret
  exact ⟨_, rfl, ⟨r, rfl, hr⟩, below_dr (Below.refl _ _) n⟩

def areaF (U : V3) : Nat := fmul U.len 4602678819172646912

set_option maxRecDepth 100000 in
set_option maxHeartbeats 1000000 in
theorem area_any {t0 t1 t2 t3 t4 t5 t6 t7 t8 : Nat} {A B C : V3} (hA : S3 t0 t1 t2 A) (hB : S3 t3 t4 t5 B) (hC : S3 t6 t7 t8 C) (w : World) : Ret Try.prog 22 #[.agg #[.float .f64 t0, .float .f64 t1, .float .f64 t2, .float .f64 t3, .float .f64 t4, .float .f64 t5, .float .f64 t6, .float .f64 t7, .float .f64 t8]] w (isF (areaF ((B.sub A).cross (C.sub A)))) := by
  unfold Ret
  go_enter Try.func22, Try.ntmps22
  go_wp2_with fail
  refine Lp.settleC (fun w' => Lp.Bk w' (w.heap.size) #[.float .f64 t0, .float .f64 t1, .float .f64 t2, .float .f64 t3, .float .f64 t4, .float .f64 t5, .float .f64 t6, .float .f64 t7, .float .f64 t8] 26 ∧ Cl w w') ⟨(Lp.Bk.al _ _ _), (Below.refl _ _).alloc (by simp <;> omega) _⟩ ?_
  rintro v1 ⟨BT, HB⟩
  have kT := BT.cell
  have nT0 : (w.heap.size = v1.heap.size) = False := eq_false (by have := BT.lt; omega)
  have nT1 : (w.heap.size = v1.heap.size + 1) = False := eq_false (by have := BT.lt; omega)
  refine Calls.mono (upright_any hA hB hC _) ?_
  rintro e v2 ⟨v, rfl, ⟨x, y, z, rfl, hx, wx⟩, hm⟩
  clear kT nT0 nT1
  replace BT := BT.keep hm
  replace HB := HB.call hm
  clear hm
  have kT := BT.cell
  have nT0 : (w.heap.size = v2.heap.size) = False := eq_false (by have := BT.lt; omega)
  have nT1 : (w.heap.size = v2.heap.size + 1) = False := eq_false (by have := BT.lt; omega)
  go_wp2_with fail
  refine Calls.mono (len_c _ hx) ?_
  rintro e v3 ⟨v, rfl, ⟨l, rfl, hl⟩, hm⟩
  clear kT nT0 nT1
  replace BT := BT.keep hm
  replace HB := HB.call hm
  clear hm
  have kT := BT.cell
  have nT0 : (w.heap.size = v3.heap.size) = False := eq_false (by have := BT.lt; omega)
  have nT1 : (w.heap.size = v3.heap.size + 1) = False := eq_false (by have := BT.lt; omega)
  go_wp2_with fail
  refine Calls.mono (tproduct_any hl.sm (Sm.refl _) _) ?_
  rintro e v4 ⟨v, rfl, ⟨a, rfl, ha⟩, hm⟩
  clear kT nT0 nT1
  replace BT := BT.keep hm
  replace HB := HB.call hm
  clear hm
  have kT := BT.cell
  have nT0 : (w.heap.size = v4.heap.size) = False := eq_false (by have := BT.lt; omega)
  have nT1 : (w.heap.size = v4.heap.size + 1) = False := eq_false (by have := BT.lt; omega)
  go_wp2_with fail
  go_ret
  exact ⟨_, rfl, ⟨a, rfl, ha⟩, HB⟩

set_option maxRecDepth 100000 in
set_option maxHeartbeats 1000000 in
theorem at_any {t0 t1 t2 t3 t4 t5 t6 t7 t8 : Nat} {u v k l : Nat} {A B C : V3} (hA : S3 t0 t1 t2 A) (hB : S3 t3 t4 t5 B) (hC : S3 t6 t7 t8 C) (hu : Sm u k) (hv : Sm v l) (w : World) : Ret Try.prog 23 #[.agg #[.float .f64 t0, .float .f64 t1, .float .f64 t2, .float .f64 t3, .float .f64 t4, .float .f64 t5, .float .f64 t6, .float .f64 t7, .float .f64 t8], .float .f64 u, .float .f64 v] w (isP ((A.add ((B.sub A).scale k)).add ((C.sub A).scale l))) := by
  unfold Ret
  go_enter Try.func23, Try.ntmps23
  go_wp2_with fail
  refine Lp.settleC (fun w' => Lp.Bk w' (w.heap.size) #[.float .f64 t0, .float .f64 t1, .float .f64 t2, .float .f64 t3, .float .f64 t4, .float .f64 t5, .float .f64 t6, .float .f64 t7, .float .f64 t8] 26 ∧ Lp.Bk w' (w.heap.size + 1) #[.float .f64 0, .float .f64 0, .float .f64 0] 24 ∧ Cl w w') ⟨((Lp.Bk.al _ _ _).alo _), (Lp.Bk.al1 _ _ _ _), ((Below.refl _ _).alloc (by simp <;> omega) _).alloc (by simp <;> omega) _⟩ ?_
  rintro v1 ⟨BT, BR, HB⟩
  have kT := BT.cell
  have kR := BR.cell
  have zR := BR.frz
  have nT0 : (w.heap.size = v1.heap.size) = False := eq_false (by have := BT.lt; omega)
  have nT1 : (w.heap.size = v1.heap.size + 1) = False := eq_false (by have := BT.lt; omega)
  have nR0 : (w.heap.size + 1 = v1.heap.size) = False := eq_false (by have := BR.lt; omega)
  have nR1 : (w.heap.size + 1 = v1.heap.size + 1) = False := eq_false (by have := BR.lt; omega)
  refine Calls.mono (edges_any hA hB hC _) ?_
  rintro e v2 ⟨v, rfl, ⟨x, y, z, p, q, r, rfl, ⟨hx, wx⟩, hp, wp⟩, hm⟩
  clear kT kR zR nT0 nT1 nR0 nR1
  replace BT := BT.keep hm
  replace BR := BR.keep hm
  replace HB := HB.call hm
  clear hm
  have kT := BT.cell
  have kR := BR.cell
  have zR := BR.frz
  have nT0 : (w.heap.size = v2.heap.size) = False := eq_false (by have := BT.lt; omega)
  have nT1 : (w.heap.size = v2.heap.size + 1) = False := eq_false (by have := BT.lt; omega)
  have nR0 : (w.heap.size + 1 = v2.heap.size) = False := eq_false (by have := BR.lt; omega)
  have nR1 : (w.heap.size + 1 = v2.heap.size + 1) = False := eq_false (by have := BR.lt; omega)
  go_wp2_with fail
  refine Lp.settle (fun w' => Lp.Bk w' (w.heap.size) #[.float .f64 t0, .float .f64 t1, .float .f64 t2, .float .f64 t3, .float .f64 t4, .float .f64 t5, .float .f64 t6, .float .f64 t7, .float .f64 t8] 26 ∧ Lp.Bk w' (w.heap.size + 1) #[.float .f64 0, .float .f64 0, .float .f64 0] 24 ∧ Lp.Bk w' (v2.heap.size) #[.float .f64 x, .float .f64 y, .float .f64 z] 24 ∧ Lp.Bk w' (v2.heap.size + 1) #[.float .f64 p, .float .f64 q, .float .f64 r] 24 ∧ Cl w w') ⟨((BT).alo _).alo _, ((BR).alo _).alo _, (Lp.Bk.al _ _ _).alo _, Lp.Bk.al1 _ _ _ _, ((HB).alloc _).alloc _⟩ ?_
  clear kT kR zR nT0 nT1 nR0 nR1
  clear BT BR HB
  rintro v3 ⟨BT, BR, BE, BF, HB⟩
  have kT := BT.cell
  have kR := BR.cell
  have kE := BE.cell
  have kF := BF.cell
  have zR := BR.frz
  have nT0 : (w.heap.size = v3.heap.size) = False := eq_false (by have := BT.lt; omega)
  have nT1 : (w.heap.size = v3.heap.size + 1) = False := eq_false (by have := BT.lt; omega)
  have nR0 : (w.heap.size + 1 = v3.heap.size) = False := eq_false (by have := BR.lt; omega)
  have nR1 : (w.heap.size + 1 = v3.heap.size + 1) = False := eq_false (by have := BR.lt; omega)
  have nE0 : (v2.heap.size = v3.heap.size) = False := eq_false (by have := BE.lt; omega)
  have nE1 : (v2.heap.size = v3.heap.size + 1) = False := eq_false (by have := BE.lt; omega)
  have nF0 : (v2.heap.size + 1 = v3.heap.size) = False := eq_false (by have := BF.lt; omega)
  have nF1 : (v2.heap.size + 1 = v3.heap.size + 1) = False := eq_false (by have := BF.lt; omega)
  apply Lp.wp_region_loose _ _ 10 (by kernel_rfl) (by kernel_rfl) (by kernel_rfl) (Below.refl _ _)
  apply Lp.facts
  · intro w1 hw
    exact And.intro (BT.cl hw).cell (And.intro (BR.cl hw).cell (And.intro (BE.cl hw).cell ((BF.cl hw).cell)))
  intro HF
  iterate 4 (
    apply Lp.one ?_ rfl
    · intro w hw
      obtain ⟨k0, k1, k2, k3⟩ := HF.out _ hw
      go_simp
      exact rfl
    intro K hK
    go_simp
    refine hK.out _ ?_
    clear hK K)
  apply Lp.any rfl
  · intro w hw
    go_simp
    exact Lp.ret (scale_c _ hx hu)
  intro K hK
  rintro v ⟨x1, y1, z1, rfl, h1, w1⟩
  go_simp
  refine hK.out _ ?_
  clear hK K
  apply Lp.any rfl
  · intro w hw
    go_simp
    exact Lp.ret (add_c _ hA h1)
  intro K hK
  rintro v ⟨x2, y2, z2, rfl, h2, w2⟩
  go_simp
  refine hK.out _ ?_
  clear hK K
  iterate 2 (
    apply Lp.one ?_ rfl
    · intro w hw
      obtain ⟨k0, k1, k2, k3⟩ := HF.out _ hw
      go_simp
      exact rfl
    intro K hK
    go_simp
    refine hK.out _ ?_
    clear hK K)
  apply Lp.any rfl
  · intro w hw
    go_simp
    exact Lp.ret (scale_c _ hp hv)
  intro K hK
  rintro v ⟨x3, y3, z3, rfl, h3, w3⟩
  go_simp
  refine hK.out _ ?_
  clear hK K
  apply Lp.any rfl
  · intro w hw
    go_simp
    exact Lp.ret (add_c _ h2 h3)
  intro K hK
  rintro v ⟨x4, y4, z4, rfl, h4, w4⟩
  go_simp
  refine hK.out _ ?_
  clear hK K
  rotate_left
  exact []
  intro v4 hm
  clear kT kR kE kF zR nT0 nT1 nR0 nR1 nE0 nE1 nF0 nF1
  replace BT := BT.keep hm
  replace BR := BR.keep hm
  replace BE := BE.keep hm
  replace BF := BF.keep hm
  replace HB := HB.call hm
  clear hm
  have kT := BT.cell
  have kR := BR.cell
  have kE := BE.cell
  have kF := BF.cell
  have zR := BR.frz
  have nT0 : (w.heap.size = v4.heap.size) = False := eq_false (by have := BT.lt; omega)
  have nT1 : (w.heap.size = v4.heap.size + 1) = False := eq_false (by have := BT.lt; omega)
  have nR0 : (w.heap.size + 1 = v4.heap.size) = False := eq_false (by have := BR.lt; omega)
  have nR1 : (w.heap.size + 1 = v4.heap.size + 1) = False := eq_false (by have := BR.lt; omega)
  have nE0 : (v2.heap.size = v4.heap.size) = False := eq_false (by have := BE.lt; omega)
  have nE1 : (v2.heap.size = v4.heap.size + 1) = False := eq_false (by have := BE.lt; omega)
  have nF0 : (v2.heap.size + 1 = v4.heap.size) = False := eq_false (by have := BF.lt; omega)
  have nF1 : (v2.heap.size + 1 = v4.heap.size + 1) = False := eq_false (by have := BF.lt; omega)
  go_wp2_with fail
  refine bodyPost_ret (v := .agg #[.float .f64 x4, .float .f64 y4, .float .f64 z4]) (by simp [results, go_sem, kR]) rfl ⟨_, rfl, ⟨x4, y4, z4, rfl, h4, w4⟩, ?_⟩
  repeat (refine Below.setCell ?_ (by dsimp only; omega) _)
  exact HB

end Go.Proofs.Ytfeomlbfmbpmaaa

namespace Go.Proofs.Ytfeomlbfmbpmaaa.Fl

/-! Powers of two -/
theorem p2_pos (e : Int) : (0 : Rat) < 2 ^ e := Rat.zpow_pos (by decide)
theorem p2_add (a b : Int) : (2 : Rat) ^ (a + b) = 2 ^ a * 2 ^ b := Rat.zpow_add (by decide) a b
theorem p2_nat (n : Nat) : (2 : Rat) ^ (n : Int) = ((2 ^ n : Nat) : Rat) := by rw [Rat.zpow_natCast, Rat.natCast_pow]; rfl
theorem p2_one (n : Nat) : (1 : Rat) ≤ 2 ^ (n : Int) := by
  rw [p2_nat]
  exact (Rat.natCast_le_natCast (a := 1)).2 Nat.one_le_two_pow
theorem p2_le {a b : Int} (h : a ≤ b) : (2 : Rat) ^ a ≤ 2 ^ b := by
  obtain ⟨n, rfl⟩ : ∃ n : Nat, b = a + n := ⟨(b - a).toNat, by omega⟩
  rw [p2_add]
  have := Rat.mul_le_mul_of_nonneg_left (p2_one n) (Rat.le_of_lt (p2_pos a))
  rwa [Rat.mul_one] at this

/-! What a word stands for -/
def sg (s : Bool) (r : Rat) : Rat := if s then -r else r
def dval : Ieee.Datum → Rat
  | .number s m e => sg s ((m : Rat) * 2 ^ e)
  | _ => 0
theorem dval_number (s : Bool) (m : Nat) (e : Int) : dval (.number s m e) = sg s ((m : Rat) * 2 ^ e) := rfl
def val (x : Nat) : Rat := dval (F64.read x)
def Num (x : Nat) : Prop := ∃ s m e, F64.read x = .number s m e

/-! Rounding to a whole number -/
theorem cut_err (neg : Bool) (n drop : Nat) : 2 * (Ieee.Toward.even.cut neg n drop * 2 ^ drop) ≤ 2 * n + 2 ^ drop ∧ 2 * n ≤ 2 * (Ieee.Toward.even.cut neg n drop * 2 ^ drop) + 2 ^ drop := by
  unfold Ieee.Toward.cut
  simp only [Nat.one_shiftLeft]
  rcases Nat.lt_or_ge (n.log2 + 2) drop with hd | hd
  · rw [Nat.min_eq_right (Nat.le_of_lt hd)]
    have h1 : n < 2 ^ (n.log2 + 1) := Nat.lt_log2_self
    have h2 : 2 ^ (n.log2 + 2) = 2 * 2 ^ (n.log2 + 1) := by rw [Nat.pow_succ 2 (n.log2 + 1), Nat.mul_comm]
    have h3 : 2 ^ (n.log2 + 2) ≤ 2 ^ drop := Nat.pow_le_pow_right (by decide) (Nat.le_of_lt hd)
    have h4 : n / 2 ^ (n.log2 + 2) = 0 := Nat.div_eq_of_lt (by omega)
    have h5 : n % 2 ^ (n.log2 + 2) = n := Nat.mod_eq_of_lt (by omega)
    rw [h4, h5]
    have h6 : decide (2 ^ (n.log2 + 2) < 2 * n) = false := by simp; omega
    have h7 : (2 ^ (n.log2 + 2) == 2 * n) = false := by simp; omega
    rw [h6, h7]
    simp
    omega
  · rw [Nat.min_eq_left hd]
    have h1 := Nat.div_add_mod n (2 ^ drop)
    have h2 := Nat.mod_lt n (Nat.two_pow_pos drop)
    generalize n / 2 ^ drop = low at h1 ⊢
    generalize n % 2 ^ drop = rest at h1 h2 ⊢
    generalize 2 ^ drop = gap at h1 h2 ⊢
    rw [Nat.add_mul, Nat.mul_comm low gap]
    generalize gap * low = g at h1 ⊢
    by_cases h3 : gap < 2 * rest
    · simp [h3]; omega
    · by_cases h4 : gap = 2 * rest
      · by_cases h5 : low % 2 = 1
        · simp [h4, h5]; omega
        · have h7 : (low % 2 == 1) = false := by simpa using h5
          simp [h4, h7]; omega
      · have h6 : (gap == 2 * rest) = false := by simpa using h4
        simp [h3, h6]; omega

/-! Reading what was written -/
theorem read_word (neg : Bool) (rung : Nat) (h : rung < 9218868437227405312) :
    F64.read (F64.word neg rung) = if rung < 4503599627370496 then .number neg rung (-1074) else .number neg (4503599627370496 + rung % 4503599627370496) (-1074 + ((rung / 4503599627370496 - 1 : Nat) : Int)) := by
  have h1 : (F64.word neg rung / 9223372036854775808 % 2 == 1) = neg := by
    unfold Ieee.Format.word
    rw [sw]
    cases neg
    · simp; omega
    · simp; omega
  have h2 : F64.word neg rung % 9223372036854775808 = rung := by
    unfold Ieee.Format.word
    rw [sw]
    cases neg
    · simp; omega
    · simp; omega
  unfold Ieee.Format.read
  rw [sw, bn, ir, lp, h1, h2]
  simp only [h, if_true]

theorem read_inf (neg : Bool) : F64.read (F64.word neg 9218868437227405312) = .infinity neg := by
  cases neg <;> decide +kernel

/-- The rung of a kept number at a place. -/
theorem rung_val (neg : Bool) (E k : Nat) (hk : k ≤ 9007199254740992) (hE : E = 0 ∨ 4503599627370496 ≤ k) (h : E * 4503599627370496 + k < 9218868437227405312) :
    ∃ m e, F64.read (F64.word neg (E * 4503599627370496 + k)) = .number neg m e ∧ (m : Rat) * 2 ^ e = (k : Rat) * 2 ^ ((E : Int) - 1074) := by
  rw [read_word neg _ h]
  by_cases h1 : E * 4503599627370496 + k < 4503599627370496
  · rw [if_pos h1]
    have : E = 0 := by omega
    subst this
    refine ⟨_, _, rfl, ?_⟩
    rw [show 0 * 4503599627370496 + k = k by omega, show (((0 : Nat) : Int) - 1074) = -1074 by omega]
  · rw [if_neg h1]
    refine ⟨_, _, rfl, ?_⟩
    by_cases h2 : k < 9007199254740992
    · by_cases h3 : k < 4503599627370496
      · omega
      · have e1 : (E * 4503599627370496 + k) % 4503599627370496 = k - 4503599627370496 := by omega
        have e2 : (E * 4503599627370496 + k) / 4503599627370496 - 1 = E := by omega
        rw [e1, e2, show 4503599627370496 + (k - 4503599627370496) = k by omega]
        congr 2
    · have hk2 : k = 9007199254740992 := by omega
      subst hk2
      have e1 : (E * 4503599627370496 + 9007199254740992) % 4503599627370496 = 0 := by omega
      have e2 : (E * 4503599627370496 + 9007199254740992) / 4503599627370496 - 1 = E + 1 := by omega
      rw [e1, e2, show (-1074 : Int) + ((E + 1 : Nat) : Int) = ((E : Int) - 1074) + 1 by omega, p2_add]
      have : (2 : Rat) ^ (1 : Int) = 2 := by decide +kernel
      rw [this]
      generalize (2 : Rat) ^ ((E : Int) - 1074) = p
      grind
end Go.Proofs.Ytfeomlbfmbpmaaa.Fl

namespace Go.Proofs.Ytfeomlbfmbpmaaa.Fl

theorem rat_div {D a b : Rat} (hD : 0 < D) (h : D * a ≤ D * b) : a ≤ b := Rat.le_of_mul_le_mul_left h hD

abbrev lastP (mag : Nat) (place : Int) : Int := max (place + mag.log2 - 52) (-1074)
abbrev kept (neg : Bool) (mag : Nat) (place : Int) : Nat := Ieee.Toward.even.cut neg (mag <<< (place - lastP mag place).toNat) (lastP mag place - place).toNat

theorem nearest_eq (neg : Bool) (mag : Nat) (place : Int) (h : mag ≠ 0) :
    F64.nearest neg mag place = F64.word neg (min ((lastP mag place + 1074).toNat * 4503599627370496 + kept neg mag place) 9218868437227405312) := by
  unfold Ieee.Format.nearest
  rw [if_neg h, lp, bn, ir]
  rfl

/-- The kept digits, and how far they are off. -/
theorem kept_bounds (neg : Bool) (mag : Nat) (place : Int) (h : mag ≠ 0) :
    kept neg mag place ≤ 9007199254740992 ∧ ((lastP mag place + 1074).toNat = 0 ∨ 4503599627370496 ≤ kept neg mag place) := by
  unfold kept
  obtain ⟨c1, c2⟩ := cut_err neg (mag <<< (place - lastP mag place).toNat) (lastP mag place - place).toNat
  generalize Ieee.Toward.even.cut neg _ _ = k at c1 c2 ⊢
  rw [Nat.shiftLeft_eq] at c1 c2
  have l1 : 2 ^ mag.log2 ≤ mag := Nat.log2_self_le h
  have l2 : mag < 2 ^ (mag.log2 + 1) := Nat.lt_log2_self
  have hl : lastP mag place = max (place + mag.log2 - 52) (-1074) := rfl
  generalize lastP mag place = last at c1 c2 hl ⊢
  generalize hu : (place - last).toNat = up at c1 c2
  generalize hd : (last - place).toNat = drop at c1 c2
  have hp : 0 < 2 ^ drop := Nat.two_pow_pos drop
  constructor
  · have b1 : mag * 2 ^ up < 9007199254740992 * 2 ^ drop := by
      have e1 : mag * 2 ^ up < 2 ^ (mag.log2 + 1) * 2 ^ up := Nat.mul_lt_mul_of_pos_right l2 (Nat.two_pow_pos up)
      have e2 : 2 ^ (mag.log2 + 1) * 2 ^ up ≤ 2 ^ 53 * 2 ^ drop := by
        rw [← Nat.pow_add, ← Nat.pow_add]
        exact Nat.pow_le_pow_right (by decide) (by omega)
      exact Nat.lt_of_lt_of_le e1 e2
    have b2 : k * 2 ^ drop < 9007199254740993 * 2 ^ drop := by omega
    have := Nat.lt_of_mul_lt_mul_right b2
    omega
  · by_cases hz : (last + 1074).toNat = 0
    · exact Or.inl hz
    · right
      have b1 : 4503599627370496 * 2 ^ drop ≤ mag * 2 ^ up := by
        have e1 : 2 ^ mag.log2 * 2 ^ up ≤ mag * 2 ^ up := Nat.mul_le_mul_right _ l1
        have e2 : 2 ^ 52 * 2 ^ drop ≤ 2 ^ mag.log2 * 2 ^ up := by
          rw [← Nat.pow_add, ← Nat.pow_add]
          exact Nat.pow_le_pow_right (by decide) (by omega)
        exact Nat.le_trans e2 e1
      have b2 : 4503599627370495 * 2 ^ drop < k * 2 ^ drop := by omega
      have := Nat.lt_of_mul_lt_mul_right b2
      omega

/-- What is kept, as a number. -/
theorem kept_val (neg : Bool) (mag : Nat) (place : Int) :
    2 * ((kept neg mag place : Rat) * 2 ^ lastP mag place) ≤ 2 * ((mag : Rat) * 2 ^ place) + 2 ^ lastP mag place ∧
    2 * ((mag : Rat) * 2 ^ place) ≤ 2 * ((kept neg mag place : Rat) * 2 ^ lastP mag place) + 2 ^ lastP mag place := by
  unfold kept
  obtain ⟨c1, c2⟩ := cut_err neg (mag <<< (place - lastP mag place).toNat) (lastP mag place - place).toNat
  generalize Ieee.Toward.even.cut neg _ _ = k at c1 c2 ⊢
  rw [Nat.shiftLeft_eq] at c1 c2
  generalize lastP mag place = last at c1 c2 ⊢
  generalize hu : (place - last).toNat = up at c1 c2
  generalize hd : (last - place).toNat = drop at c1 c2
  have hD := p2_pos (drop : Int)
  have hL := p2_pos last
  have key : (2 : Rat) ^ (up : Int) * 2 ^ last = 2 ^ place * 2 ^ (drop : Int) := by
    rw [← p2_add, ← p2_add]
    congr 1
    omega
  have c1' : (2 : Rat) * (k * 2 ^ (drop : Int)) ≤ 2 * (mag * 2 ^ (up : Int)) + 2 ^ (drop : Int) := by
    rw [p2_nat, p2_nat]
    exact_mod_cast c1
  have c2' : (2 : Rat) * (mag * 2 ^ (up : Int)) ≤ 2 * (k * 2 ^ (drop : Int)) + 2 ^ (drop : Int) := by
    rw [p2_nat, p2_nat]
    exact_mod_cast c2
  have d1 := Rat.mul_le_mul_of_nonneg_right c1' (Rat.le_of_lt hL)
  have d2 := Rat.mul_le_mul_of_nonneg_right c2' (Rat.le_of_lt hL)
  generalize (2 : Rat) ^ (drop : Int) = D at *
  generalize (2 : Rat) ^ last = L at *
  generalize (2 : Rat) ^ place = P at *
  generalize (2 : Rat) ^ (up : Int) = U at *
  constructor
  · refine rat_div hD ?_
    have e1 : D * (2 * ((k : Rat) * L)) = 2 * (k * D) * L := by grind
    have e2 : D * (2 * ((mag : Rat) * P) + L) = (2 * (mag * U) + D) * L := by grind
    rw [e1, e2]; exact d1
  · refine rat_div hD ?_
    have e1 : D * (2 * ((mag : Rat) * P)) = 2 * (mag * U) * L := by grind
    have e2 : D * (2 * ((k : Rat) * L) + L) = (2 * (k * D) + D) * L := by grind
    rw [e1, e2]; exact d2

theorem mag_nonneg (mag : Nat) (place : Int) : (0 : Rat) ≤ mag * 2 ^ place :=
  Rat.mul_nonneg (by exact_mod_cast Nat.zero_le mag) (Rat.le_of_lt (p2_pos place))

/-- The last place, by the number itself. -/
theorem last_le (mag : Nat) (place : Int) (h : mag ≠ 0) : (2 : Rat) ^ lastP mag place ≤ mag * 2 ^ place * 2 ^ (-52 : Int) + 2 ^ (-1074 : Int) := by
  have hn := mag_nonneg mag place
  have h52 := p2_pos (-52)
  have h74 := p2_pos (-1074)
  have hm := Rat.mul_nonneg hn (Rat.le_of_lt h52)
  rcases Int.le_total (place + mag.log2 - 52) (-1074) with hl | hl
  · rw [show lastP mag place = -1074 from Int.max_eq_right hl]
    grind
  · rw [show lastP mag place = place + mag.log2 - 52 from Int.max_eq_left hl, Int.sub_eq_add_neg, p2_add, p2_add]
    have l1 : ((2 ^ mag.log2 : Nat) : Rat) ≤ mag := by exact_mod_cast Nat.log2_self_le h
    rw [← p2_nat] at l1
    have l2 := Rat.mul_le_mul_of_nonneg_left l1 (Rat.le_of_lt (p2_pos place))
    have l3 := Rat.mul_le_mul_of_nonneg_right l2 (Rat.le_of_lt h52)
    grind

/-- What is written is a number where it is not too great. -/
theorem nearest_num (neg : Bool) (mag : Nat) (place : Int) (h : (mag : Rat) * 2 ^ place ≤ 64) : Num (F64.nearest neg mag place) := by
  by_cases h0 : mag = 0
  · subst h0
    have : F64.nearest neg 0 place = F64.word neg 0 := by unfold Ieee.Format.nearest; rw [if_pos rfl]
    rw [this]
    have := read_word neg 0 (by decide)
    exact ⟨_, _, _, this⟩
  · rw [nearest_eq neg mag place h0]
    obtain ⟨b1, b2⟩ := kept_bounds neg mag place h0
    have hl : place + mag.log2 ≤ 6 := by
      by_cases hg : place + mag.log2 ≤ 6
      · exact hg
      · exfalso
        have l1 : ((2 ^ mag.log2 : Nat) : Rat) ≤ mag := by exact_mod_cast Nat.log2_self_le h0
        rw [← p2_nat] at l1
        have l2 := Rat.mul_le_mul_of_nonneg_left l1 (Rat.le_of_lt (p2_pos place))
        rw [← p2_add] at l2
        have l3 := p2_le (show (7 : Int) ≤ place + mag.log2 by omega)
        have l4 : (2 : Rat) ^ (7 : Int) = 128 := by decide +kernel
        grind
    have hE : (lastP mag place + 1074).toNat ≤ 1028 := by
      have : lastP mag place = max (place + mag.log2 - 52) (-1074) := rfl
      omega
    generalize (lastP mag place + 1074).toNat = E at *
    generalize kept neg mag place = k at *
    rw [Nat.min_eq_left (by omega)]
    obtain ⟨m, e, he, _⟩ := rung_val neg E k b1 b2 (by omega)
    exact ⟨_, _, _, he⟩

/-- WHAT IS WRITTEN IS AS NEAR AS SO MANY DIGITS LET IT BE. -/
theorem nearest_val (neg : Bool) (mag : Nat) (place : Int) (h : Num (F64.nearest neg mag place)) :
    ∃ V, val (F64.nearest neg mag place) = sg neg V ∧ 0 ≤ V ∧ V ≤ mag * 2 ^ place + mag * 2 ^ place * 2 ^ (-53 : Int) + 2 ^ (-1075 : Int) ∧ mag * 2 ^ place ≤ V + mag * 2 ^ place * 2 ^ (-53 : Int) + 2 ^ (-1075 : Int) := by
  have hn := mag_nonneg mag place
  have h53 := p2_pos (-53)
  have h75 := p2_pos (-1075)
  have hm := Rat.mul_nonneg hn (Rat.le_of_lt h53)
  by_cases h0 : mag = 0
  · subst h0
    have : F64.nearest neg 0 place = F64.word neg 0 := by unfold Ieee.Format.nearest; rw [if_pos rfl]
    rw [this]
    have := read_word neg 0 (by decide)
    rw [if_pos (by decide)] at this
    refine ⟨0, ?_, ?_, ?_, ?_⟩
    · unfold val
      rw [this]
      rw [dval_number]
      congr 1
      exact Rat.zero_mul _
    · exact Rat.le_refl
    · grind
    · have z : ((0 : Nat) : Rat) * 2 ^ place = 0 := Rat.zero_mul _
      grind
  · have hlast := last_le mag place h0
    obtain ⟨k1, k2⟩ := kept_val neg mag place
    obtain ⟨b1, b2⟩ := kept_bounds neg mag place h0
    have hE : ((lastP mag place + 1074).toNat : Int) - 1074 = lastP mag place := by
      have : lastP mag place = max (place + mag.log2 - 52) (-1074) := rfl
      omega
    rw [nearest_eq neg mag place h0] at h ⊢
    rcases Nat.lt_or_ge ((lastP mag place + 1074).toNat * 4503599627370496 + kept neg mag place) 9218868437227405312 with ho | ho
    · rw [Nat.min_eq_left (Nat.le_of_lt ho)]
      obtain ⟨m, e, he, hv⟩ := rung_val neg _ _ b1 b2 ho
      rw [hE] at hv
      refine ⟨kept neg mag place * 2 ^ lastP mag place, ?_, ?_, ?_, ?_⟩
      · unfold val
        rw [he]
        rw [dval_number, hv]
      · exact mag_nonneg _ _
      · have e1 : (2 : Rat) ^ (-52 : Int) = 2 * 2 ^ (-53 : Int) := by decide +kernel
        have e2 : (2 : Rat) ^ (-1074 : Int) = 2 * 2 ^ (-1075 : Int) := by rw [show (-1074 : Int) = 1 + (-1075) by omega, p2_add]; congr 1
        rw [e1, e2] at hlast
        generalize (2 : Rat) ^ (-1075 : Int) = T at *
        generalize (2 : Rat) ^ (-53 : Int) = F at *
        grind
      · have e1 : (2 : Rat) ^ (-52 : Int) = 2 * 2 ^ (-53 : Int) := by decide +kernel
        have e2 : (2 : Rat) ^ (-1074 : Int) = 2 * 2 ^ (-1075 : Int) := by rw [show (-1074 : Int) = 1 + (-1075) by omega, p2_add]; congr 1
        rw [e1, e2] at hlast
        generalize (2 : Rat) ^ (-1075 : Int) = T at *
        generalize (2 : Rat) ^ (-53 : Int) = F at *
        grind
    · rw [Nat.min_eq_right ho] at h
      obtain ⟨s, m, e, hr⟩ := h
      rw [read_inf] at hr
      cases hr
end Go.Proofs.Ytfeomlbfmbpmaaa.Fl

namespace Go.Proofs.Ytfeomlbfmbpmaaa.Fl

/-- Half a unit of the last digit, and half the least number. -/
def eu : Rat := 2 ^ (-53 : Int)
def et : Rat := 2 ^ (-1075 : Int)
theorem eu_pos : 0 < eu := p2_pos _
theorem et_pos : 0 < et := p2_pos _
/-- v is as near to r as a rounded number is. -/
structure Nr (v r : Rat) : Prop where
  lo : ∀ B, -B ≤ r → r ≤ B → r ≤ v + (B * eu + et)
  hi : ∀ B, -B ≤ r → r ≤ B → v ≤ r + (B * eu + et)

theorem write_val (neg : Bool) (mag : Nat) (place : Int) (h : Num (F64.nearest neg mag place)) : Nr (val (F64.nearest neg mag place)) (dval (.number neg mag place)) := by
  obtain ⟨V, hV, h0, h1, h2⟩ := nearest_val neg mag place h
  rw [hV, dval_number]
  rw [show (2 : Rat) ^ (-53 : Int) = eu from rfl, show (2 : Rat) ^ (-1075 : Int) = et from rfl] at h1 h2
  have hu := eu_pos
  generalize (mag : Rat) * 2 ^ place = R at *
  have hb : ∀ B, R ≤ B → R * eu ≤ B * eu := fun B hB => Rat.mul_le_mul_of_nonneg_right hB (Rat.le_of_lt hu)
  cases neg
  · constructor
    · intro B _ hB
      have := hb B hB
      unfold sg at *
      grind
    · intro B _ hB
      have := hb B hB
      unfold sg at *
      grind
  · constructor
    · intro B hB _
      unfold sg at *
      have := hb B (by grind)
      grind
    · intro B hB _
      unfold sg at *
      have := hb B (by grind)
      grind

theorem write_num (neg : Bool) (mag : Nat) (place : Int) (h1 : -64 ≤ dval (.number neg mag place)) (h2 : dval (.number neg mag place) ≤ 64) : Num (F64.nearest neg mag place) := by
  refine nearest_num neg mag place ?_
  rw [dval_number] at h1 h2
  cases neg
  · exact h2
  · unfold sg at h1
    grind

theorem sg_signed (s : Bool) (m u : Nat) : ((Ieee.signed s m u : Int) : Rat) = sg s ((m : Rat) * 2 ^ (u : Int)) := by
  unfold Ieee.signed sg
  rw [Nat.shiftLeft_eq, p2_nat]
  cases s <;> simp [Rat.intCast_natCast]

theorem signed_val (s : Bool) (m : Nat) (i base : Int) (h : base ≤ i) : ((Ieee.signed s m (i - base).toNat : Int) : Rat) * 2 ^ base = sg s ((m : Rat) * 2 ^ i) := by
  rw [sg_signed, show (((i - base).toNat : Nat) : Int) = i - base by omega]
  have : (2 : Rat) ^ i = 2 ^ (i - base) * 2 ^ base := by rw [← p2_add]; congr 1; omega
  rw [this]
  generalize (2 : Rat) ^ (i - base) = a
  generalize (2 : Rat) ^ base = b
  cases s <;> unfold sg <;> grind

theorem abs_val (t : Int) (z : Bool) (base : Int) : dval (.number (if t = 0 then z else decide (t < 0)) t.natAbs base) = (t : Rat) * 2 ^ base := by
  rw [dval_number]
  by_cases h0 : t = 0
  · subst h0
    have e : ((0 : Int).natAbs : Rat) * 2 ^ base = 0 := Rat.zero_mul _
    rw [e]
    have e2 : ((0 : Int) : Rat) * 2 ^ base = 0 := Rat.zero_mul _
    rw [e2]
    cases z <;> simp [sg]
  · rw [if_neg h0]
    by_cases hn : t < 0
    · have e : (t : Rat) = -((t.natAbs : Nat) : Rat) := by
        have : t = -((t.natAbs : Nat) : Int) := by omega
        have h2 : (t : Rat) = ((-((t.natAbs : Nat) : Int) : Int) : Rat) := by rw [← this]
        rw [h2, Rat.intCast_neg]
        rfl
      rw [e]
      simp only [hn, decide_true, sg, if_true]
      grind
    · have e : (t : Rat) = ((t.natAbs : Nat) : Rat) := by
        have : t = ((t.natAbs : Nat) : Int) := by omega
        exact_mod_cast this
      rw [e]
      simp [hn, sg]

theorem sum_val (s t : Bool) (m n : Nat) (i j : Int) : ∃ neg mag place, (Ieee.Datum.number s m i).sum (.number t n j) = some (.number neg mag place) ∧ dval (.number neg mag place) = dval (.number s m i) + dval (.number t n j) := by
  refine ⟨_, _, _, rfl, ?_⟩
  rw [abs_val, dval_number, dval_number, ← signed_val s m i (min i j) (by omega), ← signed_val t n j (min i j) (by omega)]
  have : ((Ieee.signed s m (i - min i j).toNat + Ieee.signed t n (j - min i j).toNat : Int) : Rat) = (Ieee.signed s m (i - min i j).toNat : Int) + (Ieee.signed t n (j - min i j).toNat : Int) := Rat.intCast_add _ _
  rw [this]
  grind

theorem add_near {x y : Nat} (hx : Num x) (hy : Num y) : ∃ neg mag place, fadd x y = F64.nearest neg mag place ∧ dval (.number neg mag place) = val x + val y := by
  obtain ⟨s, m, i, hx⟩ := hx
  obtain ⟨t, n, j, hy⟩ := hy
  obtain ⟨neg, mag, place, h1, h2⟩ := sum_val s t m n i j
  refine ⟨neg, mag, place, ?_, ?_⟩
  · unfold fadd Ieee.Format.add
    rw [hx, hy, h1]
    rfl
  · unfold val
    rw [hx, hy, h2]

theorem sub_near {x y : Nat} (hx : Num x) (hy : Num y) : ∃ neg mag place, fsub x y = F64.nearest neg mag place ∧ dval (.number neg mag place) = val x - val y := by
  obtain ⟨s, m, i, hx⟩ := hx
  obtain ⟨t, n, j, hy⟩ := hy
  obtain ⟨neg, mag, place, h1, h2⟩ := sum_val s (!t) m n i j
  refine ⟨neg, mag, place, ?_, ?_⟩
  · unfold fsub Ieee.Format.sub
    rw [hx, hy, Ieee.Datum.opposite, h1]
    rfl
  · unfold val
    rw [hx, hy, h2, dval_number, dval_number, dval_number]
    cases t <;> simp [sg] <;> grind

theorem mul_near {x y : Nat} (hx : Num x) (hy : Num y) : ∃ neg mag place, fmul x y = F64.nearest neg mag place ∧ dval (.number neg mag place) = val x * val y := by
  obtain ⟨s, m, i, hx⟩ := hx
  obtain ⟨t, n, j, hy⟩ := hy
  refine ⟨s ^^ t, m * n, i + j, ?_, ?_⟩
  · unfold fmul Ieee.Format.mul
    rw [hx, hy]
    rfl
  · unfold val
    rw [hx, hy, dval_number, dval_number, dval_number, p2_add, Rat.natCast_mul]
    cases s <;> cases t <;> simp [sg] <;> grind

theorem fadd_num {x y : Nat} (hx : Num x) (hy : Num y) (h1 : -64 ≤ val x + val y) (h2 : val x + val y ≤ 64) : Num (fadd x y) := by
  obtain ⟨neg, mag, place, e, hv⟩ := add_near hx hy
  rw [e]; exact write_num _ _ _ (by rw [hv]; exact h1) (by rw [hv]; exact h2)
theorem fadd_val {x y : Nat} (hx : Num x) (hy : Num y) (h : Num (fadd x y)) : Nr (val (fadd x y)) (val x + val y) := by
  obtain ⟨neg, mag, place, e, hv⟩ := add_near hx hy
  rw [e] at h ⊢; rw [← hv]; exact write_val _ _ _ h
theorem fsub_num {x y : Nat} (hx : Num x) (hy : Num y) (h1 : -64 ≤ val x - val y) (h2 : val x - val y ≤ 64) : Num (fsub x y) := by
  obtain ⟨neg, mag, place, e, hv⟩ := sub_near hx hy
  rw [e]; exact write_num _ _ _ (by rw [hv]; exact h1) (by rw [hv]; exact h2)
theorem fsub_val {x y : Nat} (hx : Num x) (hy : Num y) (h : Num (fsub x y)) : Nr (val (fsub x y)) (val x - val y) := by
  obtain ⟨neg, mag, place, e, hv⟩ := sub_near hx hy
  rw [e] at h ⊢; rw [← hv]; exact write_val _ _ _ h
theorem fmul_num {x y : Nat} (hx : Num x) (hy : Num y) (h1 : -64 ≤ val x * val y) (h2 : val x * val y ≤ 64) : Num (fmul x y) := by
  obtain ⟨neg, mag, place, e, hv⟩ := mul_near hx hy
  rw [e]; exact write_num _ _ _ (by rw [hv]; exact h1) (by rw [hv]; exact h2)
theorem fmul_val {x y : Nat} (hx : Num x) (hy : Num y) (h : Num (fmul x y)) : Nr (val (fmul x y)) (val x * val y) := by
  obtain ⟨neg, mag, place, e, hv⟩ := mul_near hx hy
  rw [e] at h ⊢; rw [← hv]; exact write_val _ _ _ h

/-! What is a number came of numbers -/
theorem num_not_inf {s : Bool} (h : Num (F64.write (.infinity s))) : False := by
  obtain ⟨_, _, _, h⟩ := h
  unfold Ieee.Format.write at h
  simp only [ir] at h
  rw [read_inf] at h
  cases h
theorem num_not_nan (h : Num qnan) : False := by
  obtain ⟨_, _, _, h⟩ := h
  have : F64.read qnan = .nan false 2251799813685249 := by decide +kernel
  rw [this] at h
  cases h

theorem num_of_add {x y : Nat} (h : Num (fadd x y)) : Num x ∧ Num y := by
  unfold fadd Ieee.Format.add at h
  unfold Num
  generalize F64.read x = d at *
  generalize F64.read y = e at *
  cases d <;> cases e <;> simp only [Ieee.Datum.sum, Option.map_none, Option.map_some, Option.getD_none, Option.getD_some] at h <;> first
    | exact ⟨⟨_, _, _, rfl⟩, ⟨_, _, _, rfl⟩⟩
    | exact absurd h num_not_nan
    | exact absurd h num_not_inf
    | (split at h
       · exact absurd h num_not_inf
       · exact absurd h num_not_nan)
theorem num_of_sub {x y : Nat} (h : Num (fsub x y)) : Num x ∧ Num y := by
  unfold fsub Ieee.Format.sub at h
  unfold Num
  generalize F64.read x = d at *
  generalize F64.read y = e at *
  cases d <;> cases e <;> simp only [Ieee.Datum.sum, Ieee.Datum.opposite, Option.map_none, Option.map_some, Option.getD_none, Option.getD_some] at h <;> first
    | exact ⟨⟨_, _, _, rfl⟩, ⟨_, _, _, rfl⟩⟩
    | exact absurd h num_not_nan
    | exact absurd h num_not_inf
    | (split at h
       · exact absurd h num_not_inf
       · exact absurd h num_not_nan)
theorem num_of_square {x : Nat} (h : Num (fmul x x)) : Num x := by
  unfold fmul Ieee.Format.mul at h
  unfold Num
  generalize F64.read x = d at *
  cases d <;> simp only [Ieee.Datum.product, Option.map_none, Option.map_some, Option.getD_none, Option.getD_some] at h <;> first
    | exact ⟨_, _, _, rfl⟩
    | exact absurd h num_not_nan
    | exact absurd h num_not_inf
end Go.Proofs.Ytfeomlbfmbpmaaa.Fl

namespace Go.Proofs.Ytfeomlbfmbpmaaa.Fl

def ev : Rat := 2 ^ (-54 : Int)

theorem quot_err (q D n r : Nat) (h : D = n * q + r) (hr : r < n) :
    ((2 * q + (r != 0).toNat : Nat) : Rat) * n ≤ 2 * D + n ∧ (2 : Rat) * D ≤ ((2 * q + (r != 0).toNat : Nat) : Rat) * n + n := by
  have hb : (r != 0).toNat = 0 ∧ r = 0 ∨ (r != 0).toNat = 1 ∧ 0 < r := by
    rcases Nat.eq_zero_or_pos r with h0 | h0
    · left; subst h0; exact ⟨rfl, rfl⟩
    · right
      have : (r != 0) = true := by simp; omega
      rw [this]; exact ⟨rfl, h0⟩
  have key : (2 * q + (r != 0).toNat) * n ≤ 2 * D + n ∧ 2 * D ≤ (2 * q + (r != 0).toNat) * n + n := by
    rcases hb with ⟨hb, h0⟩ | ⟨hb, h0⟩
    · rw [hb]
      subst h
      subst h0
      rw [Nat.mul_comm n q, Nat.add_mul, Nat.mul_assoc]
      generalize q * n = g
      omega
    · rw [hb]
      subst h
      rw [Nat.mul_comm n q, Nat.add_mul, Nat.mul_assoc]
      generalize q * n = g
      omega
  constructor
  · exact_mod_cast key.1
  · exact_mod_cast key.2

/-- The quotient that is written, times the divisor. -/
theorem div_near {x y : Nat} (hx : Num x) (hy : Num y) (hz : val y ≠ 0) : ∃ neg mag place, fdiv x y = F64.nearest neg mag place ∧
    ∀ B, -B ≤ val x → val x ≤ B → dval (.number neg mag place) * val y ≤ val x + B * ev ∧ val x ≤ dval (.number neg mag place) * val y + B * ev := by
  obtain ⟨s, m, i, hx⟩ := hx
  obtain ⟨t, n, j, hy⟩ := hy
  have hvx : val x = sg s ((m : Rat) * 2 ^ i) := by unfold val; rw [hx, dval_number]
  have hvy : val y = sg t ((n : Rat) * 2 ^ j) := by unfold val; rw [hy, dval_number]
  have hn : n ≠ 0 := by
    intro h0
    subst h0
    apply hz
    rw [hvy]
    have : ((0 : Nat) : Rat) * 2 ^ j = 0 := Rat.zero_mul _
    rw [this]
    cases t <;> simp [sg]
  generalize hmore : 54 + n.log2 - m.log2 = more
  generalize hq : (m <<< more) / n = q
  generalize hr : (m <<< more) % n = r
  refine ⟨s ^^ t, 2 * q + (r != 0).toNat, i - j - more - 1, ?_, ?_⟩
  · unfold fdiv Ieee.Format.div
    have hf : F64.fractionBits + 2 = 54 := by decide +kernel
    rw [hx, hy, hf]
    simp only [Ieee.Datum.quotient, hn, if_false, Option.map_some, Option.getD_some, hmore, hq, hr]
    rfl
  · have hD : m <<< more = n * q + r := by rw [← hq, ← hr]; exact (Nat.div_add_mod _ _).symm
    have hrn : r < n := by rw [← hr]; exact Nat.mod_lt _ (Nat.pos_of_ne_zero hn)
    obtain ⟨k1, k2⟩ := quot_err q (m <<< more) n r hD hrn
    rw [Nat.shiftLeft_eq] at k1 k2
    generalize hQ : 2 * q + (r != 0).toNat = Q at k1 k2 ⊢
    have hpm := p2_pos (i - more - 1)
    have hmr : ((m * 2 ^ more : Nat) : Rat) = (m : Rat) * 2 ^ (more : Int) := by rw [Rat.natCast_mul, p2_nat]
    rw [hmr] at k1 k2
    -- n is small beside the dividend
    have hsmall : (n : Rat) ≤ 2 * ((m : Rat) * 2 ^ (more : Int)) * ev ∨ m = 0 := by
      rcases Nat.eq_zero_or_pos m with h0 | h0
      · right; exact h0
      · left
        have l1 : 2 ^ m.log2 ≤ m := Nat.log2_self_le (by omega)
        have l2 : n < 2 ^ (n.log2 + 1) := Nat.lt_log2_self
        have l3 : 2 ^ (54 + n.log2) ≤ m * 2 ^ more := by
          refine Nat.le_trans ?_ (Nat.mul_le_mul_right _ l1)
          rw [← Nat.pow_add]
          exact Nat.pow_le_pow_right (by decide) (by omega)
        have l4 : 2 ^ (54 + n.log2) = 9007199254740992 * 2 ^ (n.log2 + 1) := by
          rw [show 54 + n.log2 = 53 + (n.log2 + 1) by omega, Nat.pow_add]
        have l5 : 9007199254740992 * n ≤ m * 2 ^ more := by omega
        have l6 : (9007199254740992 : Rat) * n ≤ m * 2 ^ (more : Int) := by rw [← hmr]; exact_mod_cast l5
        have e : ev = 1 / 18014398509481984 := by decide +kernel
        rw [e]
        generalize (m : Rat) * 2 ^ (more : Int) = M at *
        grind
    have hdv : dval (.number (s ^^ t) Q (i - j - more - 1)) * val y = sg s ((Q : Rat) * n * 2 ^ (i - more - 1)) := by
      rw [dval_number, hvy, show (i - more - 1 : Int) = (i - j - more - 1) + j by omega, p2_add]
      generalize (2 : Rat) ^ (i - j - more - 1) = a
      generalize (2 : Rat) ^ j = b
      cases s <;> cases t <;> simp [sg] <;> grind
    have hmi : (m : Rat) * 2 ^ i = 2 * ((m : Rat) * 2 ^ (more : Int)) * 2 ^ (i - more - 1) := by
      have : (2 : Rat) ^ i = 2 ^ (1 : Int) * 2 ^ (more : Int) * 2 ^ (i - more - 1) := by rw [← p2_add, ← p2_add]; congr 1; omega
      have h1 : (2 : Rat) ^ (1 : Int) = 2 := by decide +kernel
      rw [this, h1]
      generalize (2 : Rat) ^ (more : Int) = a
      generalize (2 : Rat) ^ (i - more - 1) = b
      grind
    intro B hB1 hB2
    rw [hdv, hvx, hmi] at *
    generalize (2 : Rat) ^ (i - more - 1) = c at *
    generalize hM : (m : Rat) * 2 ^ (more : Int) = M at *
    have hev : (0 : Rat) < ev := p2_pos _
    have hc := Rat.le_of_lt hpm
    have m1 := Rat.mul_le_mul_of_nonneg_right k1 hc
    have m2 := Rat.mul_le_mul_of_nonneg_right k2 hc
    have hMB : 2 * M * c ≤ B := by
      cases s
      · simpa [sg] using hB2
      · simp [sg] at hB1; grind
    have m3 := Rat.mul_le_mul_of_nonneg_right hMB (Rat.le_of_lt hev)
    rcases hsmall with hs | hs
    · have m4 := Rat.mul_le_mul_of_nonneg_right hs hc
      have e1 : 2 * M * c * ev = 2 * M * ev * c := by grind
      have h1 : (Q : Rat) * n * c ≤ 2 * M * c + B * ev := by grind
      have h2 : 2 * M * c ≤ (Q : Rat) * n * c + B * ev := by grind
      cases s
      · simp only [sg]; exact ⟨h1, h2⟩
      · simp only [sg]; constructor <;> grind
    · subst hs
      have hM0 : M = 0 := by rw [← hM]; exact Rat.zero_mul _
      have hq0 : q = 0 := by rw [← hq]; simp
      have hr0 : r = 0 := by rw [← hr]; simp
      have hQ0 : Q = 0 := by rw [← hQ, hq0, hr0]; rfl
      subst hQ0
      have z : ((0 : Nat) : Rat) * n * c = 0 := by rw [show ((0 : Nat) : Rat) = 0 from rfl]; grind
      have z1 : 2 * M * c = 0 := by rw [hM0]; grind
      rw [z1] at hMB
      have hBe := Rat.mul_nonneg hMB (Rat.le_of_lt hev)
      rw [z, z1]
      generalize B * ev = g at hBe
      cases s
      · simp only [sg, Bool.false_eq_true, if_false]; constructor <;> grind
      · simp only [sg, if_true]; constructor <;> grind

/-! The order -/
theorem ord_val {x y : Nat} (hx : Num x) (hy : Num y) : ∃ a b : Int, ford x y = some (compare a b) ∧ (a < b ↔ val x < val y) ∧ (a = b ↔ val x = val y) := by
  obtain ⟨s, m, i, hx⟩ := hx
  obtain ⟨t, n, j, hy⟩ := hy
  refine ⟨Ieee.signed s m (i - min i j).toNat, Ieee.signed t n (j - min i j).toNat, ?_, ?_, ?_⟩
  · unfold ford Ieee.Format.order
    rw [hx, hy]
    rfl
  all_goals
    have hvx : val x = (Ieee.signed s m (i - min i j).toNat : Int) * 2 ^ (min i j) := by unfold val; rw [hx, dval_number, signed_val s m i _ (by omega)]
    have hvy : val y = (Ieee.signed t n (j - min i j).toNat : Int) * 2 ^ (min i j) := by unfold val; rw [hy, dval_number, signed_val t n j _ (by omega)]
    rw [hvx, hvy]
    have hp := p2_pos (min i j)
    generalize (2 : Rat) ^ (min i j) = p at *
    generalize Ieee.signed s m _ = a
    generalize Ieee.signed t n _ = b
  · rw [← Rat.intCast_lt_intCast]
    exact ⟨fun h => Rat.mul_lt_mul_of_pos_right h hp, fun h => Rat.lt_of_mul_lt_mul_right h (Rat.le_of_lt hp)⟩
  · constructor
    · intro h; rw [h]
    · intro h
      have h2 : ((a : Int) : Rat) = b := by
        have hne : p ≠ 0 := by grind
        have e1 : (a : Rat) * p * p⁻¹ = b * p * p⁻¹ := by rw [h]
        rwa [Rat.mul_assoc, Rat.mul_assoc, Rat.mul_inv_cancel p hne, Rat.mul_one, Rat.mul_one] at e1
      exact_mod_cast h2

theorem lt_val {x y : Nat} (hx : Num x) (hy : Num y) : (ford x y == some .lt) = decide (val x < val y) := by
  obtain ⟨a, b, h, h1, h2⟩ := ord_val hx hy
  rw [h]
  by_cases hl : a < b
  · rw [Int.compare_eq_lt.2 hl, decide_eq_true (h1.1 hl)]; rfl
  · rw [decide_eq_false (fun hh => hl (h1.2 hh))]
    have : compare a b ≠ .lt := fun hh => hl (Int.compare_eq_lt.1 hh)
    simpa using this

theorem gt_val {x y : Nat} (hx : Num x) (hy : Num y) : (ford x y == some .gt) = decide (val y < val x) := by
  obtain ⟨a, b, h, h1, h2⟩ := ord_val hx hy
  rw [h]
  by_cases hl : b < a
  · rw [Int.compare_eq_gt.2 hl]
    have : val y < val x := by
      have n1 : ¬ val x < val y := fun hh => by have := h1.2 hh; omega
      have n2 : ¬ val x = val y := fun hh => by have := h2.2 hh; omega
      grind
    rw [decide_eq_true this]; rfl
  · have : ¬ val y < val x := by
      intro hh
      have n1 : ¬ a < b := fun k => by have := h1.1 k; grind
      have n2 : ¬ a = b := fun k => by have := h2.1 k; grind
      omega
    rw [decide_eq_false this]
    have : compare a b ≠ .gt := fun hh => hl (Int.compare_eq_gt.1 hh)
    simpa using this
end Go.Proofs.Ytfeomlbfmbpmaaa.Fl
