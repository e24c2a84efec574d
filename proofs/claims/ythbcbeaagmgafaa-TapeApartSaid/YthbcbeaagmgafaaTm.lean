/- Package tape: the walk of TapeApart where there is a place. -/
import Derived.Test.YthbcbeaagmgafaaRows
import Derived.Test.YthbcbeaagmgafaaTl
namespace Go.Proofs.Ythbcbeaagmgafaa
open Go.RowKit Fl

set_option maxRecDepth 100000 in
set_option maxHeartbeats 40000000 in
theorem apart_go (x h s d a b c k a2 b2 c2 k2 : Int) (n e sl p1 q1 p2 q2 p3 A : Int) (w : World) (e0 : (a < 0) = False) (e1 : (b < 0) = False) (e2 : (c < 0) = False) (e3 : (k < 0) = False) (e4 : (8192 < a) = False) (e5 : (8192 < b) = False) (e6 : (65536 < c) = False) (e7 : (516 < k) = False) (e8 : (x < 0) = False) (e9 : (8192 < x) = False) (e10 : (s < 0) = False) (e11 : (65536 < s) = False) (e12 : (d < 0) = False) (e13 : (64 < d) = False)
    (HM : Hid (∀ w, Calls Try.prog 17 #[.int .i64 x, .int .i64 h, .int .i64 s, .int .i64 d] w fun e' w' => e' = .returned (.tuple #[.int .i64 n, .int .i64 e]) ∧ w' = w))
    (HA : Hid (∀ w, Ret Try.prog 20 #[.int .i64 x, .int .i64 s, .int .i64 d, .int .i64 a, .int .i64 b, .int .i64 c, .int .i64 k] w (fun v => v = .int .i64 A)))
    (HR : Hid (∀ w, Ret Try.prog 19 #[.int .i64 d] w (fun v => v = .int .i64 sl)))
    (w1 : IntKind.i64.wrap (b * x) = p1) (w2 : IntKind.i64.wrap (p1 + a) = q1) (w3 : IntKind.i64.wrap (q1 * s) = p2) (w4 : IntKind.i64.wrap (p2 + c) = q2) (w5 : IntKind.i64.wrap (q2 * sl) = p3) (w6 : IntKind.i64.wrap (p3 + k) = A)
    (HN : Hid (e = 0 → a < x → b < h → c < s → k < sl → A < n))
    (HB2 : Hid (e = 0 → a < x → b < h → c < s → k < sl → 0 ≤ a2 → a2 < x → 0 ≤ b2 → b2 < h → 0 ≤ c2 → c2 < s → 0 ≤ k2 → k2 < sl → ∃ B, (∀ w, Ret Try.prog 20 #[.int .i64 x, .int .i64 s, .int .i64 d, .int .i64 a2, .int .i64 b2, .int .i64 c2, .int .i64 k2] w (fun v => v = .int .i64 B)) ∧ (A = B ↔ a = a2 ∧ b = b2 ∧ c = c2 ∧ k = k2))) :
    Ret Try.prog 6 #[.agg #[.int .i64 x, .int .i64 h, .int .i64 s, .int .i64 d, .int .i64 a, .int .i64 b, .int .i64 c, .int .i64 k, .int .i64 a2, .int .i64 b2, .int .i64 c2, .int .i64 k2]] w (fun v => v = .bool true) := by
  unfold Ret
  go_enter Try.func6, Try.ntmps6
  go_wp2_with fail
  refine Lp.settleC (fun w' => Lp.Bk w' (w.heap.size) #[.int .i64 x, .int .i64 h, .int .i64 s, .int .i64 d, .int .i64 a, .int .i64 b, .int .i64 c, .int .i64 k, .int .i64 a2, .int .i64 b2, .int .i64 c2, .int .i64 k2] 43 ∧ Cl w w') ⟨(Lp.Bk.al _ _ _), (Below.refl _ _).alloc (by simp <;> omega) _⟩ ?_
  rintro v1 ⟨BQ, HB⟩
  have kQ := BQ.cell
  refine Calls.mono (HM.out _) ?_
  rintro e w' ⟨rfl, hw⟩
  obtain rfl := hw.symm
  clear hw
  go_wp2_with fail
  refine Calls.mono (HA.out _) ?_
  rintro e v2 ⟨v, rfl, rfl, hm⟩
  clear kQ
  replace BQ := BQ.keep hm
  replace HB := HB.call hm
  clear hm
  have kQ := BQ.cell
  go_wp2_with fail
  clear e0 e1 e2 e3 e4 e5 e6 e7 e8 e9 e10 e11 e12 e13
  apply Lp.wp_region_loose _ _ 23 (by kernel_rfl) (by kernel_rfl) (by kernel_rfl) (Below.refl _ _)
  apply Lp.facts
  · intro w1 hw
    exact (BQ.cl hw).cell
  intro HF
  iterate 17 (
    apply Lp.one ?_ rfl
    · intro w hw
      have k0 := HF.out _ hw
      go_simp
      exact rfl
    intro K hK
    go_simp
    refine hK.out _ ?_
    clear hK K)
  apply Lp.any rfl
  · intro w hw
    go_simp
    exact Lp.ret (HR.out _)
  intro K hK
  rintro v rfl
  go_simp
  refine hK.out _ ?_
  clear hK K
  iterate 5 (
    apply Lp.one ?_ rfl
    · intro w hw
      have k0 := HF.out _ hw
      go_simp
      exact rfl
    intro K hK
    go_simp
    refine hK.out _ ?_
    clear hK K)
  rotate_left
  exact []
  intro v3 hm
  clear kQ
  replace BQ := BQ.keep hm
  replace HB := HB.call hm
  clear hm
  have kQ := BQ.cell
  go_wp2_with fail
  clear w1 w2 w3 w4 w5 w6
  by_cases g0 : e ≠ 0
  · have f0 : (e = 0) = False := eq_false g0
    have f0b : (e == 0) = false := beq_eq_false_iff_ne.2 g0
    have f0c : (e != 0) = true := bne_iff_ne.2 g0
    apply Lp.wp_region_loose _ _ 31 (by kernel_rfl) (by kernel_rfl) (by kernel_rfl) (Below.refl _ _)
    apply Lp.facts
    · intro w1 hw
      exact (BQ.cl hw).cell
    intro HF
    iterate 3 (
      apply Lp.one ?_ rfl
      · intro w hw
        have k0 := HF.out _ hw
        go_simp
        exact rfl
      intro K hK
      go_simp
      refine hK.out _ ?_
      clear hK K)
    apply Lp.skip (kd := none) rfl
    intro K hK
    go_simp
    refine hK.out _ ?_
    clear hK K
    apply Lp.skip (kd := none) rfl
    intro K hK
    go_simp
    refine hK.out _ ?_
    clear hK K
    apply Lp.skip (kd := none) rfl
    intro K hK
    go_simp
    refine hK.out _ ?_
    clear hK K
    apply Lp.skip (kd := none) rfl
    intro K hK
    go_simp
    refine hK.out _ ?_
    clear hK K
    apply Lp.skip (kd := none) rfl
    intro K hK
    go_simp
    refine hK.out _ ?_
    clear hK K
    iterate 2 (
      apply Lp.one ?_ rfl
      · intro w hw
        have k0 := HF.out _ hw
        go_simp
        exact rfl
      intro K hK
      go_simp
      refine hK.out _ ?_
      clear hK K)
    apply Lp.skip (kd := none) rfl
    intro K hK
    go_simp
    refine hK.out _ ?_
    clear hK K
    apply Lp.skip (kd := none) rfl
    intro K hK
    go_simp
    refine hK.out _ ?_
    clear hK K
    apply Lp.skip (kd := none) rfl
    intro K hK
    go_simp
    refine hK.out _ ?_
    clear hK K
    apply Lp.skip (kd := none) rfl
    intro K hK
    go_simp
    refine hK.out _ ?_
    clear hK K
    apply Lp.skip (kd := none) rfl
    intro K hK
    go_simp
    refine hK.out _ ?_
    clear hK K
    iterate 2 (
      apply Lp.one ?_ rfl
      · intro w hw
        have k0 := HF.out _ hw
        go_simp
        exact rfl
      intro K hK
      go_simp
      refine hK.out _ ?_
      clear hK K)
    apply Lp.skip (kd := none) rfl
    intro K hK
    go_simp
    refine hK.out _ ?_
    clear hK K
    apply Lp.skip (kd := none) rfl
    intro K hK
    go_simp
    refine hK.out _ ?_
    clear hK K
    apply Lp.skip (kd := none) rfl
    intro K hK
    go_simp
    refine hK.out _ ?_
    clear hK K
    apply Lp.skip (kd := none) rfl
    intro K hK
    go_simp
    refine hK.out _ ?_
    clear hK K
    apply Lp.skip (kd := none) rfl
    intro K hK
    go_simp
    refine hK.out _ ?_
    clear hK K
    iterate 2 (
      apply Lp.one ?_ rfl
      · intro w hw
        have k0 := HF.out _ hw
        go_simp
        exact rfl
      intro K hK
      go_simp
      refine hK.out _ ?_
      clear hK K)
    apply Lp.skip (kd := none) rfl
    intro K hK
    go_simp
    refine hK.out _ ?_
    clear hK K
    apply Lp.skip (kd := none) rfl
    intro K hK
    go_simp
    refine hK.out _ ?_
    clear hK K
    apply Lp.skip (kd := none) rfl
    intro K hK
    go_simp
    refine hK.out _ ?_
    clear hK K
    apply Lp.skip (kd := none) rfl
    intro K hK
    go_simp
    refine hK.out _ ?_
    clear hK K
    apply Lp.skip (kd := none) rfl
    intro K hK
    go_simp
    refine hK.out _ ?_
    clear hK K
    apply Lp.skip (kd := none) rfl
    intro K hK
    go_simp
    refine hK.out _ ?_
    clear hK K
    iterate 1 (
      apply Lp.one ?_ rfl
      · intro w hw
        have k0 := HF.out _ hw
        go_simp
        exact rfl
      intro K hK
      go_simp
      refine hK.out _ ?_
      clear hK K)
    rotate_left
    exact []
    intro v4 hm
    clear kQ
    replace BQ := BQ.keep hm
    replace HB := HB.call hm
    clear hm
    have kQ := BQ.cell
    go_wp2_with fail
    refine Calls.mono (awake_any _) ?_
    rintro e v5 ⟨v, rfl, rfl, hm⟩
    clear kQ
    replace BQ := BQ.keep hm
    replace HB := HB.call hm
    clear hm
    have kQ := BQ.cell
    go_wp2_with fail
    go_ret
    exact ⟨_, rfl, rfl, HB⟩
  have f0 : (e = 0) = True := eq_true (by omega)
  have f0b : (e == 0) = true := beq_iff_eq.2 (by omega)
  have f0c : (e != 0) = false := bne_eq_false_iff_eq.2 (by omega)
  by_cases g1 : x ≤ a
  · have f1 : (x ≤ a) = True := eq_true g1
    apply Lp.wp_region_loose _ _ 31 (by kernel_rfl) (by kernel_rfl) (by kernel_rfl) (Below.refl _ _)
    apply Lp.facts
    · intro w1 hw
      exact (BQ.cl hw).cell
    intro HF
    iterate 10 (
      apply Lp.one ?_ rfl
      · intro w hw
        have k0 := HF.out _ hw
        go_simp
        exact rfl
      intro K hK
      go_simp
      refine hK.out _ ?_
      clear hK K)
    apply Lp.skip (kd := none) rfl
    intro K hK
    go_simp
    refine hK.out _ ?_
    clear hK K
    apply Lp.skip (kd := none) rfl
    intro K hK
    go_simp
    refine hK.out _ ?_
    clear hK K
    apply Lp.skip (kd := none) rfl
    intro K hK
    go_simp
    refine hK.out _ ?_
    clear hK K
    apply Lp.skip (kd := none) rfl
    intro K hK
    go_simp
    refine hK.out _ ?_
    clear hK K
    apply Lp.skip (kd := none) rfl
    intro K hK
    go_simp
    refine hK.out _ ?_
    clear hK K
    iterate 2 (
      apply Lp.one ?_ rfl
      · intro w hw
        have k0 := HF.out _ hw
        go_simp
        exact rfl
      intro K hK
      go_simp
      refine hK.out _ ?_
      clear hK K)
    apply Lp.skip (kd := none) rfl
    intro K hK
    go_simp
    refine hK.out _ ?_
    clear hK K
    apply Lp.skip (kd := none) rfl
    intro K hK
    go_simp
    refine hK.out _ ?_
    clear hK K
    apply Lp.skip (kd := none) rfl
    intro K hK
    go_simp
    refine hK.out _ ?_
    clear hK K
    apply Lp.skip (kd := none) rfl
    intro K hK
    go_simp
    refine hK.out _ ?_
    clear hK K
    apply Lp.skip (kd := none) rfl
    intro K hK
    go_simp
    refine hK.out _ ?_
    clear hK K
    iterate 2 (
      apply Lp.one ?_ rfl
      · intro w hw
        have k0 := HF.out _ hw
        go_simp
        exact rfl
      intro K hK
      go_simp
      refine hK.out _ ?_
      clear hK K)
    apply Lp.skip (kd := none) rfl
    intro K hK
    go_simp
    refine hK.out _ ?_
    clear hK K
    apply Lp.skip (kd := none) rfl
    intro K hK
    go_simp
    refine hK.out _ ?_
    clear hK K
    apply Lp.skip (kd := none) rfl
    intro K hK
    go_simp
    refine hK.out _ ?_
    clear hK K
    apply Lp.skip (kd := none) rfl
    intro K hK
    go_simp
    refine hK.out _ ?_
    clear hK K
    apply Lp.skip (kd := none) rfl
    intro K hK
    go_simp
    refine hK.out _ ?_
    clear hK K
    apply Lp.skip (kd := none) rfl
    intro K hK
    go_simp
    refine hK.out _ ?_
    clear hK K
    iterate 1 (
      apply Lp.one ?_ rfl
      · intro w hw
        have k0 := HF.out _ hw
        go_simp
        exact rfl
      intro K hK
      go_simp
      refine hK.out _ ?_
      clear hK K)
    rotate_left
    exact []
    intro v4 hm
    clear kQ
    replace BQ := BQ.keep hm
    replace HB := HB.call hm
    clear hm
    have kQ := BQ.cell
    go_wp2_with fail
    refine Calls.mono (awake_any _) ?_
    rintro e v5 ⟨v, rfl, rfl, hm⟩
    clear kQ
    replace BQ := BQ.keep hm
    replace HB := HB.call hm
    clear hm
    have kQ := BQ.cell
    go_wp2_with fail
    go_ret
    exact ⟨_, rfl, rfl, HB⟩
  have f1 : (x ≤ a) = False := eq_false g1
  by_cases g2 : h ≤ b
  · have f2 : (h ≤ b) = True := eq_true g2
    apply Lp.wp_region_loose _ _ 31 (by kernel_rfl) (by kernel_rfl) (by kernel_rfl) (Below.refl _ _)
    apply Lp.facts
    · intro w1 hw
      exact (BQ.cl hw).cell
    intro HF
    iterate 17 (
      apply Lp.one ?_ rfl
      · intro w hw
        have k0 := HF.out _ hw
        go_simp
        exact rfl
      intro K hK
      go_simp
      refine hK.out _ ?_
      clear hK K)
    apply Lp.skip (kd := none) rfl
    intro K hK
    go_simp
    refine hK.out _ ?_
    clear hK K
    apply Lp.skip (kd := none) rfl
    intro K hK
    go_simp
    refine hK.out _ ?_
    clear hK K
    apply Lp.skip (kd := none) rfl
    intro K hK
    go_simp
    refine hK.out _ ?_
    clear hK K
    apply Lp.skip (kd := none) rfl
    intro K hK
    go_simp
    refine hK.out _ ?_
    clear hK K
    apply Lp.skip (kd := none) rfl
    intro K hK
    go_simp
    refine hK.out _ ?_
    clear hK K
    iterate 2 (
      apply Lp.one ?_ rfl
      · intro w hw
        have k0 := HF.out _ hw
        go_simp
        exact rfl
      intro K hK
      go_simp
      refine hK.out _ ?_
      clear hK K)
    apply Lp.skip (kd := none) rfl
    intro K hK
    go_simp
    refine hK.out _ ?_
    clear hK K
    apply Lp.skip (kd := none) rfl
    intro K hK
    go_simp
    refine hK.out _ ?_
    clear hK K
    apply Lp.skip (kd := none) rfl
    intro K hK
    go_simp
    refine hK.out _ ?_
    clear hK K
    apply Lp.skip (kd := none) rfl
    intro K hK
    go_simp
    refine hK.out _ ?_
    clear hK K
    apply Lp.skip (kd := none) rfl
    intro K hK
    go_simp
    refine hK.out _ ?_
    clear hK K
    apply Lp.skip (kd := none) rfl
    intro K hK
    go_simp
    refine hK.out _ ?_
    clear hK K
    iterate 1 (
      apply Lp.one ?_ rfl
      · intro w hw
        have k0 := HF.out _ hw
        go_simp
        exact rfl
      intro K hK
      go_simp
      refine hK.out _ ?_
      clear hK K)
    rotate_left
    exact []
    intro v4 hm
    clear kQ
    replace BQ := BQ.keep hm
    replace HB := HB.call hm
    clear hm
    have kQ := BQ.cell
    go_wp2_with fail
    refine Calls.mono (awake_any _) ?_
    rintro e v5 ⟨v, rfl, rfl, hm⟩
    clear kQ
    replace BQ := BQ.keep hm
    replace HB := HB.call hm
    clear hm
    have kQ := BQ.cell
    go_wp2_with fail
    go_ret
    exact ⟨_, rfl, rfl, HB⟩
  have f2 : (h ≤ b) = False := eq_false g2
  by_cases g3 : s ≤ c
  · have f3 : (s ≤ c) = True := eq_true g3
    apply Lp.wp_region_loose _ _ 31 (by kernel_rfl) (by kernel_rfl) (by kernel_rfl) (Below.refl _ _)
    apply Lp.facts
    · intro w1 hw
      exact (BQ.cl hw).cell
    intro HF
    iterate 24 (
      apply Lp.one ?_ rfl
      · intro w hw
        have k0 := HF.out _ hw
        go_simp
        exact rfl
      intro K hK
      go_simp
      refine hK.out _ ?_
      clear hK K)
    apply Lp.skip (kd := none) rfl
    intro K hK
    go_simp
    refine hK.out _ ?_
    clear hK K
    apply Lp.skip (kd := none) rfl
    intro K hK
    go_simp
    refine hK.out _ ?_
    clear hK K
    apply Lp.skip (kd := none) rfl
    intro K hK
    go_simp
    refine hK.out _ ?_
    clear hK K
    apply Lp.skip (kd := none) rfl
    intro K hK
    go_simp
    refine hK.out _ ?_
    clear hK K
    apply Lp.skip (kd := none) rfl
    intro K hK
    go_simp
    refine hK.out _ ?_
    clear hK K
    apply Lp.skip (kd := none) rfl
    intro K hK
    go_simp
    refine hK.out _ ?_
    clear hK K
    iterate 1 (
      apply Lp.one ?_ rfl
      · intro w hw
        have k0 := HF.out _ hw
        go_simp
        exact rfl
      intro K hK
      go_simp
      refine hK.out _ ?_
      clear hK K)
    rotate_left
    exact []
    intro v4 hm
    clear kQ
    replace BQ := BQ.keep hm
    replace HB := HB.call hm
    clear hm
    have kQ := BQ.cell
    go_wp2_with fail
    refine Calls.mono (awake_any _) ?_
    rintro e v5 ⟨v, rfl, rfl, hm⟩
    clear kQ
    replace BQ := BQ.keep hm
    replace HB := HB.call hm
    clear hm
    have kQ := BQ.cell
    go_wp2_with fail
    go_ret
    exact ⟨_, rfl, rfl, HB⟩
  have f3 : (s ≤ c) = False := eq_false g3
  by_cases g4 : sl ≤ k
  · have f4 : (sl ≤ k) = True := eq_true g4
    apply Lp.wp_region_loose _ _ 31 (by kernel_rfl) (by kernel_rfl) (by kernel_rfl) (Below.refl _ _)
    apply Lp.facts
    · intro w1 hw
      exact (BQ.cl hw).cell
    intro HF
    iterate 28 (
      apply Lp.one ?_ rfl
      · intro w hw
        have k0 := HF.out _ hw
        go_simp
        exact rfl
      intro K hK
      go_simp
      refine hK.out _ ?_
      clear hK K)
    apply Lp.any rfl
    · intro w hw
      go_simp
      exact Lp.ret (HR.out _)
    intro K hK
    rintro v rfl
    go_simp
    refine hK.out _ ?_
    clear hK K
    iterate 2 (
      apply Lp.one ?_ rfl
      · intro w hw
        have k0 := HF.out _ hw
        go_simp
        exact rfl
      intro K hK
      go_simp
      refine hK.out _ ?_
      clear hK K)
    rotate_left
    exact []
    intro v4 hm
    clear kQ
    replace BQ := BQ.keep hm
    replace HB := HB.call hm
    clear hm
    have kQ := BQ.cell
    go_wp2_with fail
    refine Calls.mono (awake_any _) ?_
    rintro e v5 ⟨v, rfl, rfl, hm⟩
    clear kQ
    replace BQ := BQ.keep hm
    replace HB := HB.call hm
    clear hm
    have kQ := BQ.cell
    go_wp2_with fail
    go_ret
    exact ⟨_, rfl, rfl, HB⟩
  have f4 : (sl ≤ k) = False := eq_false g4
  apply Lp.wp_region_loose _ _ 31 (by kernel_rfl) (by kernel_rfl) (by kernel_rfl) (Below.refl _ _)
  apply Lp.facts
  · intro w1 hw
    exact (BQ.cl hw).cell
  intro HF
  iterate 28 (
    apply Lp.one ?_ rfl
    · intro w hw
      have k0 := HF.out _ hw
      go_simp
      exact rfl
    intro K hK
    go_simp
    refine hK.out _ ?_
    clear hK K)
  apply Lp.any rfl
  · intro w hw
    go_simp
    exact Lp.ret (HR.out _)
  intro K hK
  rintro v rfl
  go_simp
  refine hK.out _ ?_
  clear hK K
  iterate 2 (
    apply Lp.one ?_ rfl
    · intro w hw
      have k0 := HF.out _ hw
      go_simp
      exact rfl
    intro K hK
    go_simp
    refine hK.out _ ?_
    clear hK K)
  rotate_left
  exact []
  intro v4 hm
  clear kQ
  replace BQ := BQ.keep hm
  replace HB := HB.call hm
  clear hm
  have kQ := BQ.cell
  go_wp2_with fail
  have hA : (A < n) = True := eq_true (HN.out (by omega) (by omega) (by omega) (by omega) (by omega))
  by_cases kk0 : a2 < 0
  · have m0 : (a2 < 0) = True := eq_true kk0
    apply Lp.wp_region_loose _ _ 47 (by kernel_rfl) (by kernel_rfl) (by kernel_rfl) (Below.refl _ _)
    apply Lp.facts
    · intro w1 hw
      exact (BQ.cl hw).cell
    intro HF
    iterate 4 (
      apply Lp.one ?_ rfl
      · intro w hw
        have k0 := HF.out _ hw
        go_simp
        exact rfl
      intro K hK
      go_simp
      refine hK.out _ ?_
      clear hK K)
    apply Lp.skip (kd := none) rfl
    intro K hK
    go_simp
    refine hK.out _ ?_
    clear hK K
    apply Lp.skip (kd := none) rfl
    intro K hK
    go_simp
    refine hK.out _ ?_
    clear hK K
    apply Lp.skip (kd := none) rfl
    intro K hK
    go_simp
    refine hK.out _ ?_
    clear hK K
    apply Lp.skip (kd := none) rfl
    intro K hK
    go_simp
    refine hK.out _ ?_
    clear hK K
    apply Lp.skip (kd := none) rfl
    intro K hK
    go_simp
    refine hK.out _ ?_
    clear hK K
    iterate 2 (
      apply Lp.one ?_ rfl
      · intro w hw
        have k0 := HF.out _ hw
        go_simp
        exact rfl
      intro K hK
      go_simp
      refine hK.out _ ?_
      clear hK K)
    apply Lp.skip (kd := none) rfl
    intro K hK
    go_simp
    refine hK.out _ ?_
    clear hK K
    apply Lp.skip (kd := none) rfl
    intro K hK
    go_simp
    refine hK.out _ ?_
    clear hK K
    apply Lp.skip (kd := none) rfl
    intro K hK
    go_simp
    refine hK.out _ ?_
    clear hK K
    iterate 2 (
      apply Lp.one ?_ rfl
      · intro w hw
        have k0 := HF.out _ hw
        go_simp
        exact rfl
      intro K hK
      go_simp
      refine hK.out _ ?_
      clear hK K)
    apply Lp.skip (kd := none) rfl
    intro K hK
    go_simp
    refine hK.out _ ?_
    clear hK K
    apply Lp.skip (kd := none) rfl
    intro K hK
    go_simp
    refine hK.out _ ?_
    clear hK K
    apply Lp.skip (kd := none) rfl
    intro K hK
    go_simp
    refine hK.out _ ?_
    clear hK K
    apply Lp.skip (kd := none) rfl
    intro K hK
    go_simp
    refine hK.out _ ?_
    clear hK K
    apply Lp.skip (kd := none) rfl
    intro K hK
    go_simp
    refine hK.out _ ?_
    clear hK K
    iterate 2 (
      apply Lp.one ?_ rfl
      · intro w hw
        have k0 := HF.out _ hw
        go_simp
        exact rfl
      intro K hK
      go_simp
      refine hK.out _ ?_
      clear hK K)
    apply Lp.skip (kd := none) rfl
    intro K hK
    go_simp
    refine hK.out _ ?_
    clear hK K
    apply Lp.skip (kd := none) rfl
    intro K hK
    go_simp
    refine hK.out _ ?_
    clear hK K
    apply Lp.skip (kd := none) rfl
    intro K hK
    go_simp
    refine hK.out _ ?_
    clear hK K
    iterate 2 (
      apply Lp.one ?_ rfl
      · intro w hw
        have k0 := HF.out _ hw
        go_simp
        exact rfl
      intro K hK
      go_simp
      refine hK.out _ ?_
      clear hK K)
    apply Lp.skip (kd := none) rfl
    intro K hK
    go_simp
    refine hK.out _ ?_
    clear hK K
    apply Lp.skip (kd := none) rfl
    intro K hK
    go_simp
    refine hK.out _ ?_
    clear hK K
    apply Lp.skip (kd := none) rfl
    intro K hK
    go_simp
    refine hK.out _ ?_
    clear hK K
    apply Lp.skip (kd := none) rfl
    intro K hK
    go_simp
    refine hK.out _ ?_
    clear hK K
    apply Lp.skip (kd := none) rfl
    intro K hK
    go_simp
    refine hK.out _ ?_
    clear hK K
    iterate 2 (
      apply Lp.one ?_ rfl
      · intro w hw
        have k0 := HF.out _ hw
        go_simp
        exact rfl
      intro K hK
      go_simp
      refine hK.out _ ?_
      clear hK K)
    apply Lp.skip (kd := none) rfl
    intro K hK
    go_simp
    refine hK.out _ ?_
    clear hK K
    apply Lp.skip (kd := none) rfl
    intro K hK
    go_simp
    refine hK.out _ ?_
    clear hK K
    apply Lp.skip (kd := none) rfl
    intro K hK
    go_simp
    refine hK.out _ ?_
    clear hK K
    iterate 2 (
      apply Lp.one ?_ rfl
      · intro w hw
        have k0 := HF.out _ hw
        go_simp
        exact rfl
      intro K hK
      go_simp
      refine hK.out _ ?_
      clear hK K)
    apply Lp.skip (kd := none) rfl
    intro K hK
    go_simp
    refine hK.out _ ?_
    clear hK K
    apply Lp.skip (kd := none) rfl
    intro K hK
    go_simp
    refine hK.out _ ?_
    clear hK K
    apply Lp.skip (kd := none) rfl
    intro K hK
    go_simp
    refine hK.out _ ?_
    clear hK K
    apply Lp.skip (kd := none) rfl
    intro K hK
    go_simp
    refine hK.out _ ?_
    clear hK K
    apply Lp.skip (kd := none) rfl
    intro K hK
    go_simp
    refine hK.out _ ?_
    clear hK K
    apply Lp.skip (kd := none) rfl
    intro K hK
    go_simp
    refine hK.out _ ?_
    clear hK K
    iterate 1 (
      apply Lp.one ?_ rfl
      · intro w hw
        have k0 := HF.out _ hw
        go_simp
        exact rfl
      intro K hK
      go_simp
      refine hK.out _ ?_
      clear hK K)
    rotate_left
    exact []
    intro v5 hm
    clear kQ
    replace BQ := BQ.keep hm
    replace HB := HB.call hm
    clear hm
    have kQ := BQ.cell
    go_wp2_with fail
    refine Calls.mono (awake_any _) ?_
    rintro e v6 ⟨v, rfl, rfl, hm⟩
    clear kQ
    replace BQ := BQ.keep hm
    replace HB := HB.call hm
    clear hm
    have kQ := BQ.cell
    go_wp2_with fail
    go_ret
    exact ⟨_, rfl, rfl, HB⟩
  have m0 : (a2 < 0) = False := eq_false kk0
  by_cases kk1 : x ≤ a2
  · have m1 : (x ≤ a2) = True := eq_true kk1
    apply Lp.wp_region_loose _ _ 47 (by kernel_rfl) (by kernel_rfl) (by kernel_rfl) (Below.refl _ _)
    apply Lp.facts
    · intro w1 hw
      exact (BQ.cl hw).cell
    intro HF
    iterate 11 (
      apply Lp.one ?_ rfl
      · intro w hw
        have k0 := HF.out _ hw
        go_simp
        exact rfl
      intro K hK
      go_simp
      refine hK.out _ ?_
      clear hK K)
    apply Lp.skip (kd := none) rfl
    intro K hK
    go_simp
    refine hK.out _ ?_
    clear hK K
    apply Lp.skip (kd := none) rfl
    intro K hK
    go_simp
    refine hK.out _ ?_
    clear hK K
    apply Lp.skip (kd := none) rfl
    intro K hK
    go_simp
    refine hK.out _ ?_
    clear hK K
    iterate 2 (
      apply Lp.one ?_ rfl
      · intro w hw
        have k0 := HF.out _ hw
        go_simp
        exact rfl
      intro K hK
      go_simp
      refine hK.out _ ?_
      clear hK K)
    apply Lp.skip (kd := none) rfl
    intro K hK
    go_simp
    refine hK.out _ ?_
    clear hK K
    apply Lp.skip (kd := none) rfl
    intro K hK
    go_simp
    refine hK.out _ ?_
    clear hK K
    apply Lp.skip (kd := none) rfl
    intro K hK
    go_simp
    refine hK.out _ ?_
    clear hK K
    apply Lp.skip (kd := none) rfl
    intro K hK
    go_simp
    refine hK.out _ ?_
    clear hK K
    apply Lp.skip (kd := none) rfl
    intro K hK
    go_simp
    refine hK.out _ ?_
    clear hK K
    iterate 2 (
      apply Lp.one ?_ rfl
      · intro w hw
        have k0 := HF.out _ hw
        go_simp
        exact rfl
      intro K hK
      go_simp
      refine hK.out _ ?_
      clear hK K)
    apply Lp.skip (kd := none) rfl
    intro K hK
    go_simp
    refine hK.out _ ?_
    clear hK K
    apply Lp.skip (kd := none) rfl
    intro K hK
    go_simp
    refine hK.out _ ?_
    clear hK K
    apply Lp.skip (kd := none) rfl
    intro K hK
    go_simp
    refine hK.out _ ?_
    clear hK K
    iterate 2 (
      apply Lp.one ?_ rfl
      · intro w hw
        have k0 := HF.out _ hw
        go_simp
        exact rfl
      intro K hK
      go_simp
      refine hK.out _ ?_
      clear hK K)
    apply Lp.skip (kd := none) rfl
    intro K hK
    go_simp
    refine hK.out _ ?_
    clear hK K
    apply Lp.skip (kd := none) rfl
    intro K hK
    go_simp
    refine hK.out _ ?_
    clear hK K
    apply Lp.skip (kd := none) rfl
    intro K hK
    go_simp
    refine hK.out _ ?_
    clear hK K
    apply Lp.skip (kd := none) rfl
    intro K hK
    go_simp
    refine hK.out _ ?_
    clear hK K
    apply Lp.skip (kd := none) rfl
    intro K hK
    go_simp
    refine hK.out _ ?_
    clear hK K
    iterate 2 (
      apply Lp.one ?_ rfl
      · intro w hw
        have k0 := HF.out _ hw
        go_simp
        exact rfl
      intro K hK
      go_simp
      refine hK.out _ ?_
      clear hK K)
    apply Lp.skip (kd := none) rfl
    intro K hK
    go_simp
    refine hK.out _ ?_
    clear hK K
    apply Lp.skip (kd := none) rfl
    intro K hK
    go_simp
    refine hK.out _ ?_
    clear hK K
    apply Lp.skip (kd := none) rfl
    intro K hK
    go_simp
    refine hK.out _ ?_
    clear hK K
    iterate 2 (
      apply Lp.one ?_ rfl
      · intro w hw
        have k0 := HF.out _ hw
        go_simp
        exact rfl
      intro K hK
      go_simp
      refine hK.out _ ?_
      clear hK K)
    apply Lp.skip (kd := none) rfl
    intro K hK
    go_simp
    refine hK.out _ ?_
    clear hK K
    apply Lp.skip (kd := none) rfl
    intro K hK
    go_simp
    refine hK.out _ ?_
    clear hK K
    apply Lp.skip (kd := none) rfl
    intro K hK
    go_simp
    refine hK.out _ ?_
    clear hK K
    apply Lp.skip (kd := none) rfl
    intro K hK
    go_simp
    refine hK.out _ ?_
    clear hK K
    apply Lp.skip (kd := none) rfl
    intro K hK
    go_simp
    refine hK.out _ ?_
    clear hK K
    apply Lp.skip (kd := none) rfl
    intro K hK
    go_simp
    refine hK.out _ ?_
    clear hK K
    iterate 1 (
      apply Lp.one ?_ rfl
      · intro w hw
        have k0 := HF.out _ hw
        go_simp
        exact rfl
      intro K hK
      go_simp
      refine hK.out _ ?_
      clear hK K)
    rotate_left
    exact []
    intro v5 hm
    clear kQ
    replace BQ := BQ.keep hm
    replace HB := HB.call hm
    clear hm
    have kQ := BQ.cell
    go_wp2_with fail
    refine Calls.mono (awake_any _) ?_
    rintro e v6 ⟨v, rfl, rfl, hm⟩
    clear kQ
    replace BQ := BQ.keep hm
    replace HB := HB.call hm
    clear hm
    have kQ := BQ.cell
    go_wp2_with fail
    go_ret
    exact ⟨_, rfl, rfl, HB⟩
  have m1 : (x ≤ a2) = False := eq_false kk1
  by_cases kk2 : b2 < 0
  · have m2 : (b2 < 0) = True := eq_true kk2
    apply Lp.wp_region_loose _ _ 47 (by kernel_rfl) (by kernel_rfl) (by kernel_rfl) (Below.refl _ _)
    apply Lp.facts
    · intro w1 hw
      exact (BQ.cl hw).cell
    intro HF
    iterate 16 (
      apply Lp.one ?_ rfl
      · intro w hw
        have k0 := HF.out _ hw
        go_simp
        exact rfl
      intro K hK
      go_simp
      refine hK.out _ ?_
      clear hK K)
    apply Lp.skip (kd := none) rfl
    intro K hK
    go_simp
    refine hK.out _ ?_
    clear hK K
    apply Lp.skip (kd := none) rfl
    intro K hK
    go_simp
    refine hK.out _ ?_
    clear hK K
    apply Lp.skip (kd := none) rfl
    intro K hK
    go_simp
    refine hK.out _ ?_
    clear hK K
    apply Lp.skip (kd := none) rfl
    intro K hK
    go_simp
    refine hK.out _ ?_
    clear hK K
    apply Lp.skip (kd := none) rfl
    intro K hK
    go_simp
    refine hK.out _ ?_
    clear hK K
    iterate 2 (
      apply Lp.one ?_ rfl
      · intro w hw
        have k0 := HF.out _ hw
        go_simp
        exact rfl
      intro K hK
      go_simp
      refine hK.out _ ?_
      clear hK K)
    apply Lp.skip (kd := none) rfl
    intro K hK
    go_simp
    refine hK.out _ ?_
    clear hK K
    apply Lp.skip (kd := none) rfl
    intro K hK
    go_simp
    refine hK.out _ ?_
    clear hK K
    apply Lp.skip (kd := none) rfl
    intro K hK
    go_simp
    refine hK.out _ ?_
    clear hK K
    iterate 2 (
      apply Lp.one ?_ rfl
      · intro w hw
        have k0 := HF.out _ hw
        go_simp
        exact rfl
      intro K hK
      go_simp
      refine hK.out _ ?_
      clear hK K)
    apply Lp.skip (kd := none) rfl
    intro K hK
    go_simp
    refine hK.out _ ?_
    clear hK K
    apply Lp.skip (kd := none) rfl
    intro K hK
    go_simp
    refine hK.out _ ?_
    clear hK K
    apply Lp.skip (kd := none) rfl
    intro K hK
    go_simp
    refine hK.out _ ?_
    clear hK K
    apply Lp.skip (kd := none) rfl
    intro K hK
    go_simp
    refine hK.out _ ?_
    clear hK K
    apply Lp.skip (kd := none) rfl
    intro K hK
    go_simp
    refine hK.out _ ?_
    clear hK K
    iterate 2 (
      apply Lp.one ?_ rfl
      · intro w hw
        have k0 := HF.out _ hw
        go_simp
        exact rfl
      intro K hK
      go_simp
      refine hK.out _ ?_
      clear hK K)
    apply Lp.skip (kd := none) rfl
    intro K hK
    go_simp
    refine hK.out _ ?_
    clear hK K
    apply Lp.skip (kd := none) rfl
    intro K hK
    go_simp
    refine hK.out _ ?_
    clear hK K
    apply Lp.skip (kd := none) rfl
    intro K hK
    go_simp
    refine hK.out _ ?_
    clear hK K
    iterate 2 (
      apply Lp.one ?_ rfl
      · intro w hw
        have k0 := HF.out _ hw
        go_simp
        exact rfl
      intro K hK
      go_simp
      refine hK.out _ ?_
      clear hK K)
    apply Lp.skip (kd := none) rfl
    intro K hK
    go_simp
    refine hK.out _ ?_
    clear hK K
    apply Lp.skip (kd := none) rfl
    intro K hK
    go_simp
    refine hK.out _ ?_
    clear hK K
    apply Lp.skip (kd := none) rfl
    intro K hK
    go_simp
    refine hK.out _ ?_
    clear hK K
    apply Lp.skip (kd := none) rfl
    intro K hK
    go_simp
    refine hK.out _ ?_
    clear hK K
    apply Lp.skip (kd := none) rfl
    intro K hK
    go_simp
    refine hK.out _ ?_
    clear hK K
    apply Lp.skip (kd := none) rfl
    intro K hK
    go_simp
    refine hK.out _ ?_
    clear hK K
    iterate 1 (
      apply Lp.one ?_ rfl
      · intro w hw
        have k0 := HF.out _ hw
        go_simp
        exact rfl
      intro K hK
      go_simp
      refine hK.out _ ?_
      clear hK K)
    rotate_left
    exact []
    intro v5 hm
    clear kQ
    replace BQ := BQ.keep hm
    replace HB := HB.call hm
    clear hm
    have kQ := BQ.cell
    go_wp2_with fail
    refine Calls.mono (awake_any _) ?_
    rintro e v6 ⟨v, rfl, rfl, hm⟩
    clear kQ
    replace BQ := BQ.keep hm
    replace HB := HB.call hm
    clear hm
    have kQ := BQ.cell
    go_wp2_with fail
    go_ret
    exact ⟨_, rfl, rfl, HB⟩
  have m2 : (b2 < 0) = False := eq_false kk2
  by_cases kk3 : h ≤ b2
  · have m3 : (h ≤ b2) = True := eq_true kk3
    apply Lp.wp_region_loose _ _ 47 (by kernel_rfl) (by kernel_rfl) (by kernel_rfl) (Below.refl _ _)
    apply Lp.facts
    · intro w1 hw
      exact (BQ.cl hw).cell
    intro HF
    iterate 23 (
      apply Lp.one ?_ rfl
      · intro w hw
        have k0 := HF.out _ hw
        go_simp
        exact rfl
      intro K hK
      go_simp
      refine hK.out _ ?_
      clear hK K)
    apply Lp.skip (kd := none) rfl
    intro K hK
    go_simp
    refine hK.out _ ?_
    clear hK K
    apply Lp.skip (kd := none) rfl
    intro K hK
    go_simp
    refine hK.out _ ?_
    clear hK K
    apply Lp.skip (kd := none) rfl
    intro K hK
    go_simp
    refine hK.out _ ?_
    clear hK K
    iterate 2 (
      apply Lp.one ?_ rfl
      · intro w hw
        have k0 := HF.out _ hw
        go_simp
        exact rfl
      intro K hK
      go_simp
      refine hK.out _ ?_
      clear hK K)
    apply Lp.skip (kd := none) rfl
    intro K hK
    go_simp
    refine hK.out _ ?_
    clear hK K
    apply Lp.skip (kd := none) rfl
    intro K hK
    go_simp
    refine hK.out _ ?_
    clear hK K
    apply Lp.skip (kd := none) rfl
    intro K hK
    go_simp
    refine hK.out _ ?_
    clear hK K
    apply Lp.skip (kd := none) rfl
    intro K hK
    go_simp
    refine hK.out _ ?_
    clear hK K
    apply Lp.skip (kd := none) rfl
    intro K hK
    go_simp
    refine hK.out _ ?_
    clear hK K
    iterate 2 (
      apply Lp.one ?_ rfl
      · intro w hw
        have k0 := HF.out _ hw
        go_simp
        exact rfl
      intro K hK
      go_simp
      refine hK.out _ ?_
      clear hK K)
    apply Lp.skip (kd := none) rfl
    intro K hK
    go_simp
    refine hK.out _ ?_
    clear hK K
    apply Lp.skip (kd := none) rfl
    intro K hK
    go_simp
    refine hK.out _ ?_
    clear hK K
    apply Lp.skip (kd := none) rfl
    intro K hK
    go_simp
    refine hK.out _ ?_
    clear hK K
    iterate 2 (
      apply Lp.one ?_ rfl
      · intro w hw
        have k0 := HF.out _ hw
        go_simp
        exact rfl
      intro K hK
      go_simp
      refine hK.out _ ?_
      clear hK K)
    apply Lp.skip (kd := none) rfl
    intro K hK
    go_simp
    refine hK.out _ ?_
    clear hK K
    apply Lp.skip (kd := none) rfl
    intro K hK
    go_simp
    refine hK.out _ ?_
    clear hK K
    apply Lp.skip (kd := none) rfl
    intro K hK
    go_simp
    refine hK.out _ ?_
    clear hK K
    apply Lp.skip (kd := none) rfl
    intro K hK
    go_simp
    refine hK.out _ ?_
    clear hK K
    apply Lp.skip (kd := none) rfl
    intro K hK
    go_simp
    refine hK.out _ ?_
    clear hK K
    apply Lp.skip (kd := none) rfl
    intro K hK
    go_simp
    refine hK.out _ ?_
    clear hK K
    iterate 1 (
      apply Lp.one ?_ rfl
      · intro w hw
        have k0 := HF.out _ hw
        go_simp
        exact rfl
      intro K hK
      go_simp
      refine hK.out _ ?_
      clear hK K)
    rotate_left
    exact []
    intro v5 hm
    clear kQ
    replace BQ := BQ.keep hm
    replace HB := HB.call hm
    clear hm
    have kQ := BQ.cell
    go_wp2_with fail
    refine Calls.mono (awake_any _) ?_
    rintro e v6 ⟨v, rfl, rfl, hm⟩
    clear kQ
    replace BQ := BQ.keep hm
    replace HB := HB.call hm
    clear hm
    have kQ := BQ.cell
    go_wp2_with fail
    go_ret
    exact ⟨_, rfl, rfl, HB⟩
  have m3 : (h ≤ b2) = False := eq_false kk3
  by_cases kk4 : c2 < 0
  · have m4 : (c2 < 0) = True := eq_true kk4
    apply Lp.wp_region_loose _ _ 47 (by kernel_rfl) (by kernel_rfl) (by kernel_rfl) (Below.refl _ _)
    apply Lp.facts
    · intro w1 hw
      exact (BQ.cl hw).cell
    intro HF
    iterate 28 (
      apply Lp.one ?_ rfl
      · intro w hw
        have k0 := HF.out _ hw
        go_simp
        exact rfl
      intro K hK
      go_simp
      refine hK.out _ ?_
      clear hK K)
    apply Lp.skip (kd := none) rfl
    intro K hK
    go_simp
    refine hK.out _ ?_
    clear hK K
    apply Lp.skip (kd := none) rfl
    intro K hK
    go_simp
    refine hK.out _ ?_
    clear hK K
    apply Lp.skip (kd := none) rfl
    intro K hK
    go_simp
    refine hK.out _ ?_
    clear hK K
    apply Lp.skip (kd := none) rfl
    intro K hK
    go_simp
    refine hK.out _ ?_
    clear hK K
    apply Lp.skip (kd := none) rfl
    intro K hK
    go_simp
    refine hK.out _ ?_
    clear hK K
    iterate 2 (
      apply Lp.one ?_ rfl
      · intro w hw
        have k0 := HF.out _ hw
        go_simp
        exact rfl
      intro K hK
      go_simp
      refine hK.out _ ?_
      clear hK K)
    apply Lp.skip (kd := none) rfl
    intro K hK
    go_simp
    refine hK.out _ ?_
    clear hK K
    apply Lp.skip (kd := none) rfl
    intro K hK
    go_simp
    refine hK.out _ ?_
    clear hK K
    apply Lp.skip (kd := none) rfl
    intro K hK
    go_simp
    refine hK.out _ ?_
    clear hK K
    iterate 2 (
      apply Lp.one ?_ rfl
      · intro w hw
        have k0 := HF.out _ hw
        go_simp
        exact rfl
      intro K hK
      go_simp
      refine hK.out _ ?_
      clear hK K)
    apply Lp.skip (kd := none) rfl
    intro K hK
    go_simp
    refine hK.out _ ?_
    clear hK K
    apply Lp.skip (kd := none) rfl
    intro K hK
    go_simp
    refine hK.out _ ?_
    clear hK K
    apply Lp.skip (kd := none) rfl
    intro K hK
    go_simp
    refine hK.out _ ?_
    clear hK K
    apply Lp.skip (kd := none) rfl
    intro K hK
    go_simp
    refine hK.out _ ?_
    clear hK K
    apply Lp.skip (kd := none) rfl
    intro K hK
    go_simp
    refine hK.out _ ?_
    clear hK K
    apply Lp.skip (kd := none) rfl
    intro K hK
    go_simp
    refine hK.out _ ?_
    clear hK K
    iterate 1 (
      apply Lp.one ?_ rfl
      · intro w hw
        have k0 := HF.out _ hw
        go_simp
        exact rfl
      intro K hK
      go_simp
      refine hK.out _ ?_
      clear hK K)
    rotate_left
    exact []
    intro v5 hm
    clear kQ
    replace BQ := BQ.keep hm
    replace HB := HB.call hm
    clear hm
    have kQ := BQ.cell
    go_wp2_with fail
    refine Calls.mono (awake_any _) ?_
    rintro e v6 ⟨v, rfl, rfl, hm⟩
    clear kQ
    replace BQ := BQ.keep hm
    replace HB := HB.call hm
    clear hm
    have kQ := BQ.cell
    go_wp2_with fail
    go_ret
    exact ⟨_, rfl, rfl, HB⟩
  have m4 : (c2 < 0) = False := eq_false kk4
  by_cases kk5 : s ≤ c2
  · have m5 : (s ≤ c2) = True := eq_true kk5
    apply Lp.wp_region_loose _ _ 47 (by kernel_rfl) (by kernel_rfl) (by kernel_rfl) (Below.refl _ _)
    apply Lp.facts
    · intro w1 hw
      exact (BQ.cl hw).cell
    intro HF
    iterate 35 (
      apply Lp.one ?_ rfl
      · intro w hw
        have k0 := HF.out _ hw
        go_simp
        exact rfl
      intro K hK
      go_simp
      refine hK.out _ ?_
      clear hK K)
    apply Lp.skip (kd := none) rfl
    intro K hK
    go_simp
    refine hK.out _ ?_
    clear hK K
    apply Lp.skip (kd := none) rfl
    intro K hK
    go_simp
    refine hK.out _ ?_
    clear hK K
    apply Lp.skip (kd := none) rfl
    intro K hK
    go_simp
    refine hK.out _ ?_
    clear hK K
    iterate 2 (
      apply Lp.one ?_ rfl
      · intro w hw
        have k0 := HF.out _ hw
        go_simp
        exact rfl
      intro K hK
      go_simp
      refine hK.out _ ?_
      clear hK K)
    apply Lp.skip (kd := none) rfl
    intro K hK
    go_simp
    refine hK.out _ ?_
    clear hK K
    apply Lp.skip (kd := none) rfl
    intro K hK
    go_simp
    refine hK.out _ ?_
    clear hK K
    apply Lp.skip (kd := none) rfl
    intro K hK
    go_simp
    refine hK.out _ ?_
    clear hK K
    apply Lp.skip (kd := none) rfl
    intro K hK
    go_simp
    refine hK.out _ ?_
    clear hK K
    apply Lp.skip (kd := none) rfl
    intro K hK
    go_simp
    refine hK.out _ ?_
    clear hK K
    apply Lp.skip (kd := none) rfl
    intro K hK
    go_simp
    refine hK.out _ ?_
    clear hK K
    iterate 1 (
      apply Lp.one ?_ rfl
      · intro w hw
        have k0 := HF.out _ hw
        go_simp
        exact rfl
      intro K hK
      go_simp
      refine hK.out _ ?_
      clear hK K)
    rotate_left
    exact []
    intro v5 hm
    clear kQ
    replace BQ := BQ.keep hm
    replace HB := HB.call hm
    clear hm
    have kQ := BQ.cell
    go_wp2_with fail
    refine Calls.mono (awake_any _) ?_
    rintro e v6 ⟨v, rfl, rfl, hm⟩
    clear kQ
    replace BQ := BQ.keep hm
    replace HB := HB.call hm
    clear hm
    have kQ := BQ.cell
    go_wp2_with fail
    go_ret
    exact ⟨_, rfl, rfl, HB⟩
  have m5 : (s ≤ c2) = False := eq_false kk5
  by_cases kk6 : k2 < 0
  · have m6 : (k2 < 0) = True := eq_true kk6
    apply Lp.wp_region_loose _ _ 47 (by kernel_rfl) (by kernel_rfl) (by kernel_rfl) (Below.refl _ _)
    apply Lp.facts
    · intro w1 hw
      exact (BQ.cl hw).cell
    intro HF
    iterate 40 (
      apply Lp.one ?_ rfl
      · intro w hw
        have k0 := HF.out _ hw
        go_simp
        exact rfl
      intro K hK
      go_simp
      refine hK.out _ ?_
      clear hK K)
    apply Lp.skip (kd := none) rfl
    intro K hK
    go_simp
    refine hK.out _ ?_
    clear hK K
    apply Lp.skip (kd := none) rfl
    intro K hK
    go_simp
    refine hK.out _ ?_
    clear hK K
    apply Lp.skip (kd := none) rfl
    intro K hK
    go_simp
    refine hK.out _ ?_
    clear hK K
    apply Lp.skip (kd := none) rfl
    intro K hK
    go_simp
    refine hK.out _ ?_
    clear hK K
    apply Lp.skip (kd := none) rfl
    intro K hK
    go_simp
    refine hK.out _ ?_
    clear hK K
    apply Lp.skip (kd := none) rfl
    intro K hK
    go_simp
    refine hK.out _ ?_
    clear hK K
    iterate 1 (
      apply Lp.one ?_ rfl
      · intro w hw
        have k0 := HF.out _ hw
        go_simp
        exact rfl
      intro K hK
      go_simp
      refine hK.out _ ?_
      clear hK K)
    rotate_left
    exact []
    intro v5 hm
    clear kQ
    replace BQ := BQ.keep hm
    replace HB := HB.call hm
    clear hm
    have kQ := BQ.cell
    go_wp2_with fail
    refine Calls.mono (awake_any _) ?_
    rintro e v6 ⟨v, rfl, rfl, hm⟩
    clear kQ
    replace BQ := BQ.keep hm
    replace HB := HB.call hm
    clear hm
    have kQ := BQ.cell
    go_wp2_with fail
    go_ret
    exact ⟨_, rfl, rfl, HB⟩
  have m6 : (k2 < 0) = False := eq_false kk6
  by_cases kk7 : sl ≤ k2
  · have m7 : (sl ≤ k2) = True := eq_true kk7
    apply Lp.wp_region_loose _ _ 47 (by kernel_rfl) (by kernel_rfl) (by kernel_rfl) (Below.refl _ _)
    apply Lp.facts
    · intro w1 hw
      exact (BQ.cl hw).cell
    intro HF
    iterate 44 (
      apply Lp.one ?_ rfl
      · intro w hw
        have k0 := HF.out _ hw
        go_simp
        exact rfl
      intro K hK
      go_simp
      refine hK.out _ ?_
      clear hK K)
    apply Lp.any rfl
    · intro w hw
      go_simp
      exact Lp.ret (HR.out _)
    intro K hK
    rintro v rfl
    go_simp
    refine hK.out _ ?_
    clear hK K
    iterate 2 (
      apply Lp.one ?_ rfl
      · intro w hw
        have k0 := HF.out _ hw
        go_simp
        exact rfl
      intro K hK
      go_simp
      refine hK.out _ ?_
      clear hK K)
    rotate_left
    exact []
    intro v5 hm
    clear kQ
    replace BQ := BQ.keep hm
    replace HB := HB.call hm
    clear hm
    have kQ := BQ.cell
    go_wp2_with fail
    refine Calls.mono (awake_any _) ?_
    rintro e v6 ⟨v, rfl, rfl, hm⟩
    clear kQ
    replace BQ := BQ.keep hm
    replace HB := HB.call hm
    clear hm
    have kQ := BQ.cell
    go_wp2_with fail
    go_ret
    exact ⟨_, rfl, rfl, HB⟩
  have m7 : (sl ≤ k2) = False := eq_false kk7
  apply Lp.wp_region_loose _ _ 47 (by kernel_rfl) (by kernel_rfl) (by kernel_rfl) (Below.refl _ _)
  apply Lp.facts
  · intro w1 hw
    exact (BQ.cl hw).cell
  intro HF
  iterate 44 (
    apply Lp.one ?_ rfl
    · intro w hw
      have k0 := HF.out _ hw
      go_simp
      exact rfl
    intro K hK
    go_simp
    refine hK.out _ ?_
    clear hK K)
  apply Lp.any rfl
  · intro w hw
    go_simp
    exact Lp.ret (HR.out _)
  intro K hK
  rintro v rfl
  go_simp
  refine hK.out _ ?_
  clear hK K
  iterate 2 (
    apply Lp.one ?_ rfl
    · intro w hw
      have k0 := HF.out _ hw
      go_simp
      exact rfl
    intro K hK
    go_simp
    refine hK.out _ ?_
    clear hK K)
  rotate_left
  exact []
  intro v5 hm
  clear kQ
  replace BQ := BQ.keep hm
  replace HB := HB.call hm
  clear hm
  have kQ := BQ.cell
  go_wp2_with fail
  obtain ⟨B, HS0, hiff⟩ := HB2.out (by omega) (by omega) (by omega) (by omega) (by omega) (by omega) (by omega) (by omega) (by omega) (by omega) (by omega) (by omega) (by omega)
  have HS : Hid _ := HS0
  clear HS0 HB2
  by_cases j0 : a = a2
  rotate_left
  · have l0 : (a = a2) = False := eq_false j0
    have hAB : (A = B) = False := eq_false fun hh => j0 (by have hh := hiff.1 hh; exact hh.1)
    have hABb : (A == B) = false := beq_eq_false_iff_ne.2 (of_eq_false hAB)
    have l0b : (a == a2) = false := beq_eq_false_iff_ne.2 j0
    clear hiff
    refine Calls.mono (HS.out _) ?_
    rintro e v6 ⟨v, rfl, rfl, hm⟩
    clear kQ
    replace BQ := BQ.keep hm
    replace HB := HB.call hm
    clear hm
    have kQ := BQ.cell
    go_wp2_with fail
    refine Calls.mono (awake_any _) ?_
    rintro e v7 ⟨v, rfl, rfl, hm⟩
    clear kQ
    replace BQ := BQ.keep hm
    replace HB := HB.call hm
    clear hm
    have kQ := BQ.cell
    go_wp2_with fail
    go_ret
    exact ⟨_, rfl, rfl, HB⟩
  have l0 : (a = a2) = True := eq_true j0
  have l0b : (a == a2) = true := beq_iff_eq.2 j0
  by_cases j1 : b = b2
  rotate_left
  · have l1 : (b = b2) = False := eq_false j1
    have hAB : (A = B) = False := eq_false fun hh => j1 (by have hh := hiff.1 hh; exact hh.2.1)
    have hABb : (A == B) = false := beq_eq_false_iff_ne.2 (of_eq_false hAB)
    have l1b : (b == b2) = false := beq_eq_false_iff_ne.2 j1
    clear hiff
    refine Calls.mono (HS.out _) ?_
    rintro e v6 ⟨v, rfl, rfl, hm⟩
    clear kQ
    replace BQ := BQ.keep hm
    replace HB := HB.call hm
    clear hm
    have kQ := BQ.cell
    go_wp2_with fail
    refine Calls.mono (awake_any _) ?_
    rintro e v7 ⟨v, rfl, rfl, hm⟩
    clear kQ
    replace BQ := BQ.keep hm
    replace HB := HB.call hm
    clear hm
    have kQ := BQ.cell
    go_wp2_with fail
    go_ret
    exact ⟨_, rfl, rfl, HB⟩
  have l1 : (b = b2) = True := eq_true j1
  have l1b : (b == b2) = true := beq_iff_eq.2 j1
  by_cases j2 : c = c2
  rotate_left
  · have l2 : (c = c2) = False := eq_false j2
    have hAB : (A = B) = False := eq_false fun hh => j2 (by have hh := hiff.1 hh; exact hh.2.2.1)
    have hABb : (A == B) = false := beq_eq_false_iff_ne.2 (of_eq_false hAB)
    have l2b : (c == c2) = false := beq_eq_false_iff_ne.2 j2
    clear hiff
    refine Calls.mono (HS.out _) ?_
    rintro e v6 ⟨v, rfl, rfl, hm⟩
    clear kQ
    replace BQ := BQ.keep hm
    replace HB := HB.call hm
    clear hm
    have kQ := BQ.cell
    go_wp2_with fail
    refine Calls.mono (awake_any _) ?_
    rintro e v7 ⟨v, rfl, rfl, hm⟩
    clear kQ
    replace BQ := BQ.keep hm
    replace HB := HB.call hm
    clear hm
    have kQ := BQ.cell
    go_wp2_with fail
    go_ret
    exact ⟨_, rfl, rfl, HB⟩
  have l2 : (c = c2) = True := eq_true j2
  have l2b : (c == c2) = true := beq_iff_eq.2 j2
  by_cases j3 : k = k2
  rotate_left
  · have l3 : (k = k2) = False := eq_false j3
    have hAB : (A = B) = False := eq_false fun hh => j3 (by have hh := hiff.1 hh; exact hh.2.2.2)
    have hABb : (A == B) = false := beq_eq_false_iff_ne.2 (of_eq_false hAB)
    have l3b : (k == k2) = false := beq_eq_false_iff_ne.2 j3
    clear hiff
    refine Calls.mono (HS.out _) ?_
    rintro e v6 ⟨v, rfl, rfl, hm⟩
    clear kQ
    replace BQ := BQ.keep hm
    replace HB := HB.call hm
    clear hm
    have kQ := BQ.cell
    go_wp2_with fail
    refine Calls.mono (awake_any _) ?_
    rintro e v7 ⟨v, rfl, rfl, hm⟩
    clear kQ
    replace BQ := BQ.keep hm
    replace HB := HB.call hm
    clear hm
    have kQ := BQ.cell
    go_wp2_with fail
    go_ret
    exact ⟨_, rfl, rfl, HB⟩
  have l3 : (k = k2) = True := eq_true j3
  have l3b : (k == k2) = true := beq_iff_eq.2 j3
  have hAB : (A = B) = True := eq_true (hiff.2 ⟨j0, j1, j2, j3⟩)
  have hABb : (A == B) = true := beq_iff_eq.2 (of_eq_true hAB)
  clear hiff
  refine Calls.mono (HS.out _) ?_
  rintro e v6 ⟨v, rfl, rfl, hm⟩
  clear kQ
  replace BQ := BQ.keep hm
  replace HB := HB.call hm
  clear hm
  have kQ := BQ.cell
  go_wp2_with fail
  refine Calls.mono (awake_any _) ?_
  rintro e v7 ⟨v, rfl, rfl, hm⟩
  clear kQ
  replace BQ := BQ.keep hm
  replace HB := HB.call hm
  clear hm
  have kQ := BQ.cell
  go_wp2_with fail
  go_ret
  exact ⟨_, rfl, rfl, HB⟩

end Go.Proofs.Ythbcbeaagmgafaa
