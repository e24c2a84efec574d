/- Package rgb: Weight, and the reference's. -/
import Derived.Laws.FloatArith
import Derived.Deep.LoopGhost
import Derived.Test.YtldblpgopgggdaaRows
import Derived.Test.YtldblpgopgggdaaRd
import Derived.Test.YtldblpgopgggdaaXc
namespace Go.Proofs.Ytldblpgopgggdaa
open Go.RowKit Fl

theorem geF_eq (x : Nat) : geF x = leB 0 x := geB_eq x 0
theorem gd_nn {x : Nat} (h : gd x = true) : Nn x := by
  unfold gd at h
  rw [Bool.and_eq_true, geF_eq] at h
  exact nn_of_le h.2
theorem gd_num {x : Nat} (h : gd x = true) : Num x ∧ 0 ≤ val x := by
  have hn := gd_nn h
  unfold gd at h
  rw [Bool.and_eq_true, geF_eq] at h
  have n := num_of_fin h.1
  refine ⟨n, ?_⟩
  have k := h.2
  rw [leB_val num_zero n, val_zero] at k
  exact of_decide_eq_true k
theorem gdB_all {x y z : Nat} (h : gdB x y z = true) : gd x = true ∧ gd y = true ∧ gd z = true := by
  unfold gdB at h
  rw [Bool.and_eq_true, Bool.and_eq_true] at h
  exact ⟨h.1.1, h.1.2, h.2⟩
def wm (x y z : Nat) : Nat := fmul (meanF x y z) sixteen
theorem sum_nn {x y z : Nat} (h : gdB x y z = true) : Nn (fadd (fadd x y) z) := by
  obtain ⟨a, b, c⟩ := gdB_all h
  exact add_nn (add_nn (gd_nn a) (gd_nn b)) (gd_nn c)
theorem wm_nn {x y z : Nat} (h : gdB x y z = true) : Nn (wm x y z) := mul_nn (div_nn (sum_nn h))
def weiF (x y z : Nat) : Int := if (gdB x y z && !blB x y z) = true then wOf (wm x y z) else 0
theorem wei_not {x y z : Nat} (h : gdB x y z = false) : weiF x y z = 0 := by unfold weiF; rw [h]; rfl
theorem wei_black {x y z : Nat} (h : blB x y z = true) : weiF x y z = 0 := by
  unfold weiF
  rw [h]
  cases gdB x y z <;> rfl
theorem wei_is {x y z : Nat} (h : gdB x y z = true) (k : blB x y z = false) : weiF x y z = wOf (wm x y z) := by unfold weiF; rw [h, k]; rfl
/-- A product with 16 of the mean, as the very word. -/
theorem wm_eq {x y z r q : Nat} (h : gdB x y z = true) (hr : Eqv r (meanF x y z)) (hq : Eqv q (fmul r sixteen)) : q = wm x y z := by
  have e : fmul r sixteen = wm x y z := fmul_congr hr.sm (Sm.refl _)
  rw [e] at hq
  exact (hq.sm.symm.eq (wm_nn h).not_nan).symm
theorem conv_run {m : Nat} (h : floatToIntVal .f64 m .i64 = some (truncF m)) (w : World) : (convert 22 3 (.float .f64 m)).run Try.prog w = .ok (.int .i64 (truncF m)) w :=
  run_convert_float_int (w := w) _ _ _ _ _ _ (by rw [Try.underlying22]; rfl) Try.underlying3 h

set_option maxRecDepth 100000 in
set_option maxHeartbeats 1000000 in
theorem rgb_weight (ax ay az : Nat) (w : World) : Ret Try.prog 23 #[.agg #[.float .f64 ax, .float .f64 ay, .float .f64 az]] w (fun v => v = .int .i64 (weiF ax ay az)) := by
  unfold Ret
  have HG : Hid _ := rgb_good ax ay az
  have HK : Hid _ := rgb_black ax ay az
  cases hg : gdB ax ay az
  · rw [hg] at HG
    rw [wei_not hg]
    clear hg HK
    go_enter Try.func23, Try.ntmps23
    go_wp2_with fail
    refine Lp.settleC (fun w' => Lp.Bk w' (w.heap.size) #[.float .f64 ax, .float .f64 ay, .float .f64 az] 24 ∧ Cl w w') ⟨(Lp.Bk.al _ _ _), (Below.refl _ _).alloc (by simp <;> omega) _⟩ ?_
    rintro v1 ⟨BA, HB⟩
    have kA := BA.cell
    refine Calls.mono (HG.out _) ?_
    rintro e v2 ⟨v, rfl, rfl, hm⟩
    clear kA
    replace BA := BA.keep hm
    replace HB := HB.call hm
    clear hm
    have kA := BA.cell
    go_wp2_with fail
    go_ret
    exact ⟨_, rfl, rfl, HB⟩
  · have hg0 : Aside _ := hg
    rw [hg] at HG
    clear hg
    cases hb : blB ax ay az
    · rw [hb] at HK
      rw [wei_is hg0.out hb]
      clear hb
      have HE : Aside (∀ r q : Nat, Eqv r (meanF ax ay az) → Eqv q (fmul r sixteen) → q = wm ax ay az) := fun _ _ => wm_eq hg0.out
      have HM : Aside (Nn (wm ax ay az)) := wm_nn hg0.out
      generalize wm ax ay az = m at HE HM ⊢
      clear hg0
      cases hl : (ford m one16 == some .lt)
      · cases hm : (ford m maxW == some .gt)
        · rw [wOf_in hl hm]
          have hc := conv_run (conv_of HM.out hl hm)
          have el : (FloatKind.f64.format.order m 4607182418800017408 == some .lt) = false := hl
          have em : (FloatKind.f64.format.order m 4697254411347427328 == some .gt) = false := hm
          clear hl hm HM
          go_enter Try.func23, Try.ntmps23
          go_wp2_with fail
          refine Lp.settleC (fun w' => Lp.Bk w' (w.heap.size) #[.float .f64 ax, .float .f64 ay, .float .f64 az] 24 ∧ Cl w w') ⟨(Lp.Bk.al _ _ _), (Below.refl _ _).alloc (by simp <;> omega) _⟩ ?_
          rintro v1 ⟨BA, HB⟩
          have kA := BA.cell
          refine Calls.mono (HG.out _) ?_
          rintro e v2 ⟨v, rfl, rfl, hm⟩
          clear kA
          replace BA := BA.keep hm
          replace HB := HB.call hm
          clear hm
          have kA := BA.cell
          go_wp2_with fail
          refine Calls.mono (HK.out _) ?_
          rintro e v3 ⟨v, rfl, rfl, hm⟩
          clear kA
          replace BA := BA.keep hm
          replace HB := HB.call hm
          clear hm
          have kA := BA.cell
          go_wp2_with fail
          refine Calls.mono (rgb_mean _ _ _ _) ?_
          rintro e v4 ⟨v, rfl, ⟨r, rfl, hr⟩, hm⟩
          clear kA
          replace BA := BA.keep hm
          replace HB := HB.call hm
          clear hm
          have kA := BA.cell
          go_wp2_with fail
          refine Calls.mono (rgb_product _ _ _) ?_
          rintro e v5 ⟨v, rfl, ⟨q, rfl, hq⟩, hm⟩
          clear kA
          replace BA := BA.keep hm
          replace HB := HB.call hm
          clear hm
          have kA := BA.cell
          obtain rfl := HE.out _ _ hr hq
          clear hr hq
          go_wp2_with fail
          go_ret
          exact ⟨_, rfl, rfl, HB⟩
        · rw [wOf_gt hl hm]
          have el : (FloatKind.f64.format.order m 4607182418800017408 == some .lt) = false := hl
          have em : (FloatKind.f64.format.order m 4697254411347427328 == some .gt) = true := hm
          clear hl hm HM
          go_enter Try.func23, Try.ntmps23
          go_wp2_with fail
          refine Lp.settleC (fun w' => Lp.Bk w' (w.heap.size) #[.float .f64 ax, .float .f64 ay, .float .f64 az] 24 ∧ Cl w w') ⟨(Lp.Bk.al _ _ _), (Below.refl _ _).alloc (by simp <;> omega) _⟩ ?_
          rintro v1 ⟨BA, HB⟩
          have kA := BA.cell
          refine Calls.mono (HG.out _) ?_
          rintro e v2 ⟨v, rfl, rfl, hm⟩
          clear kA
          replace BA := BA.keep hm
          replace HB := HB.call hm
          clear hm
          have kA := BA.cell
          go_wp2_with fail
          refine Calls.mono (HK.out _) ?_
          rintro e v3 ⟨v, rfl, rfl, hm⟩
          clear kA
          replace BA := BA.keep hm
          replace HB := HB.call hm
          clear hm
          have kA := BA.cell
          go_wp2_with fail
          refine Calls.mono (rgb_mean _ _ _ _) ?_
          rintro e v4 ⟨v, rfl, ⟨r, rfl, hr⟩, hm⟩
          clear kA
          replace BA := BA.keep hm
          replace HB := HB.call hm
          clear hm
          have kA := BA.cell
          go_wp2_with fail
          refine Calls.mono (rgb_product _ _ _) ?_
          rintro e v5 ⟨v, rfl, ⟨q, rfl, hq⟩, hm⟩
          clear kA
          replace BA := BA.keep hm
          replace HB := HB.call hm
          clear hm
          have kA := BA.cell
          obtain rfl := HE.out _ _ hr hq
          clear hr hq
          go_wp2_with fail
          go_ret
          exact ⟨_, rfl, rfl, HB⟩
      · rw [wOf_lt hl]
        have el : (FloatKind.f64.format.order m 4607182418800017408 == some .lt) = true := hl
        clear hl HM
        go_enter Try.func23, Try.ntmps23
        go_wp2_with fail
        refine Lp.settleC (fun w' => Lp.Bk w' (w.heap.size) #[.float .f64 ax, .float .f64 ay, .float .f64 az] 24 ∧ Cl w w') ⟨(Lp.Bk.al _ _ _), (Below.refl _ _).alloc (by simp <;> omega) _⟩ ?_
        rintro v1 ⟨BA, HB⟩
        have kA := BA.cell
        refine Calls.mono (HG.out _) ?_
        rintro e v2 ⟨v, rfl, rfl, hm⟩
        clear kA
        replace BA := BA.keep hm
        replace HB := HB.call hm
        clear hm
        have kA := BA.cell
        go_wp2_with fail
        refine Calls.mono (HK.out _) ?_
        rintro e v3 ⟨v, rfl, rfl, hm⟩
        clear kA
        replace BA := BA.keep hm
        replace HB := HB.call hm
        clear hm
        have kA := BA.cell
        go_wp2_with fail
        refine Calls.mono (rgb_mean _ _ _ _) ?_
        rintro e v4 ⟨v, rfl, ⟨r, rfl, hr⟩, hm⟩
        clear kA
        replace BA := BA.keep hm
        replace HB := HB.call hm
        clear hm
        have kA := BA.cell
        go_wp2_with fail
        refine Calls.mono (rgb_product _ _ _) ?_
        rintro e v5 ⟨v, rfl, ⟨q, rfl, hq⟩, hm⟩
        clear kA
        replace BA := BA.keep hm
        replace HB := HB.call hm
        clear hm
        have kA := BA.cell
        obtain rfl := HE.out _ _ hr hq
        clear hr hq
        go_wp2_with fail
        go_ret
        exact ⟨_, rfl, rfl, HB⟩
    · rw [hb] at HK
      rw [wei_black hb]
      clear hb
      go_enter Try.func23, Try.ntmps23
      go_wp2_with fail
      refine Lp.settleC (fun w' => Lp.Bk w' (w.heap.size) #[.float .f64 ax, .float .f64 ay, .float .f64 az] 24 ∧ Cl w w') ⟨(Lp.Bk.al _ _ _), (Below.refl _ _).alloc (by simp <;> omega) _⟩ ?_
      rintro v1 ⟨BA, HB⟩
      have kA := BA.cell
      refine Calls.mono (HG.out _) ?_
      rintro e v2 ⟨v, rfl, rfl, hm⟩
      clear kA
      replace BA := BA.keep hm
      replace HB := HB.call hm
      clear hm
      have kA := BA.cell
      go_wp2_with fail
      refine Calls.mono (HK.out _) ?_
      rintro e v3 ⟨v, rfl, rfl, hm⟩
      clear kA
      replace BA := BA.keep hm
      replace HB := HB.call hm
      clear hm
      have kA := BA.cell
      go_wp2_with fail
      go_ret
      exact ⟨_, rfl, rfl, HB⟩

theorem bl_ways {x y z : Nat} (h : blB x y z = false) : eqz x = false ∨ (eqz x = true ∧ eqz y = false) ∨ (eqz x = true ∧ eqz y = true ∧ eqz z = false) := by
  unfold blB at h
  cases a : eqz x
  · exact .inl rfl
  · cases b : eqz y
    · exact .inr (.inl ⟨rfl, rfl⟩)
    · rw [a, b] at h
      exact .inr (.inr ⟨rfl, rfl, h⟩)
theorem bl_all {x y z : Nat} (h : blB x y z = true) : eqz x = true ∧ eqz y = true ∧ eqz z = true := by
  unfold blB at h
  rw [Bool.and_eq_true, Bool.and_eq_true] at h
  exact ⟨h.1.1, h.1.2, h.2⟩

set_option maxRecDepth 100000 in
set_option maxHeartbeats 1000000 in
theorem r5weight (ax ay az : Nat) (w : World) : Ret Try.prog 24 #[.agg #[.float .f64 ax, .float .f64 ay, .float .f64 az]] w (fun v => v = .int .i64 (weiF ax ay az)) := by
  unfold Ret
  have HG : Hid _ := r5good ax ay az
  cases hg : gdB ax ay az
  · rw [hg] at HG
    rw [wei_not hg]
    clear hg
    go_enter Try.func24, Try.ntmps24
    go_wp2_with fail
    refine Lp.settleC (fun w' => Lp.Bk w' (w.heap.size) #[.float .f64 ax, .float .f64 ay, .float .f64 az] 24 ∧ Cl w w') ⟨(Lp.Bk.al _ _ _), (Below.refl _ _).alloc (by simp <;> omega) _⟩ ?_
    rintro v1 ⟨BA, HB⟩
    have kA := BA.cell
    refine Calls.mono (HG.out _) ?_
    rintro e v2 ⟨v, rfl, rfl, hm⟩
    clear kA
    replace BA := BA.keep hm
    replace HB := HB.call hm
    clear hm
    have kA := BA.cell
    go_wp2_with fail
    go_ret
    exact ⟨_, rfl, rfl, HB⟩
  · have hg0 : Aside _ := hg
    rw [hg] at HG
    clear hg
    cases hb : blB ax ay az
    · have hw3 := bl_ways hb
      rw [wei_is hg0.out hb, ← rOf_eq (wm_nn hg0.out)]
      clear hb
      have HE : Aside (∀ r q : Nat, Eqv r (meanF ax ay az) → Eqv q (fmul r sixteen) → q = wm ax ay az) := fun _ _ => wm_eq hg0.out
      have HM : Aside (Nn (wm ax ay az)) := wm_nn hg0.out
      generalize wm ax ay az = m at HE HM ⊢
      clear hg0
      rcases hw3 with e1 | ⟨e1, e2⟩ | ⟨e1, e2, e3⟩
      · replace e1 : (FloatKind.f64.format.order ax 0 == some .eq) = false := e1
        cases hm : (ford m maxW == some .gt || ford m maxW == some .eq)
        · cases hl : (ford m one16 == some .lt)
          · rw [rOf_in hm hl]
            have hc := conv_run (conv_of HM.out hl (gt_of_ge hm))
            have el : (FloatKind.f64.format.order m 4607182418800017408 == some .lt) = false := hl
            have em : (FloatKind.f64.format.order m 4697254411347427328 == some .gt || FloatKind.f64.format.order m 4697254411347427328 == some .eq) = false := hm
            clear hl hm HM
            go_enter Try.func24, Try.ntmps24
            go_wp2_with fail
            refine Lp.settleC (fun w' => Lp.Bk w' (w.heap.size) #[.float .f64 ax, .float .f64 ay, .float .f64 az] 24 ∧ Cl w w') ⟨(Lp.Bk.al _ _ _), (Below.refl _ _).alloc (by simp <;> omega) _⟩ ?_
            rintro v1 ⟨BA, HB⟩
            have kA := BA.cell
            refine Calls.mono (HG.out _) ?_
            rintro e v2 ⟨v, rfl, rfl, hm⟩
            clear kA
            replace BA := BA.keep hm
            replace HB := HB.call hm
            clear hm
            have kA := BA.cell
            go_wp2_with fail
            refine Calls.mono (r5mean _ _ _ _) ?_
            rintro e v3 ⟨v, rfl, ⟨r, rfl, hr⟩, hm⟩
            clear kA
            replace BA := BA.keep hm
            replace HB := HB.call hm
            clear hm
            have kA := BA.cell
            go_wp2_with fail
            refine upon_mul (Sm.refl _) (Sm.refl _) ?_
            intro q nq hq
            obtain rfl := HE.out _ _ hr hq
            clear hr hq
            go_wp2_with fail
            go_ret
            exact ⟨_, rfl, rfl, HB.drewN _⟩
          · rw [rOf_lt hm hl]
            have el : (FloatKind.f64.format.order m 4607182418800017408 == some .lt) = true := hl
            have em : (FloatKind.f64.format.order m 4697254411347427328 == some .gt || FloatKind.f64.format.order m 4697254411347427328 == some .eq) = false := hm
            clear hl hm HM
            go_enter Try.func24, Try.ntmps24
            go_wp2_with fail
            refine Lp.settleC (fun w' => Lp.Bk w' (w.heap.size) #[.float .f64 ax, .float .f64 ay, .float .f64 az] 24 ∧ Cl w w') ⟨(Lp.Bk.al _ _ _), (Below.refl _ _).alloc (by simp <;> omega) _⟩ ?_
            rintro v1 ⟨BA, HB⟩
            have kA := BA.cell
            refine Calls.mono (HG.out _) ?_
            rintro e v2 ⟨v, rfl, rfl, hm⟩
            clear kA
            replace BA := BA.keep hm
            replace HB := HB.call hm
            clear hm
            have kA := BA.cell
            go_wp2_with fail
            refine Calls.mono (r5mean _ _ _ _) ?_
            rintro e v3 ⟨v, rfl, ⟨r, rfl, hr⟩, hm⟩
            clear kA
            replace BA := BA.keep hm
            replace HB := HB.call hm
            clear hm
            have kA := BA.cell
            go_wp2_with fail
            refine upon_mul (Sm.refl _) (Sm.refl _) ?_
            intro q nq hq
            obtain rfl := HE.out _ _ hr hq
            clear hr hq
            go_wp2_with fail
            go_ret
            exact ⟨_, rfl, rfl, HB.drewN _⟩
        · rw [rOf_ge hm]
          have em : (FloatKind.f64.format.order m 4697254411347427328 == some .gt || FloatKind.f64.format.order m 4697254411347427328 == some .eq) = true := hm
          clear hm HM
          go_enter Try.func24, Try.ntmps24
          go_wp2_with fail
          refine Lp.settleC (fun w' => Lp.Bk w' (w.heap.size) #[.float .f64 ax, .float .f64 ay, .float .f64 az] 24 ∧ Cl w w') ⟨(Lp.Bk.al _ _ _), (Below.refl _ _).alloc (by simp <;> omega) _⟩ ?_
          rintro v1 ⟨BA, HB⟩
          have kA := BA.cell
          refine Calls.mono (HG.out _) ?_
          rintro e v2 ⟨v, rfl, rfl, hm⟩
          clear kA
          replace BA := BA.keep hm
          replace HB := HB.call hm
          clear hm
          have kA := BA.cell
          go_wp2_with fail
          refine Calls.mono (r5mean _ _ _ _) ?_
          rintro e v3 ⟨v, rfl, ⟨r, rfl, hr⟩, hm⟩
          clear kA
          replace BA := BA.keep hm
          replace HB := HB.call hm
          clear hm
          have kA := BA.cell
          go_wp2_with fail
          refine upon_mul (Sm.refl _) (Sm.refl _) ?_
          intro q nq hq
          obtain rfl := HE.out _ _ hr hq
          clear hr hq
          go_wp2_with fail
          go_ret
          exact ⟨_, rfl, rfl, HB.drewN _⟩
      · replace e1 : (FloatKind.f64.format.order ax 0 == some .eq) = true := e1
        replace e2 : (FloatKind.f64.format.order ay 0 == some .eq) = false := e2
        cases hm : (ford m maxW == some .gt || ford m maxW == some .eq)
        · cases hl : (ford m one16 == some .lt)
          · rw [rOf_in hm hl]
            have hc := conv_run (conv_of HM.out hl (gt_of_ge hm))
            have el : (FloatKind.f64.format.order m 4607182418800017408 == some .lt) = false := hl
            have em : (FloatKind.f64.format.order m 4697254411347427328 == some .gt || FloatKind.f64.format.order m 4697254411347427328 == some .eq) = false := hm
            clear hl hm HM
            go_enter Try.func24, Try.ntmps24
            go_wp2_with fail
            refine Lp.settleC (fun w' => Lp.Bk w' (w.heap.size) #[.float .f64 ax, .float .f64 ay, .float .f64 az] 24 ∧ Cl w w') ⟨(Lp.Bk.al _ _ _), (Below.refl _ _).alloc (by simp <;> omega) _⟩ ?_
            rintro v1 ⟨BA, HB⟩
            have kA := BA.cell
            refine Calls.mono (HG.out _) ?_
            rintro e v2 ⟨v, rfl, rfl, hm⟩
            clear kA
            replace BA := BA.keep hm
            replace HB := HB.call hm
            clear hm
            have kA := BA.cell
            go_wp2_with fail
            refine Calls.mono (r5mean _ _ _ _) ?_
            rintro e v3 ⟨v, rfl, ⟨r, rfl, hr⟩, hm⟩
            clear kA
            replace BA := BA.keep hm
            replace HB := HB.call hm
            clear hm
            have kA := BA.cell
            go_wp2_with fail
            refine upon_mul (Sm.refl _) (Sm.refl _) ?_
            intro q nq hq
            obtain rfl := HE.out _ _ hr hq
            clear hr hq
            go_wp2_with fail
            go_ret
            exact ⟨_, rfl, rfl, HB.drewN _⟩
          · rw [rOf_lt hm hl]
            have el : (FloatKind.f64.format.order m 4607182418800017408 == some .lt) = true := hl
            have em : (FloatKind.f64.format.order m 4697254411347427328 == some .gt || FloatKind.f64.format.order m 4697254411347427328 == some .eq) = false := hm
            clear hl hm HM
            go_enter Try.func24, Try.ntmps24
            go_wp2_with fail
            refine Lp.settleC (fun w' => Lp.Bk w' (w.heap.size) #[.float .f64 ax, .float .f64 ay, .float .f64 az] 24 ∧ Cl w w') ⟨(Lp.Bk.al _ _ _), (Below.refl _ _).alloc (by simp <;> omega) _⟩ ?_
            rintro v1 ⟨BA, HB⟩
            have kA := BA.cell
            refine Calls.mono (HG.out _) ?_
            rintro e v2 ⟨v, rfl, rfl, hm⟩
            clear kA
            replace BA := BA.keep hm
            replace HB := HB.call hm
            clear hm
            have kA := BA.cell
            go_wp2_with fail
            refine Calls.mono (r5mean _ _ _ _) ?_
            rintro e v3 ⟨v, rfl, ⟨r, rfl, hr⟩, hm⟩
            clear kA
            replace BA := BA.keep hm
            replace HB := HB.call hm
            clear hm
            have kA := BA.cell
            go_wp2_with fail
            refine upon_mul (Sm.refl _) (Sm.refl _) ?_
            intro q nq hq
            obtain rfl := HE.out _ _ hr hq
            clear hr hq
            go_wp2_with fail
            go_ret
            exact ⟨_, rfl, rfl, HB.drewN _⟩
        · rw [rOf_ge hm]
          have em : (FloatKind.f64.format.order m 4697254411347427328 == some .gt || FloatKind.f64.format.order m 4697254411347427328 == some .eq) = true := hm
          clear hm HM
          go_enter Try.func24, Try.ntmps24
          go_wp2_with fail
          refine Lp.settleC (fun w' => Lp.Bk w' (w.heap.size) #[.float .f64 ax, .float .f64 ay, .float .f64 az] 24 ∧ Cl w w') ⟨(Lp.Bk.al _ _ _), (Below.refl _ _).alloc (by simp <;> omega) _⟩ ?_
          rintro v1 ⟨BA, HB⟩
          have kA := BA.cell
          refine Calls.mono (HG.out _) ?_
          rintro e v2 ⟨v, rfl, rfl, hm⟩
          clear kA
          replace BA := BA.keep hm
          replace HB := HB.call hm
          clear hm
          have kA := BA.cell
          go_wp2_with fail
          refine Calls.mono (r5mean _ _ _ _) ?_
          rintro e v3 ⟨v, rfl, ⟨r, rfl, hr⟩, hm⟩
          clear kA
          replace BA := BA.keep hm
          replace HB := HB.call hm
          clear hm
          have kA := BA.cell
          go_wp2_with fail
          refine upon_mul (Sm.refl _) (Sm.refl _) ?_
          intro q nq hq
          obtain rfl := HE.out _ _ hr hq
          clear hr hq
          go_wp2_with fail
          go_ret
          exact ⟨_, rfl, rfl, HB.drewN _⟩
      · replace e1 : (FloatKind.f64.format.order ax 0 == some .eq) = true := e1
        replace e2 : (FloatKind.f64.format.order ay 0 == some .eq) = true := e2
        replace e3 : (FloatKind.f64.format.order az 0 == some .eq) = false := e3
        cases hm : (ford m maxW == some .gt || ford m maxW == some .eq)
        · cases hl : (ford m one16 == some .lt)
          · rw [rOf_in hm hl]
            have hc := conv_run (conv_of HM.out hl (gt_of_ge hm))
            have el : (FloatKind.f64.format.order m 4607182418800017408 == some .lt) = false := hl
            have em : (FloatKind.f64.format.order m 4697254411347427328 == some .gt || FloatKind.f64.format.order m 4697254411347427328 == some .eq) = false := hm
            clear hl hm HM
            go_enter Try.func24, Try.ntmps24
            go_wp2_with fail
            refine Lp.settleC (fun w' => Lp.Bk w' (w.heap.size) #[.float .f64 ax, .float .f64 ay, .float .f64 az] 24 ∧ Cl w w') ⟨(Lp.Bk.al _ _ _), (Below.refl _ _).alloc (by simp <;> omega) _⟩ ?_
            rintro v1 ⟨BA, HB⟩
            have kA := BA.cell
            refine Calls.mono (HG.out _) ?_
            rintro e v2 ⟨v, rfl, rfl, hm⟩
            clear kA
            replace BA := BA.keep hm
            replace HB := HB.call hm
            clear hm
            have kA := BA.cell
            go_wp2_with fail
            refine Calls.mono (r5mean _ _ _ _) ?_
            rintro e v3 ⟨v, rfl, ⟨r, rfl, hr⟩, hm⟩
            clear kA
            replace BA := BA.keep hm
            replace HB := HB.call hm
            clear hm
            have kA := BA.cell
            go_wp2_with fail
            refine upon_mul (Sm.refl _) (Sm.refl _) ?_
            intro q nq hq
            obtain rfl := HE.out _ _ hr hq
            clear hr hq
            go_wp2_with fail
            go_ret
            exact ⟨_, rfl, rfl, HB.drewN _⟩
          · rw [rOf_lt hm hl]
            have el : (FloatKind.f64.format.order m 4607182418800017408 == some .lt) = true := hl
            have em : (FloatKind.f64.format.order m 4697254411347427328 == some .gt || FloatKind.f64.format.order m 4697254411347427328 == some .eq) = false := hm
            clear hl hm HM
            go_enter Try.func24, Try.ntmps24
            go_wp2_with fail
            refine Lp.settleC (fun w' => Lp.Bk w' (w.heap.size) #[.float .f64 ax, .float .f64 ay, .float .f64 az] 24 ∧ Cl w w') ⟨(Lp.Bk.al _ _ _), (Below.refl _ _).alloc (by simp <;> omega) _⟩ ?_
            rintro v1 ⟨BA, HB⟩
            have kA := BA.cell
            refine Calls.mono (HG.out _) ?_
            rintro e v2 ⟨v, rfl, rfl, hm⟩
            clear kA
            replace BA := BA.keep hm
            replace HB := HB.call hm
            clear hm
            have kA := BA.cell
            go_wp2_with fail
            refine Calls.mono (r5mean _ _ _ _) ?_
            rintro e v3 ⟨v, rfl, ⟨r, rfl, hr⟩, hm⟩
            clear kA
            replace BA := BA.keep hm
            replace HB := HB.call hm
            clear hm
            have kA := BA.cell
            go_wp2_with fail
            refine upon_mul (Sm.refl _) (Sm.refl _) ?_
            intro q nq hq
            obtain rfl := HE.out _ _ hr hq
            clear hr hq
            go_wp2_with fail
            go_ret
            exact ⟨_, rfl, rfl, HB.drewN _⟩
        · rw [rOf_ge hm]
          have em : (FloatKind.f64.format.order m 4697254411347427328 == some .gt || FloatKind.f64.format.order m 4697254411347427328 == some .eq) = true := hm
          clear hm HM
          go_enter Try.func24, Try.ntmps24
          go_wp2_with fail
          refine Lp.settleC (fun w' => Lp.Bk w' (w.heap.size) #[.float .f64 ax, .float .f64 ay, .float .f64 az] 24 ∧ Cl w w') ⟨(Lp.Bk.al _ _ _), (Below.refl _ _).alloc (by simp <;> omega) _⟩ ?_
          rintro v1 ⟨BA, HB⟩
          have kA := BA.cell
          refine Calls.mono (HG.out _) ?_
          rintro e v2 ⟨v, rfl, rfl, hm⟩
          clear kA
          replace BA := BA.keep hm
          replace HB := HB.call hm
          clear hm
          have kA := BA.cell
          go_wp2_with fail
          refine Calls.mono (r5mean _ _ _ _) ?_
          rintro e v3 ⟨v, rfl, ⟨r, rfl, hr⟩, hm⟩
          clear kA
          replace BA := BA.keep hm
          replace HB := HB.call hm
          clear hm
          have kA := BA.cell
          go_wp2_with fail
          refine upon_mul (Sm.refl _) (Sm.refl _) ?_
          intro q nq hq
          obtain rfl := HE.out _ _ hr hq
          clear hr hq
          go_wp2_with fail
          go_ret
          exact ⟨_, rfl, rfl, HB.drewN _⟩
    · obtain ⟨e1, e2, e3⟩ := bl_all hb
      rw [wei_black hb]
      clear hb
      replace e1 : (FloatKind.f64.format.order ax 0 == some .eq) = true := e1
      replace e2 : (FloatKind.f64.format.order ay 0 == some .eq) = true := e2
      replace e3 : (FloatKind.f64.format.order az 0 == some .eq) = true := e3
      go_enter Try.func24, Try.ntmps24
      go_wp2_with fail
      refine Lp.settleC (fun w' => Lp.Bk w' (w.heap.size) #[.float .f64 ax, .float .f64 ay, .float .f64 az] 24 ∧ Cl w w') ⟨(Lp.Bk.al _ _ _), (Below.refl _ _).alloc (by simp <;> omega) _⟩ ?_
      rintro v1 ⟨BA, HB⟩
      have kA := BA.cell
      refine Calls.mono (HG.out _) ?_
      rintro e v2 ⟨v, rfl, rfl, hm⟩
      clear kA
      replace BA := BA.keep hm
      replace HB := HB.call hm
      clear hm
      have kA := BA.cell
      go_wp2_with fail
      go_ret
      exact ⟨_, rfl, rfl, HB⟩

end Go.Proofs.Ytldblpgopgggdaa
