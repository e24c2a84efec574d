/- The walk of the law RgbWeighs. -/
import Derived.Test.YtldblpgopgggdaaRows
import Derived.Test.YtldblpgopgggdaaRf
import Derived.Test.YtldblpgopgggdaaRc
namespace Go.Proofs.Ytldblpgopgggdaa
open Go.RowKit Fl

theorem eqz_val {x : Nat} (h : Num x) : eqz x = decide (val x = 0) := by
  unfold eqz
  obtain ⟨a, b, e, h1, h2⟩ := ord_val h num_zero
  rw [e]
  rw [val_zero] at h1 h2
  by_cases k : a = b
  · rw [decide_eq_true (h2.1 k), Int.compare_eq_eq.2 k]; rfl
  · rw [decide_eq_false (fun h => k (h2.2 h))]
    have : compare a b ≠ .eq := fun h => k (Int.compare_eq_eq.1 h)
    simpa using this
theorem eqz_add {x y : Nat} (hx : gd x = true) (hy : gd y = true) (hc : gd (fadd x y) = true) (h : eqz (fadd x y) = true) : eqz x = true := by
  obtain ⟨nx, x0⟩ := gd_num hx
  obtain ⟨ny, y0⟩ := gd_num hy
  obtain ⟨nc, c0⟩ := gd_num hc
  have l := le_add nx ny y0
  rw [leB_val nx nc] at l
  have l := of_decide_eq_true l
  rw [eqz_val nc] at h
  have h := of_decide_eq_true h
  rw [eqz_val nx]
  exact decide_eq_true (by grind)
theorem le_plus {x y : Nat} (hx : gd x = true) (hy : gd y = true) : leB x (fadd x y) = true := le_add (gd_num hx).1 (gd_num hy).1 (gd_num hy).2
theorem wm_mono {x y z u v t : Nat} (h : gdB x y z = true) (k : gdB u v t = true) (h1 : leB x u = true) (h2 : leB y v = true) (h3 : leB z t = true) : leB (wm x y z) (wm u v t) = true := by
  obtain ⟨a, b, c⟩ := gdB_all h
  obtain ⟨d, e, f⟩ := gdB_all k
  have ha := gd_nn a
  have hb := gd_nn b
  have hc := gd_nn c
  have hd := gd_nn d
  have he := gd_nn e
  have hf := gd_nn f
  exact mul_nn_mono (div_nn (sum_nn h)) (div_nn (sum_nn k)) (div_nn_mono (sum_nn h) (sum_nn k) (add_nn_mono (add_nn ha hb) hc (add_nn hd he) hf (add_nn_mono ha hb hd he h1 h2) h3))
/-- What weighs with another light is not less. -/
theorem wei_grows {x y z u v t : Nat} (h : gdB x y z = true) (k : gdB u v t = true) (hc : gdB (fadd x u) (fadd y v) (fadd z t) = true) : weiF x y z ≤ weiF (fadd x u) (fadd y v) (fadd z t) := by
  obtain ⟨a, b, c⟩ := gdB_all h
  obtain ⟨d, e, f⟩ := gdB_all k
  obtain ⟨p, q, r⟩ := gdB_all hc
  cases hb : blB x y z
  · have hb2 : blB (fadd x u) (fadd y v) (fadd z t) = false := by
      cases hb3 : blB (fadd x u) (fadd y v) (fadd z t)
      · rfl
      · obtain ⟨e1, e2, e3⟩ := bl_all hb3
        unfold blB at hb
        rw [eqz_add a d p e1, eqz_add b e q e2, eqz_add c f r e3] at hb
        cases hb
    rw [wei_is h hb, wei_is hc hb2]
    exact wOf_mono (wm_nn h) (wm_nn hc) (wm_mono h hc (le_plus a d) (le_plus b e) (le_plus c f))
  · rw [wei_black hb]
    cases hb3 : blB (fadd x u) (fadd y v) (fadd z t)
    · rw [wei_is hc hb3]
      have := wOf_lo (wm_nn hc)
      omega
    · rw [wei_black hb3]
      exact Int.le_refl _
theorem wei_lo {x y z : Nat} (h : gdB x y z = true) (k : blB x y z = false) : 0 < weiF x y z := by
  rw [wei_is h k]
  have := wOf_lo (wm_nn h)
  omega
theorem wei_hi {x y z : Nat} (h : gdB x y z = true) : weiF x y z ≤ 1048576 := by
  unfold weiF
  split
  · exact wOf_hi (wm_nn h)
  · omega
theorem add_exact {ax ay az bx bY bz : Nat} (h : gdB ax ay az = true) (k : gdB bx bY bz = true) (w : World) : Ret Try.prog 8 #[.agg #[.float .f64 ax, .float .f64 ay, .float .f64 az], .agg #[.float .f64 bx, .float .f64 bY, .float .f64 bz]] w (fun v => v = .agg #[.float .f64 (fadd ax bx), .float .f64 (fadd ay bY), .float .f64 (fadd az bz)]) := by
  obtain ⟨a, b, c⟩ := gdB_all h
  obtain ⟨d, e, f⟩ := gdB_all k
  refine (rgb_add _ _ _ _ _ _ w).mono fun v ⟨r, s, t, e, h0, h1, h2⟩ => ?_
  rw [e, eqv_just h0 rfl (add_nn (gd_nn a) (gd_nn d)).not_nan, eqv_just h1 rfl (add_nn (gd_nn b) (gd_nn (by assumption))).not_nan, eqv_just h2 rfl (add_nn (gd_nn c) (gd_nn f)).not_nan]

set_option maxRecDepth 100000 in
set_option maxHeartbeats 1000000 in
theorem weighs_walk (ax ay az bx bY bz : Nat) (w : World) : Ret Try.prog 5 #[.agg #[.float .f64 ax, .float .f64 ay, .float .f64 az], .agg #[.float .f64 bx, .float .f64 bY, .float .f64 bz]] w (fun v => v = .bool true) := by
  unfold Ret
  have HG : Hid _ := r5good ax ay az
  have HH : Hid _ := r5good bx bY bz
  cases hg : gdB ax ay az
  · rw [hg] at HG
    clear hg HH
    go_enter Try.func5, Try.ntmps5
    go_wp2_with fail
    refine Lp.settleC (fun w' => Lp.Bk w' (w.heap.size) #[.float .f64 ax, .float .f64 ay, .float .f64 az] 24 ∧ Lp.Bk w' (w.heap.size + 1) #[.float .f64 bx, .float .f64 bY, .float .f64 bz] 24 ∧ Cl w w') ⟨((Lp.Bk.al _ _ _).alo _), (Lp.Bk.al1 _ _ _ _), ((Below.refl _ _).alloc (by simp <;> omega) _).alloc (by simp <;> omega) _⟩ ?_
    rintro v1 ⟨BA, BB, HB⟩
    have kA := BA.cell
    have kB := BB.cell
    refine Calls.mono (HG.out _) ?_
    rintro e v2 ⟨v, rfl, rfl, hm⟩
    clear kA kB
    replace BA := BA.keep hm
    replace BB := BB.keep hm
    replace HB := HB.call hm
    clear hm
    have kA := BA.cell
    have kB := BB.cell
    go_wp2_with fail
    refine Calls.mono (awake5 _) ?_
    rintro e v3 ⟨v, rfl, rfl, hm⟩
    clear kA kB
    replace BA := BA.keep hm
    replace BB := BB.keep hm
    replace HB := HB.call hm
    clear hm
    have kA := BA.cell
    have kB := BB.cell
    go_wp2_with fail
    go_ret
    exact ⟨_, rfl, rfl, HB⟩
  · cases hh : gdB bx bY bz
    · rw [hg] at HG
      rw [hh] at HH
      clear hg hh
      go_enter Try.func5, Try.ntmps5
      go_wp2_with fail
      refine Lp.settleC (fun w' => Lp.Bk w' (w.heap.size) #[.float .f64 ax, .float .f64 ay, .float .f64 az] 24 ∧ Lp.Bk w' (w.heap.size + 1) #[.float .f64 bx, .float .f64 bY, .float .f64 bz] 24 ∧ Cl w w') ⟨((Lp.Bk.al _ _ _).alo _), (Lp.Bk.al1 _ _ _ _), ((Below.refl _ _).alloc (by simp <;> omega) _).alloc (by simp <;> omega) _⟩ ?_
      rintro v1 ⟨BA, BB, HB⟩
      have kA := BA.cell
      have kB := BB.cell
      refine Calls.mono (HG.out _) ?_
      rintro e v2 ⟨v, rfl, rfl, hm⟩
      clear kA kB
      replace BA := BA.keep hm
      replace BB := BB.keep hm
      replace HB := HB.call hm
      clear hm
      have kA := BA.cell
      have kB := BB.cell
      go_wp2_with fail
      refine Calls.mono (HH.out _) ?_
      rintro e v3 ⟨v, rfl, rfl, hm⟩
      clear kA kB
      replace BA := BA.keep hm
      replace BB := BB.keep hm
      replace HB := HB.call hm
      clear hm
      have kA := BA.cell
      have kB := BB.cell
      go_wp2_with fail
      refine Calls.mono (awake5 _) ?_
      rintro e v4 ⟨v, rfl, rfl, hm⟩
      clear kA kB
      replace BA := BA.keep hm
      replace BB := BB.keep hm
      replace HB := HB.call hm
      clear hm
      have kA := BA.cell
      have kB := BB.cell
      go_wp2_with fail
      go_ret
      exact ⟨_, rfl, rfl, HB⟩
    · rw [hg] at HG
      rw [hh] at HH
      have HA : Hid _ := @add_exact ax ay az bx bY bz hg hh
      have HL : Aside _ := @wei_grows ax ay az bx bY bz hg hh
      have hu := wei_hi hg
      have HW : Hid _ := rgb_weight ax ay az
      have HV : Hid _ := rgb_weight (fadd ax bx) (fadd ay bY) (fadd az bz)
      have HK : Hid _ := rgb_black ax ay az
      have HC : Hid _ := rgb_good (fadd ax bx) (fadd ay bY) (fadd az bz)
      have HP : Aside _ := @wei_lo ax ay az hg
      have HN : Aside _ := @wei_black ax ay az
      clear hg hh
      generalize fadd ax bx = cx at *
      generalize fadd ay bY = cy at *
      generalize fadd az bz = cz at *
      generalize weiF ax ay az = wa at *
      generalize weiF cx cy cz = wc at *
      generalize gdB cx cy cz = gc at *
      generalize blB ax ay az = ba at *
      cases ba <;> cases gc
      · have hp : 0 < wa := HP.out rfl
        clear HL HP HN
        go_enter Try.func5, Try.ntmps5
        go_wp2_with fail
        refine Lp.settleC (fun w' => Lp.Bk w' (w.heap.size) #[.float .f64 ax, .float .f64 ay, .float .f64 az] 24 ∧ Lp.Bk w' (w.heap.size + 1) #[.float .f64 bx, .float .f64 bY, .float .f64 bz] 24 ∧ Cl w w') ⟨((Lp.Bk.al _ _ _).alo _), (Lp.Bk.al1 _ _ _ _), ((Below.refl _ _).alloc (by simp <;> omega) _).alloc (by simp <;> omega) _⟩ ?_
        rintro v1 ⟨BA, BB, HB⟩
        have kA := BA.cell
        have kB := BB.cell
        refine Calls.mono (HG.out _) ?_
        rintro e v2 ⟨v, rfl, rfl, hm⟩
        clear kA kB
        replace BA := BA.keep hm
        replace BB := BB.keep hm
        replace HB := HB.call hm
        clear hm
        have kA := BA.cell
        have kB := BB.cell
        go_wp2_with fail
        refine Calls.mono (HH.out _) ?_
        rintro e v3 ⟨v, rfl, rfl, hm⟩
        clear kA kB
        replace BA := BA.keep hm
        replace BB := BB.keep hm
        replace HB := HB.call hm
        clear hm
        have kA := BA.cell
        have kB := BB.cell
        go_wp2_with fail
        refine Calls.mono (HA.out _) ?_
        rintro e v4 ⟨v, rfl, rfl, hm⟩
        clear kA kB
        replace BA := BA.keep hm
        replace BB := BB.keep hm
        replace HB := HB.call hm
        clear hm
        have kA := BA.cell
        have kB := BB.cell
        go_wp2_with fail
        refine Lp.settle (fun w' => Lp.Bk w' (w.heap.size) #[.float .f64 ax, .float .f64 ay, .float .f64 az] 24 ∧ Lp.Bk w' (w.heap.size + 1) #[.float .f64 bx, .float .f64 bY, .float .f64 bz] 24 ∧ Lp.Bk w' (v4.heap.size) #[.float .f64 cx, .float .f64 cy, .float .f64 cz] 24 ∧ Cl w w') ⟨(BA.alo _), (BB.alo _), (Lp.Bk.al _ _ _), (HB.alloc _)⟩ ?_
        clear kA kB
        rintro v5 ⟨BA, BB, BC, HB⟩
        have kA := BA.cell
        have kB := BB.cell
        have kC := BC.cell
        apply Lp.wp_region_loose _ _ 6 (by kernel_rfl) (by kernel_rfl) (by kernel_rfl) (Below.refl _ _)
        apply Lp.facts
        · intro w1 hw
          exact And.intro (BA.cl hw).cell (And.intro (BB.cl hw).cell ((BC.cl hw).cell))
        intro HF
        iterate 1 (
          apply Lp.one ?_ rfl
          · intro w hw
            obtain ⟨k0, k1, k2⟩ := HF.out _ hw
            go_simp
            exact rfl
          intro K hK
          go_simp
          refine hK.out _ ?_
          clear hK K)
        apply Lp.any rfl
        · intro w hw
          go_simp
          exact Lp.ret (HW.out _)
        intro K hK
        rintro v rfl
        go_simp
        refine hK.out _ ?_
        clear hK K
        iterate 1 (
          apply Lp.one ?_ rfl
          · intro w hw
            obtain ⟨k0, k1, k2⟩ := HF.out _ hw
            go_simp
            exact rfl
          intro K hK
          go_simp
          refine hK.out _ ?_
          clear hK K)
        apply Lp.any rfl
        · intro w hw
          go_simp
          exact Lp.ret (HV.out _)
        intro K hK
        rintro v rfl
        go_simp
        refine hK.out _ ?_
        clear hK K
        iterate 2 (
          apply Lp.one ?_ rfl
          · intro w hw
            obtain ⟨k0, k1, k2⟩ := HF.out _ hw
            go_simp
            exact rfl
          intro K hK
          go_simp
          refine hK.out _ ?_
          clear hK K)
        rotate_left
        exact []
        intro v6 hm
        clear kA kB kC
        replace BA := BA.keep hm
        replace BB := BB.keep hm
        replace BC := BC.keep hm
        replace HB := HB.call hm
        clear hm
        have kA := BA.cell
        have kB := BB.cell
        have kC := BC.cell
        go_wp2_with fail
        refine Calls.mono (awake5 _) ?_
        rintro e v7 ⟨v, rfl, rfl, hm⟩
        clear kA kB kC
        replace BA := BA.keep hm
        replace BB := BB.keep hm
        replace BC := BC.keep hm
        replace HB := HB.call hm
        clear hm
        have kA := BA.cell
        have kB := BB.cell
        have kC := BC.cell
        go_wp2_with fail
        refine Calls.mono (HK.out _) ?_
        rintro e v8 ⟨v, rfl, rfl, hm⟩
        clear kA kB kC
        replace BA := BA.keep hm
        replace BB := BB.keep hm
        replace BC := BC.keep hm
        replace HB := HB.call hm
        clear hm
        have kA := BA.cell
        have kB := BB.cell
        have kC := BC.cell
        go_wp2_with fail
        refine Calls.mono (HC.out _) ?_
        rintro e v9 ⟨v, rfl, rfl, hm⟩
        clear kA kB kC
        replace BA := BA.keep hm
        replace BB := BB.keep hm
        replace BC := BC.keep hm
        replace HB := HB.call hm
        clear hm
        have kA := BA.cell
        have kB := BB.cell
        have kC := BC.cell
        go_wp2_with fail
        go_ret
        exact ⟨_, rfl, rfl, HB⟩
      · have hl : wa ≤ wc := HL.out rfl
        have hp : 0 < wa := HP.out rfl
        clear HL HP HN
        go_enter Try.func5, Try.ntmps5
        go_wp2_with fail
        refine Lp.settleC (fun w' => Lp.Bk w' (w.heap.size) #[.float .f64 ax, .float .f64 ay, .float .f64 az] 24 ∧ Lp.Bk w' (w.heap.size + 1) #[.float .f64 bx, .float .f64 bY, .float .f64 bz] 24 ∧ Cl w w') ⟨((Lp.Bk.al _ _ _).alo _), (Lp.Bk.al1 _ _ _ _), ((Below.refl _ _).alloc (by simp <;> omega) _).alloc (by simp <;> omega) _⟩ ?_
        rintro v1 ⟨BA, BB, HB⟩
        have kA := BA.cell
        have kB := BB.cell
        refine Calls.mono (HG.out _) ?_
        rintro e v2 ⟨v, rfl, rfl, hm⟩
        clear kA kB
        replace BA := BA.keep hm
        replace BB := BB.keep hm
        replace HB := HB.call hm
        clear hm
        have kA := BA.cell
        have kB := BB.cell
        go_wp2_with fail
        refine Calls.mono (HH.out _) ?_
        rintro e v3 ⟨v, rfl, rfl, hm⟩
        clear kA kB
        replace BA := BA.keep hm
        replace BB := BB.keep hm
        replace HB := HB.call hm
        clear hm
        have kA := BA.cell
        have kB := BB.cell
        go_wp2_with fail
        refine Calls.mono (HA.out _) ?_
        rintro e v4 ⟨v, rfl, rfl, hm⟩
        clear kA kB
        replace BA := BA.keep hm
        replace BB := BB.keep hm
        replace HB := HB.call hm
        clear hm
        have kA := BA.cell
        have kB := BB.cell
        go_wp2_with fail
        refine Lp.settle (fun w' => Lp.Bk w' (w.heap.size) #[.float .f64 ax, .float .f64 ay, .float .f64 az] 24 ∧ Lp.Bk w' (w.heap.size + 1) #[.float .f64 bx, .float .f64 bY, .float .f64 bz] 24 ∧ Lp.Bk w' (v4.heap.size) #[.float .f64 cx, .float .f64 cy, .float .f64 cz] 24 ∧ Cl w w') ⟨(BA.alo _), (BB.alo _), (Lp.Bk.al _ _ _), (HB.alloc _)⟩ ?_
        clear kA kB
        rintro v5 ⟨BA, BB, BC, HB⟩
        have kA := BA.cell
        have kB := BB.cell
        have kC := BC.cell
        apply Lp.wp_region_loose _ _ 6 (by kernel_rfl) (by kernel_rfl) (by kernel_rfl) (Below.refl _ _)
        apply Lp.facts
        · intro w1 hw
          exact And.intro (BA.cl hw).cell (And.intro (BB.cl hw).cell ((BC.cl hw).cell))
        intro HF
        iterate 1 (
          apply Lp.one ?_ rfl
          · intro w hw
            obtain ⟨k0, k1, k2⟩ := HF.out _ hw
            go_simp
            exact rfl
          intro K hK
          go_simp
          refine hK.out _ ?_
          clear hK K)
        apply Lp.any rfl
        · intro w hw
          go_simp
          exact Lp.ret (HW.out _)
        intro K hK
        rintro v rfl
        go_simp
        refine hK.out _ ?_
        clear hK K
        iterate 1 (
          apply Lp.one ?_ rfl
          · intro w hw
            obtain ⟨k0, k1, k2⟩ := HF.out _ hw
            go_simp
            exact rfl
          intro K hK
          go_simp
          refine hK.out _ ?_
          clear hK K)
        apply Lp.any rfl
        · intro w hw
          go_simp
          exact Lp.ret (HV.out _)
        intro K hK
        rintro v rfl
        go_simp
        refine hK.out _ ?_
        clear hK K
        iterate 2 (
          apply Lp.one ?_ rfl
          · intro w hw
            obtain ⟨k0, k1, k2⟩ := HF.out _ hw
            go_simp
            exact rfl
          intro K hK
          go_simp
          refine hK.out _ ?_
          clear hK K)
        rotate_left
        exact []
        intro v6 hm
        clear kA kB kC
        replace BA := BA.keep hm
        replace BB := BB.keep hm
        replace BC := BC.keep hm
        replace HB := HB.call hm
        clear hm
        have kA := BA.cell
        have kB := BB.cell
        have kC := BC.cell
        go_wp2_with fail
        refine Calls.mono (awake5 _) ?_
        rintro e v7 ⟨v, rfl, rfl, hm⟩
        clear kA kB kC
        replace BA := BA.keep hm
        replace BB := BB.keep hm
        replace BC := BC.keep hm
        replace HB := HB.call hm
        clear hm
        have kA := BA.cell
        have kB := BB.cell
        have kC := BC.cell
        go_wp2_with fail
        refine Calls.mono (HK.out _) ?_
        rintro e v8 ⟨v, rfl, rfl, hm⟩
        clear kA kB kC
        replace BA := BA.keep hm
        replace BB := BB.keep hm
        replace BC := BC.keep hm
        replace HB := HB.call hm
        clear hm
        have kA := BA.cell
        have kB := BB.cell
        have kC := BC.cell
        go_wp2_with fail
        refine Calls.mono (HC.out _) ?_
        rintro e v9 ⟨v, rfl, rfl, hm⟩
        clear kA kB kC
        replace BA := BA.keep hm
        replace BB := BB.keep hm
        replace BC := BC.keep hm
        replace HB := HB.call hm
        clear hm
        have kA := BA.cell
        have kB := BB.cell
        have kC := BC.cell
        go_wp2_with fail
        go_ret
        exact ⟨_, rfl, rfl, HB⟩
      · obtain rfl : wa = 0 := HN.out rfl
        clear HL HP HN
        go_enter Try.func5, Try.ntmps5
        go_wp2_with fail
        refine Lp.settleC (fun w' => Lp.Bk w' (w.heap.size) #[.float .f64 ax, .float .f64 ay, .float .f64 az] 24 ∧ Lp.Bk w' (w.heap.size + 1) #[.float .f64 bx, .float .f64 bY, .float .f64 bz] 24 ∧ Cl w w') ⟨((Lp.Bk.al _ _ _).alo _), (Lp.Bk.al1 _ _ _ _), ((Below.refl _ _).alloc (by simp <;> omega) _).alloc (by simp <;> omega) _⟩ ?_
        rintro v1 ⟨BA, BB, HB⟩
        have kA := BA.cell
        have kB := BB.cell
        refine Calls.mono (HG.out _) ?_
        rintro e v2 ⟨v, rfl, rfl, hm⟩
        clear kA kB
        replace BA := BA.keep hm
        replace BB := BB.keep hm
        replace HB := HB.call hm
        clear hm
        have kA := BA.cell
        have kB := BB.cell
        go_wp2_with fail
        refine Calls.mono (HH.out _) ?_
        rintro e v3 ⟨v, rfl, rfl, hm⟩
        clear kA kB
        replace BA := BA.keep hm
        replace BB := BB.keep hm
        replace HB := HB.call hm
        clear hm
        have kA := BA.cell
        have kB := BB.cell
        go_wp2_with fail
        refine Calls.mono (HA.out _) ?_
        rintro e v4 ⟨v, rfl, rfl, hm⟩
        clear kA kB
        replace BA := BA.keep hm
        replace BB := BB.keep hm
        replace HB := HB.call hm
        clear hm
        have kA := BA.cell
        have kB := BB.cell
        go_wp2_with fail
        refine Lp.settle (fun w' => Lp.Bk w' (w.heap.size) #[.float .f64 ax, .float .f64 ay, .float .f64 az] 24 ∧ Lp.Bk w' (w.heap.size + 1) #[.float .f64 bx, .float .f64 bY, .float .f64 bz] 24 ∧ Lp.Bk w' (v4.heap.size) #[.float .f64 cx, .float .f64 cy, .float .f64 cz] 24 ∧ Cl w w') ⟨(BA.alo _), (BB.alo _), (Lp.Bk.al _ _ _), (HB.alloc _)⟩ ?_
        clear kA kB
        rintro v5 ⟨BA, BB, BC, HB⟩
        have kA := BA.cell
        have kB := BB.cell
        have kC := BC.cell
        apply Lp.wp_region_loose _ _ 6 (by kernel_rfl) (by kernel_rfl) (by kernel_rfl) (Below.refl _ _)
        apply Lp.facts
        · intro w1 hw
          exact And.intro (BA.cl hw).cell (And.intro (BB.cl hw).cell ((BC.cl hw).cell))
        intro HF
        iterate 1 (
          apply Lp.one ?_ rfl
          · intro w hw
            obtain ⟨k0, k1, k2⟩ := HF.out _ hw
            go_simp
            exact rfl
          intro K hK
          go_simp
          refine hK.out _ ?_
          clear hK K)
        apply Lp.any rfl
        · intro w hw
          go_simp
          exact Lp.ret (HW.out _)
        intro K hK
        rintro v rfl
        go_simp
        refine hK.out _ ?_
        clear hK K
        iterate 1 (
          apply Lp.one ?_ rfl
          · intro w hw
            obtain ⟨k0, k1, k2⟩ := HF.out _ hw
            go_simp
            exact rfl
          intro K hK
          go_simp
          refine hK.out _ ?_
          clear hK K)
        apply Lp.any rfl
        · intro w hw
          go_simp
          exact Lp.ret (HV.out _)
        intro K hK
        rintro v rfl
        go_simp
        refine hK.out _ ?_
        clear hK K
        iterate 2 (
          apply Lp.one ?_ rfl
          · intro w hw
            obtain ⟨k0, k1, k2⟩ := HF.out _ hw
            go_simp
            exact rfl
          intro K hK
          go_simp
          refine hK.out _ ?_
          clear hK K)
        rotate_left
        exact []
        intro v6 hm
        clear kA kB kC
        replace BA := BA.keep hm
        replace BB := BB.keep hm
        replace BC := BC.keep hm
        replace HB := HB.call hm
        clear hm
        have kA := BA.cell
        have kB := BB.cell
        have kC := BC.cell
        go_wp2_with fail
        refine Calls.mono (awake5 _) ?_
        rintro e v7 ⟨v, rfl, rfl, hm⟩
        clear kA kB kC
        replace BA := BA.keep hm
        replace BB := BB.keep hm
        replace BC := BC.keep hm
        replace HB := HB.call hm
        clear hm
        have kA := BA.cell
        have kB := BB.cell
        have kC := BC.cell
        go_wp2_with fail
        refine Calls.mono (HK.out _) ?_
        rintro e v8 ⟨v, rfl, rfl, hm⟩
        clear kA kB kC
        replace BA := BA.keep hm
        replace BB := BB.keep hm
        replace BC := BC.keep hm
        replace HB := HB.call hm
        clear hm
        have kA := BA.cell
        have kB := BB.cell
        have kC := BC.cell
        go_wp2_with fail
        refine Calls.mono (HC.out _) ?_
        rintro e v9 ⟨v, rfl, rfl, hm⟩
        clear kA kB kC
        replace BA := BA.keep hm
        replace BB := BB.keep hm
        replace BC := BC.keep hm
        replace HB := HB.call hm
        clear hm
        have kA := BA.cell
        have kB := BB.cell
        have kC := BC.cell
        go_wp2_with fail
        go_ret
        exact ⟨_, rfl, rfl, HB⟩
      · have hl : wa ≤ wc := HL.out rfl
        obtain rfl : wa = 0 := HN.out rfl
        clear HL HP HN
        go_enter Try.func5, Try.ntmps5
        go_wp2_with fail
        refine Lp.settleC (fun w' => Lp.Bk w' (w.heap.size) #[.float .f64 ax, .float .f64 ay, .float .f64 az] 24 ∧ Lp.Bk w' (w.heap.size + 1) #[.float .f64 bx, .float .f64 bY, .float .f64 bz] 24 ∧ Cl w w') ⟨((Lp.Bk.al _ _ _).alo _), (Lp.Bk.al1 _ _ _ _), ((Below.refl _ _).alloc (by simp <;> omega) _).alloc (by simp <;> omega) _⟩ ?_
        rintro v1 ⟨BA, BB, HB⟩
        have kA := BA.cell
        have kB := BB.cell
        refine Calls.mono (HG.out _) ?_
        rintro e v2 ⟨v, rfl, rfl, hm⟩
        clear kA kB
        replace BA := BA.keep hm
        replace BB := BB.keep hm
        replace HB := HB.call hm
        clear hm
        have kA := BA.cell
        have kB := BB.cell
        go_wp2_with fail
        refine Calls.mono (HH.out _) ?_
        rintro e v3 ⟨v, rfl, rfl, hm⟩
        clear kA kB
        replace BA := BA.keep hm
        replace BB := BB.keep hm
        replace HB := HB.call hm
        clear hm
        have kA := BA.cell
        have kB := BB.cell
        go_wp2_with fail
        refine Calls.mono (HA.out _) ?_
        rintro e v4 ⟨v, rfl, rfl, hm⟩
        clear kA kB
        replace BA := BA.keep hm
        replace BB := BB.keep hm
        replace HB := HB.call hm
        clear hm
        have kA := BA.cell
        have kB := BB.cell
        go_wp2_with fail
        refine Lp.settle (fun w' => Lp.Bk w' (w.heap.size) #[.float .f64 ax, .float .f64 ay, .float .f64 az] 24 ∧ Lp.Bk w' (w.heap.size + 1) #[.float .f64 bx, .float .f64 bY, .float .f64 bz] 24 ∧ Lp.Bk w' (v4.heap.size) #[.float .f64 cx, .float .f64 cy, .float .f64 cz] 24 ∧ Cl w w') ⟨(BA.alo _), (BB.alo _), (Lp.Bk.al _ _ _), (HB.alloc _)⟩ ?_
        clear kA kB
        rintro v5 ⟨BA, BB, BC, HB⟩
        have kA := BA.cell
        have kB := BB.cell
        have kC := BC.cell
        apply Lp.wp_region_loose _ _ 6 (by kernel_rfl) (by kernel_rfl) (by kernel_rfl) (Below.refl _ _)
        apply Lp.facts
        · intro w1 hw
          exact And.intro (BA.cl hw).cell (And.intro (BB.cl hw).cell ((BC.cl hw).cell))
        intro HF
        iterate 1 (
          apply Lp.one ?_ rfl
          · intro w hw
            obtain ⟨k0, k1, k2⟩ := HF.out _ hw
            go_simp
            exact rfl
          intro K hK
          go_simp
          refine hK.out _ ?_
          clear hK K)
        apply Lp.any rfl
        · intro w hw
          go_simp
          exact Lp.ret (HW.out _)
        intro K hK
        rintro v rfl
        go_simp
        refine hK.out _ ?_
        clear hK K
        iterate 1 (
          apply Lp.one ?_ rfl
          · intro w hw
            obtain ⟨k0, k1, k2⟩ := HF.out _ hw
            go_simp
            exact rfl
          intro K hK
          go_simp
          refine hK.out _ ?_
          clear hK K)
        apply Lp.any rfl
        · intro w hw
          go_simp
          exact Lp.ret (HV.out _)
        intro K hK
        rintro v rfl
        go_simp
        refine hK.out _ ?_
        clear hK K
        iterate 2 (
          apply Lp.one ?_ rfl
          · intro w hw
            obtain ⟨k0, k1, k2⟩ := HF.out _ hw
            go_simp
            exact rfl
          intro K hK
          go_simp
          refine hK.out _ ?_
          clear hK K)
        rotate_left
        exact []
        intro v6 hm
        clear kA kB kC
        replace BA := BA.keep hm
        replace BB := BB.keep hm
        replace BC := BC.keep hm
        replace HB := HB.call hm
        clear hm
        have kA := BA.cell
        have kB := BB.cell
        have kC := BC.cell
        go_wp2_with fail
        refine Calls.mono (awake5 _) ?_
        rintro e v7 ⟨v, rfl, rfl, hm⟩
        clear kA kB kC
        replace BA := BA.keep hm
        replace BB := BB.keep hm
        replace BC := BC.keep hm
        replace HB := HB.call hm
        clear hm
        have kA := BA.cell
        have kB := BB.cell
        have kC := BC.cell
        go_wp2_with fail
        refine Calls.mono (HK.out _) ?_
        rintro e v8 ⟨v, rfl, rfl, hm⟩
        clear kA kB kC
        replace BA := BA.keep hm
        replace BB := BB.keep hm
        replace BC := BC.keep hm
        replace HB := HB.call hm
        clear hm
        have kA := BA.cell
        have kB := BB.cell
        have kC := BC.cell
        go_wp2_with fail
        refine Calls.mono (HC.out _) ?_
        rintro e v9 ⟨v, rfl, rfl, hm⟩
        clear kA kB kC
        replace BA := BA.keep hm
        replace BB := BB.keep hm
        replace BC := BC.keep hm
        replace HB := HB.call hm
        clear hm
        have kA := BA.cell
        have kB := BB.cell
        have kC := BC.cell
        go_wp2_with fail
        go_ret
        exact ⟨_, rfl, rfl, HB⟩

end Go.Proofs.Ytldblpgopgggdaa
