/- The walk of WarpSpace. -/
import Derived.Test.YtnhilikcgfhkbaaZq
namespace Go.Proofs.Ytnhilikcgfhkbaa
open Go.RowKit Fl

theorem feq_true {x y : Nat} (hx : Num x) (hy : Num y) (h : val x = val y) : Op.floatEq .f64 x y = true := eq_true' hx hy h
abbrev v3 (x y z : Nat) : Array Value := #[.float .f64 x, .float .f64 y, .float .f64 z]
abbrev Vec3 (w : World) (b x y z : Nat) : Prop := Lp.Bk w b (v3 x y z) 29
theorem Vec3.cells {w : World} {b x y z : Nat} (h : Vec3 w b x y z) : w.cell? ⟨b, 0, none⟩ = some (.float .f64 x) ∧ w.cell? ⟨b, 1, none⟩ = some (.float .f64 y) ∧ w.cell? ⟨b, 2, none⟩ = some (.float .f64 z) := ⟨Lp.Bk.cell h 0, Lp.Bk.cell h 1, Lp.Bk.cell h 2⟩

set_option maxRecDepth 100000 in
set_option maxHeartbeats 1000000 in
theorem spaces_any (u v : Nat) (w : World) : Calls Try.prog 4 #[.float .f64 u, .float .f64 v] w fun e w' => e = .returned (.bool true) ∧ Below w.heap.size w w' := by
  have H1 := hid (fun w => hemi_any u v w)
  have H2 := hid (fun w => rdisk_any u v w)
  have H3 := hid (fun w => rclean_any u w)
  have H4 := hid (fun w => ball_any u v w)
  have H5 := hid (fun w => rball_any u v w)
  have H6 := hid awake_any
  obtain ⟨nc, c0, c1⟩ := clean_num u
  obtain ⟨nd, d0, _⟩ := unit_sub nc c0 (by grind)
  have HR := hid (root_num nd d0)
  have V := (sect_u v).unit
  obtain ⟨nh, eh, nz, z0⟩ := hemi_len V nc c0 (by grind)
  have nh' : Num (dotR (fmul (secX (cleanF v)) (fsqrt (cleanF u))) (fmul (secY (cleanF v)) (fsqrt (cleanF u))) (fsqrt (fsub Fl.w1 (cleanF u))) (fmul (secX (cleanF v)) (fsqrt (cleanF u))) (fmul (secY (cleanF v)) (fsqrt (cleanF u))) (fsqrt (fsub Fl.w1 (cleanF u)))) := nh
  have eh' : Ab (val (dotR (fmul (secX (cleanF v)) (fsqrt (cleanF u))) (fmul (secY (cleanF v)) (fsqrt (cleanF u))) (fsqrt (fsub Fl.w1 (cleanF u))) (fmul (secX (cleanF v)) (fsqrt (cleanF u))) (fmul (secY (cleanF v)) (fsqrt (cleanF u))) (fsqrt (fsub Fl.w1 (cleanF u)))) - 1) (39 * dl) := eh
  obtain ⟨k1, _⟩ := num_of_add nh'
  obtain ⟨k2, k3⟩ := num_of_add k1
  have nx := num_of_square k2
  have ny := num_of_square k3
  obtain ⟨nq2, eq2⟩ := mul_ab num_two1 (sect_u v).np.1 (by have := (sect_u v).np.2; rw [val_two1]; unfold Ab; constructor <;> grind)
  have nqz : Num (fmul (fmul two1 (densF (secF (cleanF v)))) (fsqrt (fsub Fl.w1 (cleanF u)))) := by
    obtain ⟨_, _, _, _, z1⟩ := sqrt_ab nd d0 (by have := (unit_sub nc c0 (by grind)).2.2; grind)
    have z1 := z1 (unit_sub nc c0 (by grind)).2.2
    have az : Ab (val (fsqrt (fsub Fl.w1 (cleanF u)))) 1 := by unfold Ab; constructor <;> grind
    have ap : Ab (val (fmul two1 (densF (secF (cleanF v))))) 4 := by
      have := (sect_u v).np.2
      have hd := dl_le
      rw [val_two1] at eq2
      unfold Ab at *
      constructor <;> grind
    exact (mul_ab nq2 nz ((ap.mul az).mono (by grind))).1
  obtain ⟨⟨bx, rx, ex⟩, ⟨bY, ry, ey⟩, bz, nb, eb⟩ := ball_near V nc c0 c1
  obtain ⟨nhp, _⟩ := mul_ab (sect_u v).np.1 num_half1 (by have := (sect_u v).np.2; rw [val_half1]; unfold Ab; constructor <;> grind)
  have hs : ∀ w, (binOp .sub 22 (.float .f64 4607182418800017408) (.float .f64 (cleanF u))).run Try.prog w = .ok (.float .f64 (fsub Fl.w1 (cleanF u))) w := fun w => run_sub_num w 22 num_w1 nc
  have hm : ∀ w, _ := fun w => run_mul_num (P := Try.prog) w 22 nq2 nz
  have f1 := feq_true nx nx rfl
  have f2 := feq_true ny ny rfl
  have f3 := feq_true nz nz rfl
  have f4 := ne_self nqz
  have f5 : (FloatKind.f64.format.order (fsqrt (fsub Fl.w1 (cleanF u))) 0 == some .lt) = false := by
    have := lt_val nz num_zero
    rw [val_zero, decide_eq_false (show ¬ val (fsqrt (fsub Fl.w1 (cleanF u))) < 0 by grind)] at this
    exact this
  have f6 := feq_true bx rx ex
  have f7 := feq_true bY ry ey
  have f8 := feq_true bz bz rfl
  have f9 := Fl.eq_self nhp
  have HD := hid (fun w => rdot_num nb w)
  have HE := hid (fun w => rdot_num nh' w)
  have HN := hid (near_true nb num_w1 (by rw [val_w1]; exact eb.mono (by have := dl_ge; grind)))
  have HO := hid (near_true nh' num_w1 (by rw [val_w1]; exact eh'.mono (by have := dl_ge; grind)))
  change Hid (∀ w, Calls Try.prog 12 #[.float .f64 _, .float .f64 4607182418800017408] w _) at HN HO
  clear nc c0 c1 nd d0 V nh eh nz z0 nh' eh' k1 k2 k3 nx ny nq2 eq2 nqz bx rx ex bY ry ey bz nb eb nhp
  generalize dotR (fmul (secX (cleanF v)) (fsqrt (cleanF u))) (fmul (secY (cleanF v)) (fsqrt (cleanF u))) (fsqrt (fsub Fl.w1 (cleanF u))) (fmul (secX (cleanF v)) (fsqrt (cleanF u))) (fmul (secY (cleanF v)) (fsqrt (cleanF u))) (fsqrt (fsub Fl.w1 (cleanF u))) = dh at *
  generalize dotR (fmul (secX (cleanF v)) (ballR (cleanF u))) (fmul (secY (cleanF v)) (ballR (cleanF u))) (ballZ (cleanF u)) (fmul (secX (cleanF v)) (ballR (cleanF u))) (fmul (secY (cleanF v)) (ballR (cleanF u))) (ballZ (cleanF u)) = db at *
  generalize fmul (secX (cleanF v)) (ballR (cleanF u)) = BX at *
  generalize fmul (secY (cleanF v)) (ballR (cleanF u)) = BY at *
  generalize fmul (secX (cleanF v)) (fsqrt (ballQ (cleanF u))) = CX at *
  generalize fmul (secY (cleanF v)) (fsqrt (ballQ (cleanF u))) = CY at *
  generalize ballZ (cleanF u) = BZ at *
  generalize fmul (densF (secF (cleanF v))) half1 = hp at *
  generalize fmul (fmul two1 (densF (secF (cleanF v)))) (fsqrt (fsub Fl.w1 (cleanF u))) = qz at *
  generalize fmul two1 (densF (secF (cleanF v))) = q at *
  generalize fmul (secX (cleanF v)) (fsqrt (cleanF u)) = X at *
  generalize fmul (secY (cleanF v)) (fsqrt (cleanF u)) = Y at *
  generalize cleanF u = c at *
  generalize fsub Fl.w1 c = d at *
  generalize fsqrt d = Z at *
  go_enter Try.func4, Try.ntmps4
  go_wp2_with fail
  refine Calls.mono (H1.out _) ?_
  rintro e w1 ⟨rfl, hb⟩
  have HB1 := hid hb
  clear hb
  go_wp2_with fail
  refine Calls.mono (H2.out _) ?_
  rintro e w' ⟨rfl, hw⟩
  obtain rfl := hw.symm
  clear hw
  go_wp2_with fail
  refine Calls.mono (H3.out _) ?_
  rintro e w' ⟨rfl, hw⟩
  obtain rfl := hw.symm
  clear hw
  go_wp2_with fail
  refine Calls.mono (HR.out _) ?_
  rintro e w' ⟨rfl, hw⟩
  obtain rfl := hw.symm
  clear hw
  go_wp2_with fail
  refine Calls.mono (H4.out _) ?_
  rintro e w2 ⟨rfl, hb⟩
  have HA : Hid (Vec3 w2 w1.heap.size X Y Z) := hid ((Lp.Bk.al w1 (v3 X Y Z) 29).keep hb)
  have HB2 := hid ((HB1.out.alloc HB1.out.size _).trans (hb.mono (by have := HB1.out.size; simp; omega)))
  have HS2 : Hid (w1.heap.size < w2.heap.size) := hid HA.out.lt
  clear hb HB1
  go_wp2_with fail
  refine Calls.mono (H5.out _) ?_
  rintro e w3 ⟨rfl, hb⟩
  have HA3 : Hid (Vec3 w3 w1.heap.size X Y Z) := hid ((HA.out.alo _).keep hb)
  have HC3 : Hid (Vec3 w3 w2.heap.size BX BY BZ) := hid ((Lp.Bk.al w2 (v3 BX BY BZ) 29).keep hb)
  have HB3 := hid ((HB2.out.alloc HB2.out.size _).trans (hb.mono (by have := HB2.out.size; simp; omega)))
  clear hb HA HB2
  obtain ⟨b0, b1, b2⟩ := HC3.out.cells
  have l3 := HC3.out.lt
  go_wp2_with fail
  refine Calls.mono (HD.out _) ?_
  rintro e w4 ⟨rfl, hb⟩
  have HA4 : Hid (Vec3 w4 w1.heap.size X Y Z) := hid ((HA3.out.alo _).keep hb)
  have HC4 : Hid (Vec3 w4 w2.heap.size BX BY BZ) := hid ((HC3.out.alo _).keep hb)
  have HE4 : Hid (Vec3 w4 w3.heap.size CX CY BZ) := hid ((Lp.Bk.al w3 (v3 CX CY BZ) 29).keep hb)
  have HB4 := hid ((HB3.out.alloc HB3.out.size _).trans (hb.mono (by have := HB3.out.size; simp; omega)))
  clear hb HA3 HC3 HB3 b0 b1 b2 l3
  go_wp2_with fail
  refine Calls.mono (H6.out _) ?_
  rintro e w5 ⟨rfl, hb⟩
  have HA5 : Hid (Vec3 w5 w1.heap.size X Y Z) := hid (HA4.out.keep hb)
  have HB5 := hid (HB4.out.trans (hb.mono HB4.out.size))
  obtain ⟨b0, b1, b2⟩ := Vec3.cells (Lp.Bk.keep HC4.out hb)
  obtain ⟨c0, c1, c2⟩ := Vec3.cells (Lp.Bk.keep HE4.out hb)
  obtain ⟨a0, a1, a2⟩ := HA5.out.cells
  clear hb HA4 HC4 HE4 HB4 HA5
  go_wp2_with fail
  refine Calls.mono (HE.out _) ?_
  rintro e w6 ⟨rfl, hb⟩
  have HB6 := hid (HB5.out.trans (hb.mono HB5.out.size))
  clear hb HB5 a0 a1 a2 b0 b1 b2 c0 c1 c2
  go_wp2_with fail
  refine Calls.mono (HO.out _) ?_
  rintro e w' ⟨rfl, hw⟩
  obtain rfl := hw.symm
  clear hw
  go_wp2_with fail
  refine Calls.mono (HN.out _) ?_
  rintro e w' ⟨rfl, hw⟩
  obtain rfl := hw.symm
  clear hw
  go_wp2_with fail
  go_ret
  exact ⟨rfl, HB6.out⟩
end Go.Proofs.Ytnhilikcgfhkbaa
