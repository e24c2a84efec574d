/- The walk of WarpPlane. -/
import Derived.Test.YtnhilikcgfhkbaaZp
import Derived.Test.YtnhilikcgfhkbaaZo
namespace Go.Proofs.Ytnhilikcgfhkbaa
open Go.RowKit Fl

theorem ne_self {x : Nat} (h : Num x) : (FloatKind.f64.format.order x x != some .eq) = false := by rw [bne, Fl.eq_self h]; rfl
theorem ne_false {x y : Nat} (hx : Num x) (hy : Num y) (h : val x = val y) : (FloatKind.f64.format.order x y != some .eq) = false := by rw [bne, eq_true' hx hy h]; rfl
theorem le_true {x y : Nat} (hx : Num x) (hy : Num y) (h : val x ≤ val y) : (FloatKind.f64.format.order x y == some .lt || FloatKind.f64.format.order x y == some .eq) = true := by
  have := leB_val hx hy
  rw [decide_eq_true h] at this
  exact this
theorem ge_true {x y : Nat} (hx : Num x) (hy : Num y) (h : val y ≤ val x) : (FloatKind.f64.format.order x y == some .gt || FloatKind.f64.format.order x y == some .eq) = true := by
  have := geB_eq x y
  rw [leB_val hy hx, decide_eq_true h] at this
  exact this
def quarter : Nat := 4598175219545276416
theorem num_quarter : Num quarter := ⟨false, 4503599627370496, -54, by decide +kernel⟩
theorem val_quarter : val quarter = 1 / 4 := by decide +kernel

set_option maxRecDepth 100000 in
set_option maxHeartbeats 1000000 in
theorem planes_any (u v : Nat) (w : World) : Calls Try.prog 3 #[.float .f64 u, .float .f64 v] w fun e w' => e = .returned (.bool true) ∧ Below w.heap.size w w' := by
  have H1 := hid (fun w => sector_any u w)
  have H2 := hid (fun w => rsector_any u w)
  have H3 := hid (fun w => disk_any u v w)
  have H4 := hid (fun w => rdisk_any u v w)
  have H5 := hid awake_any
  obtain ⟨nc, c0, c1⟩ := clean_num u
  have U := (sect_u u).unit
  have V := (sect_u v).unit
  have W := unit_one U
  obtain ⟨na, va⟩ := mul_one' U.nx
  obtain ⟨nb, vb⟩ := mul_one' U.ny
  obtain ⟨np, p0, p1⟩ := (sect_u u).np
  obtain ⟨nn, en⟩ := W.near
  obtain ⟨nm, em⟩ := disk_len V nc c0 (by grind)
  obtain ⟨k1, k2⟩ := num_of_add nm
  have ns := num_of_square k1
  have nt := num_of_square k2
  obtain ⟨j1, j2⟩ := num_of_add nn
  obtain ⟨nq2, _⟩ := mul_ab num_two1 (sect_u v).np.1 (by have := (sect_u v).np.2; rw [val_two1]; unfold Ab; constructor <;> grind)
  have hx := ne_false na U.nx va
  have hy := ne_false nb U.ny vb
  have hp := ne_self np
  have m1 : ∀ w, _ := fun w => run_mul_num (P := Try.prog) w 22 na na
  have m2 : ∀ w, _ := fun w => run_mul_num (P := Try.prog) w 22 nb nb
  have m3 : ∀ w, _ := fun w => run_add_num (P := Try.prog) w 22 j1 j2
  have m4 : ∀ w, _ := fun w => run_mul_num (P := Try.prog) w 22 ns ns
  have m5 : ∀ w, _ := fun w => run_mul_num (P := Try.prog) w 22 nt nt
  have m6 : ∀ w, _ := fun w => run_add_num (P := Try.prog) w 22 k1 k2
  have es := Fl.eq_self ns
  have et := Fl.eq_self nt
  have eq' := Fl.eq_self nq2
  have HN := hid (near_true nn num_w1 (by rw [val_w1]; exact en.mono (by have := dl_ge; grind)))
  have g1 := ge_true np num_eighth (by rw [val_eighth]; exact p0)
  have g2 := le_true np num_quarter (by rw [val_quarter]; exact p1)
  have g3 := le_true nm num_o40 (by rw [val_o40]; have := dl_ge; unfold Ab at em; grind)
  change Hid (∀ w, Calls Try.prog 12 #[.float .f64 _, .float .f64 4607182418800017408] w _) at HN
  unfold eighth at g1
  unfold quarter at g2
  unfold o40 at g3
  clear nc c0 c1 U V W na va nb vb np p0 p1 nn en nm em k1 k2 ns nt j1 j2 nq2
  generalize fmul (secX (cleanF u)) Fl.w1 = x at *
  generalize fmul (secY (cleanF u)) Fl.w1 = y at *
  generalize secX (cleanF u) = a at *
  generalize secY (cleanF u) = b at *
  generalize densF (secF (cleanF u)) = p at *
  generalize fmul (secX (cleanF v)) (fsqrt (cleanF u)) = s at *
  generalize fmul (secY (cleanF v)) (fsqrt (cleanF u)) = t at *
  generalize fmul two1 (densF (secF (cleanF v))) = q at *
  generalize fadd (fmul x x) (fmul y y) = n at *
  generalize fadd (fmul s s) (fmul t t) = m at *
  generalize fmul x x = xx at *
  generalize fmul y y = yy at *
  generalize fmul s s = ss at *
  generalize fmul t t = tt at *
  go_enter Try.func3, Try.ntmps3
  go_wp2_with fail
  refine Calls.mono (H1.out _) ?_
  rintro e w1 ⟨rfl, hb⟩
  have HB1 := hid hb
  clear hb
  go_wp2_with fail
  refine Calls.mono (H2.out _) ?_
  rintro e w' ⟨rfl, hw⟩
  obtain rfl := hw.symm
  clear hw
  go_wp2_with fail
  refine Calls.mono (H3.out _) ?_
  rintro e w2 ⟨rfl, hb⟩
  have HB2 := hid (HB1.out.trans (hb.mono HB1.out.size))
  clear hb HB1
  go_wp2_with fail
  refine Calls.mono (H4.out _) ?_
  rintro e w' ⟨rfl, hw⟩
  obtain rfl := hw.symm
  clear hw
  go_wp2_with fail
  refine Calls.mono (H5.out _) ?_
  rintro e w3 ⟨rfl, hb⟩
  have HB3 := hid (HB2.out.trans (hb.mono HB2.out.size))
  clear hb HB2
  go_wp2_with fail
  refine Calls.mono (HN.out _) ?_
  rintro e w' ⟨rfl, hw⟩
  obtain rfl := hw.symm
  clear hw
  go_wp2_with fail
  go_ret
  exact ⟨rfl, HB3.out⟩
end Go.Proofs.Ytnhilikcgfhkbaa
