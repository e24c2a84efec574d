/- The walk of the law VecUnits. -/
import Derived.Test.YtcpbehnjjnhcnaaVt
import Derived.Test.YtcpbehnjjnhcnaaVw
namespace Go.Proofs.Ytcpbehnjjnhcnaa
open Go.RowKit Fl

set_option maxRecDepth 100000 in
set_option maxHeartbeats 1000000 in
theorem units_walk (ax ay az : Nat) (w : World) : Ret Try.prog 5 #[.agg #[.float .f64 ax, .float .f64 ay, .float .f64 az]] w (fun v => v = .bool true) := by
  unfold Ret
  have HU0 : Hid _ := unit_any ax ay az
  have HR0 : Hid (∀ w : World, Ret Try.prog 25 #[.agg #[.float .f64 ax, .float .f64 ay, .float .f64 az]] w (fun v => ∃ a b c, v = .tuple #[.agg #[.float .f64 a, .float .f64 b, .float .f64 c], .bool (unitB (lenF ax ay az))] ∧
    Eqv a (if unitB (lenF ax ay az) then fdiv ax (lenF ax ay az) else 0) ∧ Eqv b (if unitB (lenF ax ay az) then fdiv ay (lenF ax ay az) else 0) ∧ Eqv c (if unitB (lenF ax ay az) then fdiv az (lenF ax ay az) else 0))) := fun w => runit_any ax ay az w
  generalize unitB (lenF ax ay az) = ok at HU0 HR0
  go_enter Try.func5, Try.ntmps5
  go_wp2_with fail
  refine Calls.mono (HU0.out _) ?_
  rintro e w1 ⟨v, rfl, ⟨ux, uy, uz, rfl, hux, huy, huz⟩, hb⟩
  have H1 : Hid (Cl (w.alloc (.cells #[.float .f64 ax, .float .f64 ay, .float .f64 az] 24)) (w1.alloc (.cells #[.float .f64 ux, .float .f64 uy, .float .f64 uz] 24))) := Cl.alloc hb _
  have s1 : w.heap.size < w1.heap.size := by have := hb.size; simp at this; omega
  clear hb
  obtain ⟨a0, a1, a2⟩ := H1.out.three (b := w.heap.size) (by go_simp; exact rfl) (by go_simp; exact rfl) (by go_simp; exact rfl) (by go_simp; done)
  go_wp2_with fail
  refine Calls.mono (HR0.out _) ?_
  rintro e w2 ⟨v, rfl, ⟨vx, vy, vz, rfl, hvx, hvy, hvz⟩, hb⟩
  have H2 : Hid (Cl (w1.alloc (.cells #[.float .f64 ux, .float .f64 uy, .float .f64 uz] 24)) (w2.alloc (.cells #[.float .f64 vx, .float .f64 vy, .float .f64 vz] 24))) := Cl.alloc hb _
  have s2 : w1.heap.size < w2.heap.size := by have := hb.size; simp at this; omega
  clear hb
  obtain ⟨b0, b1, b2⟩ := H2.out.three a0 a1 a2 (by simp; omega)
  obtain ⟨u0, u1, u2⟩ := H2.out.three (b := w1.heap.size) (by go_simp; exact rfl) (by go_simp; exact rfl) (by go_simp; exact rfl) (by go_simp; done)
  clear a0 a1 a2
  go_wp2_with fail
  refine Calls.mono (rdot_any ax ay az ax ay az _) ?_
  rintro e w3 ⟨v, rfl, ⟨d, rfl, hd⟩, hb⟩
  have H3 : Hid (Cl (w2.alloc (.cells #[.float .f64 vx, .float .f64 vy, .float .f64 vz] 24)) w3) := hb
  clear hb
  go_wp2_with fail
  refine Calls.mono (sqrt_any d _) ?_
  rintro e w4 ⟨v, rfl, ⟨l, rfl, hl0⟩, hb⟩
  have H4 : Hid (Cl (w2.alloc (.cells #[.float .f64 vx, .float .f64 vy, .float .f64 vz] 24)) w4) := H3.out.call hb
  have hl : Eqv l (lenF ax ay az) := hl0.to (Sm.of_eq (fsqrt_congr hd.sm))
  clear hb hl0
  have HA : Hid (∀ w', Cl w4 w' → _) := fun w' h => (H4.out.call h).three b0 b1 b2 (by simp; omega)
  have HU : Hid (∀ w', Cl w4 w' → _) := fun w' h => (H4.out.call h).three u0 u1 u2 (by simp; omega)
  have HV : Hid (∀ w', Cl w4 w' → _) := fun w' h => (H4.out.call h).three (b := w2.heap.size) (by go_simp; exact rfl) (by go_simp; exact rfl) (by go_simp; exact rfl) (by go_simp; done)
  clear b0 b1 b2 u0 u1 u2
  go_wp2_with fail
  refine wp_region_loose (Cl _) [some (fun v => v = .bool true), none, none, none, some (fun v => v = .bool true), none, none, none, none, none, none, none, none, some (isF (dotF ax ay az ax ay az)), none, none, some (isF (dotF ax ay az ax ay az)), some (fun v => v = .bool true), none, none, none, some (isF (lenF ax ay az)), none, some (fun v => v = .bool true), none] 25 (by kernel_rfl) (by kernel_rfl) (by kernel_rfl) (Cl.drew _) ?_
  refine loose_any rfl (fun w hw => ?_) (fun K hK => ?_)
  · go_simp
    exact loose_ret (awake_any _) hw
  rintro v rfl
  go_simp
  refine hK _ ?_
  clear hK K
  repeat (
    refine loose_one ?_ rfl (fun w hw => ?_) (fun K hK => ?_)
    rotate_left
    ·obtain ⟨a0, a1, a2⟩ := HA.out _ hw
     obtain ⟨u0, u1, u2⟩ := HU.out _ hw
     obtain ⟨v0, v1, v2⟩ := HV.out _ hw
     go_simp
     exact rfl
    go_simp
    refine hK _ ?_
    clear hK K)
  refine loose_any rfl (fun w hw => ?_) (fun K hK => ?_)
  · go_simp
    exact loose_ret (ris_true (Sm.trans (Eqv.sm hux) (Sm.symm (Eqv.sm hvx))) (Sm.trans (Eqv.sm huy) (Sm.symm (Eqv.sm hvy))) (Sm.trans (Eqv.sm huz) (Sm.symm (Eqv.sm hvz))) _) hw
  rintro v rfl
  go_simp
  refine hK _ ?_
  clear hK K
  repeat (
    refine loose_one ?_ rfl (fun w hw => ?_) (fun K hK => ?_)
    rotate_left
    ·obtain ⟨a0, a1, a2⟩ := HA.out _ hw
     obtain ⟨u0, u1, u2⟩ := HU.out _ hw
     obtain ⟨v0, v1, v2⟩ := HV.out _ hw
     go_simp
     exact rfl
    go_simp
    refine hK _ ?_
    clear hK K)
  refine loose_any rfl (fun w hw => ?_) (fun K hK => ?_)
  · go_simp
    exact loose_ret (len2_any _ _ _ _) hw
  rintro v ⟨r1, rfl, h1⟩
  go_simp
  refine hK _ ?_
  clear hK K
  repeat (
    refine loose_one ?_ rfl (fun w hw => ?_) (fun K hK => ?_)
    rotate_left
    ·obtain ⟨a0, a1, a2⟩ := HA.out _ hw
     obtain ⟨u0, u1, u2⟩ := HU.out _ hw
     obtain ⟨v0, v1, v2⟩ := HV.out _ hw
     go_simp
     exact rfl
    go_simp
    refine hK _ ?_
    clear hK K)
  refine loose_any rfl (fun w hw => ?_) (fun K hK => ?_)
  · go_simp
    exact loose_ret (rdot_any _ _ _ _ _ _ _) hw
  rintro v ⟨r2, rfl, h2⟩
  go_simp
  refine hK _ ?_
  clear hK K
  refine loose_any rfl (fun w hw => ?_) (fun K hK => ?_)
  · go_simp
    exact loose_ret (rsame_true (Sm.trans (Eqv.sm h1) (Sm.symm (Eqv.sm h2))) _) hw
  rintro v rfl
  go_simp
  refine hK _ ?_
  clear hK K
  repeat (
    refine loose_one ?_ rfl (fun w hw => ?_) (fun K hK => ?_)
    rotate_left
    ·obtain ⟨a0, a1, a2⟩ := HA.out _ hw
     obtain ⟨u0, u1, u2⟩ := HU.out _ hw
     obtain ⟨v0, v1, v2⟩ := HV.out _ hw
     go_simp
     exact rfl
    go_simp
    refine hK _ ?_
    clear hK K)
  refine loose_any rfl (fun w hw => ?_) (fun K hK => ?_)
  · go_simp
    exact loose_ret (len_any _ _ _ _) hw
  rintro v ⟨r3, rfl, h3⟩
  go_simp
  refine hK _ ?_
  clear hK K
  repeat (
    refine loose_one ?_ rfl (fun w hw => ?_) (fun K hK => ?_)
    rotate_left
    ·obtain ⟨a0, a1, a2⟩ := HA.out _ hw
     obtain ⟨u0, u1, u2⟩ := HU.out _ hw
     obtain ⟨v0, v1, v2⟩ := HV.out _ hw
     go_simp
     exact rfl
    go_simp
    refine hK _ ?_
    clear hK K)
  refine loose_any rfl (fun w hw => ?_) (fun K hK => ?_)
  · go_simp
    exact loose_ret (rsame_true (Sm.trans (Eqv.sm h3) (Sm.symm (Eqv.sm hl))) _) hw
  rintro v rfl
  go_simp
  refine hK _ ?_
  clear hK K
  repeat (
    refine loose_one ?_ rfl (fun w hw => ?_) (fun K hK => ?_)
    rotate_left
    ·obtain ⟨a0, a1, a2⟩ := HA.out _ hw
     obtain ⟨u0, u1, u2⟩ := HU.out _ hw
     obtain ⟨v0, v1, v2⟩ := HV.out _ hw
     go_simp
     exact rfl
    go_simp
    refine hK _ ?_
    clear hK K)
  intro w' hw'
  go_wp2_with fail
  go_ret
  exact ⟨_, rfl, rfl, H1.out.out1.trans (Below.mono (H2.out.call (Below.mono (H4.out.call hw') (Nat.le_refl _))) (by simp; omega))⟩

end Go.Proofs.Ytcpbehnjjnhcnaa
