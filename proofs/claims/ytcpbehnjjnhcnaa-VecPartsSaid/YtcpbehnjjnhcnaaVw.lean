/- The reference says yes; the walk of the law VecProducts. -/
import Derived.Test.YtcpbehnjjnhcnaaVu
import Derived.Test.YtcpbehnjjnhcnaaVs
namespace Go.Proofs.Ytcpbehnjjnhcnaa
open Go.RowKit Fl

theorem product_comm (d e : Ieee.Datum) : d.product e = e.product d := by
  cases d <;> cases e <;> simp [Ieee.Datum.product, Nat.mul_comm, Int.add_comm, Bool.xor_comm]
theorem fmul_comm (x y : Nat) : fmul x y = fmul y x := by
  unfold fmul Ieee.Format.mul
  rw [product_comm]

theorem dot_comm (ax ay az bx bY bz : Nat) : dotF ax ay az bx bY bz = dotF bx bY bz ax ay az := by
  unfold dotF
  rw [fmul_comm ax, fmul_comm ay, fmul_comm az]
theorem rsame_true {x y : Nat} (h : Sm x y) (w : World) : Ret Try.prog 19 #[.float .f64 x, .float .f64 y] w (fun v => v = .bool true) :=
  (rsame_any x y w).mono fun _ _ ⟨he, hw⟩ => ⟨_, he, by rw [sameB_of h], by rw [hw]; exact Below.refl _ _⟩
theorem ris_true {ax ay az bx bY bz : Nat} (hx : Sm ax bx) (hy : Sm ay bY) (hz : Sm az bz) (w : World) : Ret Try.prog 8 #[.agg #[.float .f64 ax, .float .f64 ay, .float .f64 az], .agg #[.float .f64 bx, .float .f64 bY, .float .f64 bz]] w (fun v => v = .bool true) :=
  (ris_any ax ay az bx bY bz w).mono fun v h => by rw [h, sameB_of hx, sameB_of hy, sameB_of hz]; rfl

set_option maxRecDepth 100000 in
set_option maxHeartbeats 1000000 in
theorem products_walk (ax ay az bx bY bz : Nat) (w : World) : Ret Try.prog 4 #[.agg #[.float .f64 ax, .float .f64 ay, .float .f64 az], .agg #[.float .f64 bx, .float .f64 bY, .float .f64 bz]] w (fun v => v = .bool true) := by
  unfold Ret
  go_enter Try.func4, Try.ntmps4
  go_wp2_with fail
  refine wp_region_loose (Cl _) [some (fun v => v = .bool true), none, none, none, some (isF (dotF ax ay az bx bY bz)), none, none, some (isF (dotF ax ay az bx bY bz)), some (fun v => v = .bool true), none, none, none, none, some (isV (fsub (fmul ay bz) (fmul az bY)) (fsub (fmul az bx) (fmul ax bz)) (fsub (fmul ax bY) (fmul ay bx))), none, none, some (isV (fsub (fmul ay bz) (fmul az bY)) (fsub (fmul az bx) (fmul ax bz)) (fsub (fmul ax bY) (fmul ay bx))), some (fun v => v = .bool true), none, none, none, none, some (isF (dotF ax ay az bx bY bz)), none, none, some (isF (dotF bx bY bz ax ay az)), some (fun v => v = .bool true), none] 28 (by kernel_rfl) (by kernel_rfl) (by kernel_rfl) (Cl.drew _) ?_
  have HA : Hid (∀ w', Cl ((w.alloc (.cells #[.float .f64 ax, .float .f64 ay, .float .f64 az] 24)).alloc (.cells #[.float .f64 bx, .float .f64 bY, .float .f64 bz] 24)) w' → _) := fun w' h => h.three (b := w.heap.size) (by go_simp; exact rfl) (by go_simp; exact rfl) (by go_simp; exact rfl) (by go_simp; done)
  have HB : Hid (∀ w', Cl ((w.alloc (.cells #[.float .f64 ax, .float .f64 ay, .float .f64 az] 24)).alloc (.cells #[.float .f64 bx, .float .f64 bY, .float .f64 bz] 24)) w' → _) := fun w' h => h.three (b := w.heap.size + 1) (by go_simp; exact rfl) (by go_simp; exact rfl) (by go_simp; exact rfl) (by go_simp; done)
  refine loose_any rfl (fun w hw => ?_) (fun K hK => ?_)
  · go_simp
    exact loose_ret (awake_any _) hw
  rintro v rfl
  go_simp
  refine hK _ ?_
  clear hK K
  repeat (
    refine loose_one ?_ rfl (fun w hw => ?_) (fun K hK => ?_)
    rotate_left
    ·obtain ⟨a0, a1, a2⟩ := HA.out _ hw
     obtain ⟨b0, b1, b2⟩ := HB.out _ hw
     go_simp
     exact rfl
    go_simp
    refine hK _ ?_
    clear hK K)
  refine loose_any rfl (fun w hw => ?_) (fun K hK => ?_)
  · go_simp
    exact loose_ret (dot_any _ _ _ _ _ _ _) hw
  rintro v ⟨r1, rfl, h1⟩
  go_simp
  refine hK _ ?_
  clear hK K
  repeat (
    refine loose_one ?_ rfl (fun w hw => ?_) (fun K hK => ?_)
    rotate_left
    ·obtain ⟨a0, a1, a2⟩ := HA.out _ hw
     obtain ⟨b0, b1, b2⟩ := HB.out _ hw
     go_simp
     exact rfl
    go_simp
    refine hK _ ?_
    clear hK K)
  refine loose_any rfl (fun w hw => ?_) (fun K hK => ?_)
  · go_simp
    exact loose_ret (rdot_any _ _ _ _ _ _ _) hw
  rintro v ⟨r2, rfl, h2⟩
  go_simp
  refine hK _ ?_
  clear hK K
  refine loose_any rfl (fun w hw => ?_) (fun K hK => ?_)
  · go_simp
    exact loose_ret (rsame_true (Sm.trans (Eqv.sm h1) (Sm.symm (Eqv.sm h2))) _) hw
  rintro v rfl
  go_simp
  refine hK _ ?_
  clear hK K
  repeat (
    refine loose_one ?_ rfl (fun w hw => ?_) (fun K hK => ?_)
    rotate_left
    ·obtain ⟨a0, a1, a2⟩ := HA.out _ hw
     obtain ⟨b0, b1, b2⟩ := HB.out _ hw
     go_simp
     exact rfl
    go_simp
    refine hK _ ?_
    clear hK K)
  refine loose_any rfl (fun w hw => ?_) (fun K hK => ?_)
  · go_simp
    exact loose_ret (cross_any _ _ _ _ _ _ _) hw
  rintro v ⟨r3x, r3y, r3z, rfl, h3x, h3y, h3z⟩
  go_simp
  refine hK _ ?_
  clear hK K
  repeat (
    refine loose_one ?_ rfl (fun w hw => ?_) (fun K hK => ?_)
    rotate_left
    ·obtain ⟨a0, a1, a2⟩ := HA.out _ hw
     obtain ⟨b0, b1, b2⟩ := HB.out _ hw
     go_simp
     exact rfl
    go_simp
    refine hK _ ?_
    clear hK K)
  refine loose_any rfl (fun w hw => ?_) (fun K hK => ?_)
  · go_simp
    exact loose_ret (rcross_any _ _ _ _ _ _ _) hw
  rintro v ⟨r4x, r4y, r4z, rfl, h4x, h4y, h4z⟩
  go_simp
  refine hK _ ?_
  clear hK K
  refine loose_any rfl (fun w hw => ?_) (fun K hK => ?_)
  · go_simp
    exact loose_ret (ris_true (Sm.trans (Eqv.sm h3x) (Sm.symm (Eqv.sm h4x))) (Sm.trans (Eqv.sm h3y) (Sm.symm (Eqv.sm h4y))) (Sm.trans (Eqv.sm h3z) (Sm.symm (Eqv.sm h4z))) _) hw
  rintro v rfl
  go_simp
  refine hK _ ?_
  clear hK K
  repeat (
    refine loose_one ?_ rfl (fun w hw => ?_) (fun K hK => ?_)
    rotate_left
    ·obtain ⟨a0, a1, a2⟩ := HA.out _ hw
     obtain ⟨b0, b1, b2⟩ := HB.out _ hw
     go_simp
     exact rfl
    go_simp
    refine hK _ ?_
    clear hK K)
  refine loose_any rfl (fun w hw => ?_) (fun K hK => ?_)
  · go_simp
    exact loose_ret (dot_any _ _ _ _ _ _ _) hw
  rintro v ⟨r5, rfl, h5⟩
  go_simp
  refine hK _ ?_
  clear hK K
  repeat (
    refine loose_one ?_ rfl (fun w hw => ?_) (fun K hK => ?_)
    rotate_left
    ·obtain ⟨a0, a1, a2⟩ := HA.out _ hw
     obtain ⟨b0, b1, b2⟩ := HB.out _ hw
     go_simp
     exact rfl
    go_simp
    refine hK _ ?_
    clear hK K)
  refine loose_any rfl (fun w hw => ?_) (fun K hK => ?_)
  · go_simp
    exact loose_ret (dot_any _ _ _ _ _ _ _) hw
  rintro v ⟨r6, rfl, h6⟩
  go_simp
  refine hK _ ?_
  clear hK K
  refine loose_any rfl (fun w hw => ?_) (fun K hK => ?_)
  · go_simp
    exact loose_ret (rsame_true (Sm.trans (Eqv.sm h5) (Sm.trans (Sm.of_eq (dot_comm _ _ _ _ _ _)) (Sm.symm (Eqv.sm h6)))) _) hw
  rintro v rfl
  go_simp
  refine hK _ ?_
  clear hK K
  repeat (
    refine loose_one ?_ rfl (fun w hw => ?_) (fun K hK => ?_)
    rotate_left
    ·obtain ⟨a0, a1, a2⟩ := HA.out _ hw
     obtain ⟨b0, b1, b2⟩ := HB.out _ hw
     go_simp
     exact rfl
    go_simp
    refine hK _ ?_
    clear hK K)
  intro w' hw'
  go_wp2_with fail
  go_ret
  exact ⟨_, rfl, rfl, hw'.out2⟩

end Go.Proofs.Ytcpbehnjjnhcnaa
