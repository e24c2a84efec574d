/- Package vec's products: product, Dot. -/
import Derived.Test.YtgimkcbegalepaaRows
import Derived.Test.YtgimkcbegalepaaVa
namespace Go.Proofs.Ytgimkcbegalepaa
open Go.RowKit Fl

set_option maxRecDepth 100000 in
set_option maxHeartbeats 400000 in
theorem product_any (x y : Nat) (w : World) : Ret Try.prog 50 #[.float .f64 x, .float .f64 y] w (isF (fmul x y)) := by
  unfold Ret
  go_enter Try.func50, Try.ntmps50
  go_wp2_with fail
  refine upon_mul (Sm.refl _) (Sm.refl _) ?_
  intro r n hr
  go_wp2_with fail
  go_ret
  exact ⟨_, rfl, ⟨r, rfl, hr⟩, below_dr (Below.refl _ _) n⟩

abbrev dotF (ax ay az bx bY bz : Nat) : Nat := fadd (fadd (fmul ax bx) (fmul ay bY)) (fmul az bz)

set_option maxRecDepth 100000 in
set_option maxHeartbeats 1000000 in
theorem dot_any (ax ay az bx bY bz : Nat) (w : World) : Ret Try.prog 43 #[.agg #[.float .f64 ax, .float .f64 ay, .float .f64 az], .agg #[.float .f64 bx, .float .f64 bY, .float .f64 bz]] w (isF (dotF ax ay az bx bY bz)) := by
  unfold Ret
  go_enter Try.func43, Try.ntmps43
  go_wp2_with fail
  refine wp_region_loose (Cl _) [none, none, none, none, some (isF (fmul ax bx)), none, none, none, none, some (isF (fmul ay bY)), some (isF (fadd (fmul ax bx) (fmul ay bY))), none, none, none, none, some (isF (fmul az bz)), some (isF (dotF ax ay az bx bY bz))] 17 (by kernel_rfl) (by kernel_rfl) (by kernel_rfl) (Cl.drew _) ?_
  have HA : Hid (∀ w', Cl ((w.alloc (.cells #[.float .f64 ax, .float .f64 ay, .float .f64 az] 24)).alloc (.cells #[.float .f64 bx, .float .f64 bY, .float .f64 bz] 24)) w' → _) := fun w' h => h.three (b := w.heap.size) (by go_simp; exact rfl) (by go_simp; exact rfl) (by go_simp; exact rfl) (by go_simp; done)
  have HB : Hid (∀ w', Cl ((w.alloc (.cells #[.float .f64 ax, .float .f64 ay, .float .f64 az] 24)).alloc (.cells #[.float .f64 bx, .float .f64 bY, .float .f64 bz] 24)) w' → _) := fun w' h => h.three (b := w.heap.size + 1) (by go_simp; exact rfl) (by go_simp; exact rfl) (by go_simp; exact rfl) (by go_simp; done)
  repeat (
    refine loose_one ?_ rfl (fun w hw => ?_) (fun K hK => ?_)
    rotate_left
    ·obtain ⟨a0, a1, a2⟩ := HA.out _ hw
     obtain ⟨b0, b1, b2⟩ := HB.out _ hw
     go_simp
     exact rfl
    go_simp
    refine hK _ ?_
    clear hK K)
  refine loose_any rfl (fun w hw => ?_) (fun K hK => ?_)
  · go_simp
    exact loose_ret (product_any _ _ _) hw
  rintro v ⟨r, rfl, hr⟩
  go_simp
  refine hK _ ?_
  clear hK K
  repeat (
    refine loose_one ?_ rfl (fun w hw => ?_) (fun K hK => ?_)
    rotate_left
    ·obtain ⟨a0, a1, a2⟩ := HA.out _ hw
     obtain ⟨b0, b1, b2⟩ := HB.out _ hw
     go_simp
     exact rfl
    go_simp
    refine hK _ ?_
    clear hK K)
  refine loose_any rfl (fun w hw => ?_) (fun K hK => ?_)
  · go_simp
    exact loose_ret (product_any _ _ _) hw
  rintro v ⟨r, rfl, hr⟩
  go_simp
  refine hK _ ?_
  clear hK K
  refine loose_any rfl (fun w hw => ?_) (fun K hK => ?_)
  · go_simp
    exact loose_add (by first | exact Eqv.sm (by assumption) | exact Sm.refl _) (by first | exact Eqv.sm (by assumption) | exact Sm.refl _) (fun n => hw.drewN n)
  rintro v ⟨r, rfl, h⟩
  go_simp
  refine hK _ ?_
  clear hK K
  repeat (
    refine loose_one ?_ rfl (fun w hw => ?_) (fun K hK => ?_)
    rotate_left
    ·obtain ⟨a0, a1, a2⟩ := HA.out _ hw
     obtain ⟨b0, b1, b2⟩ := HB.out _ hw
     go_simp
     exact rfl
    go_simp
    refine hK _ ?_
    clear hK K)
  refine loose_any rfl (fun w hw => ?_) (fun K hK => ?_)
  · go_simp
    exact loose_ret (product_any _ _ _) hw
  rintro v ⟨r, rfl, hr⟩
  go_simp
  refine hK _ ?_
  clear hK K
  refine loose_any rfl (fun w hw => ?_) (fun K hK => ?_)
  · go_simp
    exact loose_add (by first | exact Eqv.sm (by assumption) | exact Sm.refl _) (by first | exact Eqv.sm (by assumption) | exact Sm.refl _) (fun n => hw.drewN n)
  rintro v ⟨r, rfl, h⟩
  go_simp
  refine hK _ ?_
  clear hK K
  intro w' hw'
  go_wp2_with fail
  go_ret
  exact ⟨_, rfl, ⟨_, rfl, by assumption⟩, hw'.out2⟩
end Go.Proofs.Ytgimkcbegalepaa
