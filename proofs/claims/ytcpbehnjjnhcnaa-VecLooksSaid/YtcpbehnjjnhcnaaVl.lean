/- Same. -/
import Derived.Test.YtcpbehnjjnhcnaaVg
namespace Go.Proofs.Ytcpbehnjjnhcnaa
open Go.RowKit Fl

theorem selF_same (x y : Nat) : (ford (selF x y) (selF y x) == some .eq) = sameB x y := by
  unfold selF sameB
  cases hx : isN x <;> cases hy : isN y
  · simp [ford_refl hx]
  · simp [ford_refl hx]
  · simp [ford_refl hy]
  · rw [ord_nan_left hx, ord_nan_left hx, ord_nan_left hy]
    have e : ford 0 0 = some .eq := by decide +kernel
    simp [e]

def eqvB (ax ay az bx bY bz : Nat) : Bool := sameB ax bx && sameB ay bY && sameB az bz

set_option maxRecDepth 100000 in
set_option maxHeartbeats 1000000 in
theorem same_any (ax ay az bx bY bz : Nat) (hx : Wd ax) (hy : Wd ay) (hz : Wd az) (gx : Wd bx) (gy : Wd bY) (gz : Wd bz) (w : World) : Ret Try.prog 34 #[.agg #[.float .f64 ax, .float .f64 ay, .float .f64 az], .agg #[.float .f64 bx, .float .f64 bY, .float .f64 bz]] w (fun v => v = .bool (eqvB ax ay az bx bY bz)) := by
  unfold Ret
  go_enter Try.func34, Try.ntmps34
  go_wp2_with fail
  refine wp_region_loose (Cl _) [none, none, none, some (isV (selF ax bx) (selF ay bY) (selF az bz)), none, none, none, some (isV (selF bx ax) (selF bY ay) (selF bz az)), none] 9 (by kernel_rfl) (by kernel_rfl) (by kernel_rfl) (Cl.drew _) ?_
  have HA : Hid (∀ w', Cl ((w.alloc (.cells #[.float .f64 ax, .float .f64 ay, .float .f64 az] 24)).alloc (.cells #[.float .f64 bx, .float .f64 bY, .float .f64 bz] 24)) w' → _) := fun w' h => h.three (b := w.heap.size) (by go_simp; exact rfl) (by go_simp; exact rfl) (by go_simp; exact rfl) (by go_simp; done)
  have HB : Hid (∀ w', Cl ((w.alloc (.cells #[.float .f64 ax, .float .f64 ay, .float .f64 az] 24)).alloc (.cells #[.float .f64 bx, .float .f64 bY, .float .f64 bz] 24)) w' → _) := fun w' h => h.three (b := w.heap.size + 1) (by go_simp; exact rfl) (by go_simp; exact rfl) (by go_simp; exact rfl) (by go_simp; done)
  repeat (
    refine loose_one ?_ rfl (fun w hw => ?_) (fun K hK => ?_)
    rotate_left
    ·obtain ⟨a0, a1, a2⟩ := HA.out _ hw
     obtain ⟨b0, b1, b2⟩ := HB.out _ hw
     go_simp
     exact rfl
    go_simp
    refine hK _ ?_
    clear hK K)
  refine loose_any rfl (fun w hw => ?_) (fun K hK => ?_)
  · go_simp
    exact loose_ret (pairs_same _ _ _ _ _ _ _ (by assumption) (by assumption) (by assumption)) hw
  rintro v ⟨r1x, r1y, r1z, rfl, h1x, h1y, h1z⟩
  go_simp
  refine hK _ ?_
  clear hK K
  repeat (
    refine loose_one ?_ rfl (fun w hw => ?_) (fun K hK => ?_)
    rotate_left
    ·obtain ⟨a0, a1, a2⟩ := HA.out _ hw
     obtain ⟨b0, b1, b2⟩ := HB.out _ hw
     go_simp
     exact rfl
    go_simp
    refine hK _ ?_
    clear hK K)
  refine loose_any rfl (fun w hw => ?_) (fun K hK => ?_)
  · go_simp
    exact loose_ret (pairs_same _ _ _ _ _ _ _ (by assumption) (by assumption) (by assumption)) hw
  rintro v ⟨r2x, r2y, r2z, rfl, h2x, h2y, h2z⟩
  go_simp
  refine hK _ ?_
  clear hK K
  repeat (
    refine loose_one ?_ rfl (fun w hw => ?_) (fun K hK => ?_)
    rotate_left
    · obtain ⟨a0, a1, a2⟩ := HA.out _ hw
      obtain ⟨b0, b1, b2⟩ := HB.out _ hw
      go_simp
      exact rfl
    go_simp
    refine hK _ ?_
    clear hK K)
  refine loose_one (.bool (ford r1x r2x == some .eq && ford r1y r2y == some .eq && ford r1z r2z == some .eq)) rfl (fun w hw => ?_) (fun K hK => ?_)
  · go_simp
    exact ite_three _ _ _ w
  go_simp
  refine hK _ ?_
  clear hK K
  intro w' hw'
  go_wp2_with fail
  go_ret
  refine ⟨_, rfl, ?_, hw'.out2⟩
  unfold eqvB
  rw [← selF_same, ← selF_same, ← selF_same, ford_congr h1x.sm h2x.sm, ford_congr h1y.sm h2y.sm, ford_congr h1z.sm h2z.sm]
  rfl
end Go.Proofs.Ytcpbehnjjnhcnaa
