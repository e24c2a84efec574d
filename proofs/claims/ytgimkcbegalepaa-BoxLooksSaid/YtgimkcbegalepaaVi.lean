/- Add, Sub, Mul, Scale, Neg, Along. -/
import Derived.Test.YtgimkcbegalepaaVf
import Derived.Test.YtgimkcbegalepaaVg
import Derived.Test.YtgimkcbegalepaaVh
namespace Go.Proofs.Ytgimkcbegalepaa
open Go.RowKit Fl

set_option maxRecDepth 100000 in
set_option maxHeartbeats 1000000 in
theorem add_any (ax ay az bx bY bz : Nat) (w : World) : Ret Try.prog 41 #[.agg #[.float .f64 ax, .float .f64 ay, .float .f64 az], .agg #[.float .f64 bx, .float .f64 bY, .float .f64 bz]] w (isV (fadd ax bx) (fadd ay bY) (fadd az bz)) := by
  unfold Ret
  go_enter Try.func41, Try.ntmps41
  go_wp2_with fail
  refine Calls.mono (pairs_add _ _ _ _ _ _ _) ?_
  rintro e w' ⟨v, rfl, ⟨r1, r2, r3, rfl, h1, h2, h3⟩, hw'⟩
  have HW : Hid (Cl (((w.alloc (.cells #[.float .f64 ax, .float .f64 ay, .float .f64 az] 24)).alloc (.cells #[.float .f64 bx, .float .f64 bY, .float .f64 bz] 24)).alloc (.cells #[.float .f64 0, .float .f64 0, .float .f64 0] 24)) w') := hw'
  obtain ⟨z0, z1, z2⟩ := HW.out.three (b := w.heap.size + 1 + 1) (by go_simp; exact rfl) (by go_simp; exact rfl) (by go_simp; exact rfl) (by go_simp; done)
  obtain ⟨f0, f1, f2⟩ := HW.out.frz (b := w.heap.size + 1 + 1) (by go_simp; done) (by go_simp; done) (by go_simp; done) (by go_simp; done)
  clear hw'
  go_wp2_with fail
  refine bodyPost_ret (v := .agg #[.float .f64 r1, .float .f64 r2, .float .f64 r3]) (by simp [results, go_sem, z0, z1, z2]) rfl ⟨_, rfl, ⟨_, _, _, rfl, by assumption, by assumption, by assumption⟩, ((((HW.out.out3).setCell (by simp <;> omega) _).setCell (by simp <;> omega) _).setCell (by simp <;> omega) _)⟩

set_option maxRecDepth 100000 in
set_option maxHeartbeats 1000000 in
theorem sub_any (ax ay az bx bY bz : Nat) (w : World) : Ret Try.prog 42 #[.agg #[.float .f64 ax, .float .f64 ay, .float .f64 az], .agg #[.float .f64 bx, .float .f64 bY, .float .f64 bz]] w (isV (fsub ax bx) (fsub ay bY) (fsub az bz)) := by
  unfold Ret
  go_enter Try.func42, Try.ntmps42
  go_wp2_with fail
  refine Calls.mono (pairs_sub _ _ _ _ _ _ _) ?_
  rintro e w' ⟨v, rfl, ⟨r1, r2, r3, rfl, h1, h2, h3⟩, hw'⟩
  have HW : Hid (Cl (((w.alloc (.cells #[.float .f64 ax, .float .f64 ay, .float .f64 az] 24)).alloc (.cells #[.float .f64 bx, .float .f64 bY, .float .f64 bz] 24)).alloc (.cells #[.float .f64 0, .float .f64 0, .float .f64 0] 24)) w') := hw'
  obtain ⟨z0, z1, z2⟩ := HW.out.three (b := w.heap.size + 1 + 1) (by go_simp; exact rfl) (by go_simp; exact rfl) (by go_simp; exact rfl) (by go_simp; done)
  obtain ⟨f0, f1, f2⟩ := HW.out.frz (b := w.heap.size + 1 + 1) (by go_simp; done) (by go_simp; done) (by go_simp; done) (by go_simp; done)
  clear hw'
  go_wp2_with fail
  refine bodyPost_ret (v := .agg #[.float .f64 r1, .float .f64 r2, .float .f64 r3]) (by simp [results, go_sem, z0, z1, z2]) rfl ⟨_, rfl, ⟨_, _, _, rfl, by assumption, by assumption, by assumption⟩, ((((HW.out.out3).setCell (by simp <;> omega) _).setCell (by simp <;> omega) _).setCell (by simp <;> omega) _)⟩

set_option maxRecDepth 100000 in
set_option maxHeartbeats 1000000 in
theorem scale_any (ax ay az k : Nat) (w : World) : Ret Try.prog 40 #[.agg #[.float .f64 ax, .float .f64 ay, .float .f64 az], .float .f64 k] w (isV (fmul ax k) (fmul ay k) (fmul az k)) := by
  unfold Ret
  go_enter Try.func40, Try.ntmps40
  go_wp2_with fail
  refine Calls.mono (parts_scale _ _ _ k (w.heap.size + 1) _ (by go_simp; done) (by go_simp; done)) ?_
  rintro e w' ⟨v, rfl, ⟨r1, r2, r3, rfl, h1, h2, h3⟩, hw'⟩
  have HW : Hid (Cl (((w.alloc (.cells #[.float .f64 ax, .float .f64 ay, .float .f64 az] 24)).alloc (.cells #[.float .f64 k] 22)).alloc (.cells #[.float .f64 0, .float .f64 0, .float .f64 0] 24)) w') := hw'
  obtain ⟨z0, z1, z2⟩ := HW.out.three (b := w.heap.size + 1 + 1) (by go_simp; exact rfl) (by go_simp; exact rfl) (by go_simp; exact rfl) (by go_simp; done)
  obtain ⟨f0, f1, f2⟩ := HW.out.frz (b := w.heap.size + 1 + 1) (by go_simp; done) (by go_simp; done) (by go_simp; done) (by go_simp; done)
  clear hw'
  go_wp2_with fail
  refine bodyPost_ret (v := .agg #[.float .f64 r1, .float .f64 r2, .float .f64 r3]) (by simp [results, go_sem, z0, z1, z2]) rfl ⟨_, rfl, ⟨_, _, _, rfl, by assumption, by assumption, by assumption⟩, ((((HW.out.out3).setCell (by simp <;> omega) _).setCell (by simp <;> omega) _).setCell (by simp <;> omega) _)⟩

end Go.Proofs.Ytgimkcbegalepaa
