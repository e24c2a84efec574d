/- Add, Sub, Mul, Scale, Neg, Along. -/
import Derived.Test.YtcpbehnjjnhcnaaVf
import Derived.Test.YtcpbehnjjnhcnaaVg
import Derived.Test.YtcpbehnjjnhcnaaVh
namespace Go.Proofs.Ytcpbehnjjnhcnaa
open Go.RowKit Fl

set_option maxRecDepth 100000 in
set_option maxHeartbeats 1000000 in
theorem add_any (ax ay az bx bY bz : Nat) (w : World) : Ret Try.prog 9 #[.agg #[.float .f64 ax, .float .f64 ay, .float .f64 az], .agg #[.float .f64 bx, .float .f64 bY, .float .f64 bz]] w (isV (fadd ax bx) (fadd ay bY) (fadd az bz)) := by
  unfold Ret
  go_enter Try.func9, Try.ntmps9
  go_wp2_with fail
  refine Calls.mono (pairs_add _ _ _ _ _ _ _) ?_
  rintro e w' ⟨v, rfl, ⟨r1, r2, r3, rfl, h1, h2, h3⟩, hw'⟩
  have HW : Hid (Cl (((w.alloc (.cells #[.float .f64 ax, .float .f64 ay, .float .f64 az] 24)).alloc (.cells #[.float .f64 bx, .float .f64 bY, .float .f64 bz] 24)).alloc (.cells #[.float .f64 0, .float .f64 0, .float .f64 0] 24)) w') := hw'
  obtain ⟨z0, z1, z2⟩ := HW.out.three (b := w.heap.size + 1 + 1) (by go_simp; exact rfl) (by go_simp; exact rfl) (by go_simp; exact rfl) (by go_simp; done)
  obtain ⟨f0, f1, f2⟩ := HW.out.frz (b := w.heap.size + 1 + 1) (by go_simp; done) (by go_simp; done) (by go_simp; done) (by go_simp; done)
  clear hw'
  go_wp2_with fail
  refine bodyPost_ret (v := .agg #[.float .f64 r1, .float .f64 r2, .float .f64 r3]) (by simp [results, go_sem, z0, z1, z2]) rfl ⟨_, rfl, ⟨_, _, _, rfl, by assumption, by assumption, by assumption⟩, ((((HW.out.out3).setCell (by simp <;> omega) _).setCell (by simp <;> omega) _).setCell (by simp <;> omega) _)⟩

set_option maxRecDepth 100000 in
set_option maxHeartbeats 1000000 in
theorem sub_any (ax ay az bx bY bz : Nat) (w : World) : Ret Try.prog 11 #[.agg #[.float .f64 ax, .float .f64 ay, .float .f64 az], .agg #[.float .f64 bx, .float .f64 bY, .float .f64 bz]] w (isV (fsub ax bx) (fsub ay bY) (fsub az bz)) := by
  unfold Ret
  go_enter Try.func11, Try.ntmps11
  go_wp2_with fail
  refine Calls.mono (pairs_sub _ _ _ _ _ _ _) ?_
  rintro e w' ⟨v, rfl, ⟨r1, r2, r3, rfl, h1, h2, h3⟩, hw'⟩
  have HW : Hid (Cl (((w.alloc (.cells #[.float .f64 ax, .float .f64 ay, .float .f64 az] 24)).alloc (.cells #[.float .f64 bx, .float .f64 bY, .float .f64 bz] 24)).alloc (.cells #[.float .f64 0, .float .f64 0, .float .f64 0] 24)) w') := hw'
  obtain ⟨z0, z1, z2⟩ := HW.out.three (b := w.heap.size + 1 + 1) (by go_simp; exact rfl) (by go_simp; exact rfl) (by go_simp; exact rfl) (by go_simp; done)
  obtain ⟨f0, f1, f2⟩ := HW.out.frz (b := w.heap.size + 1 + 1) (by go_simp; done) (by go_simp; done) (by go_simp; done) (by go_simp; done)
  clear hw'
  go_wp2_with fail
  refine bodyPost_ret (v := .agg #[.float .f64 r1, .float .f64 r2, .float .f64 r3]) (by simp [results, go_sem, z0, z1, z2]) rfl ⟨_, rfl, ⟨_, _, _, rfl, by assumption, by assumption, by assumption⟩, ((((HW.out.out3).setCell (by simp <;> omega) _).setCell (by simp <;> omega) _).setCell (by simp <;> omega) _)⟩

set_option maxRecDepth 100000 in
set_option maxHeartbeats 1000000 in
theorem mul_any (ax ay az bx bY bz : Nat) (w : World) : Ret Try.prog 13 #[.agg #[.float .f64 ax, .float .f64 ay, .float .f64 az], .agg #[.float .f64 bx, .float .f64 bY, .float .f64 bz]] w (isV (fmul ax bx) (fmul ay bY) (fmul az bz)) := by
  unfold Ret
  go_enter Try.func13, Try.ntmps13
  go_wp2_with fail
  refine Calls.mono (pairs_mul _ _ _ _ _ _ _) ?_
  rintro e w' ⟨v, rfl, ⟨r1, r2, r3, rfl, h1, h2, h3⟩, hw'⟩
  have HW : Hid (Cl (((w.alloc (.cells #[.float .f64 ax, .float .f64 ay, .float .f64 az] 24)).alloc (.cells #[.float .f64 bx, .float .f64 bY, .float .f64 bz] 24)).alloc (.cells #[.float .f64 0, .float .f64 0, .float .f64 0] 24)) w') := hw'
  obtain ⟨z0, z1, z2⟩ := HW.out.three (b := w.heap.size + 1 + 1) (by go_simp; exact rfl) (by go_simp; exact rfl) (by go_simp; exact rfl) (by go_simp; done)
  obtain ⟨f0, f1, f2⟩ := HW.out.frz (b := w.heap.size + 1 + 1) (by go_simp; done) (by go_simp; done) (by go_simp; done) (by go_simp; done)
  clear hw'
  go_wp2_with fail
  refine bodyPost_ret (v := .agg #[.float .f64 r1, .float .f64 r2, .float .f64 r3]) (by simp [results, go_sem, z0, z1, z2]) rfl ⟨_, rfl, ⟨_, _, _, rfl, by assumption, by assumption, by assumption⟩, ((((HW.out.out3).setCell (by simp <;> omega) _).setCell (by simp <;> omega) _).setCell (by simp <;> omega) _)⟩

set_option maxRecDepth 100000 in
set_option maxHeartbeats 1000000 in
theorem neg_any (ax ay az : Nat) (w : World) : Ret Try.prog 16 #[.agg #[.float .f64 ax, .float .f64 ay, .float .f64 az]] w (isV (fsub 0 ax) (fsub 0 ay) (fsub 0 az)) := by
  unfold Ret
  go_enter Try.func16, Try.ntmps16
  go_wp2_with fail
  refine Calls.mono (parts_neg _ _ _ _) ?_
  rintro e w' ⟨v, rfl, ⟨r1, r2, r3, rfl, h1, h2, h3⟩, hw'⟩
  have HW : Hid (Cl ((w.alloc (.cells #[.float .f64 ax, .float .f64 ay, .float .f64 az] 24)).alloc (.cells #[.float .f64 0, .float .f64 0, .float .f64 0] 24)) w') := hw'
  obtain ⟨z0, z1, z2⟩ := HW.out.three (b := w.heap.size + 1) (by go_simp; exact rfl) (by go_simp; exact rfl) (by go_simp; exact rfl) (by go_simp; done)
  obtain ⟨f0, f1, f2⟩ := HW.out.frz (b := w.heap.size + 1) (by go_simp; done) (by go_simp; done) (by go_simp; done) (by go_simp; done)
  clear hw'
  go_wp2_with fail
  refine bodyPost_ret (v := .agg #[.float .f64 r1, .float .f64 r2, .float .f64 r3]) (by simp [results, go_sem, z0, z1, z2]) rfl ⟨_, rfl, ⟨_, _, _, rfl, by assumption, by assumption, by assumption⟩, ((((HW.out.out2).setCell (by simp <;> omega) _).setCell (by simp <;> omega) _).setCell (by simp <;> omega) _)⟩

set_option maxRecDepth 100000 in
set_option maxHeartbeats 1000000 in
theorem scale_any (ax ay az k : Nat) (w : World) : Ret Try.prog 14 #[.agg #[.float .f64 ax, .float .f64 ay, .float .f64 az], .float .f64 k] w (isV (fmul ax k) (fmul ay k) (fmul az k)) := by
  unfold Ret
  go_enter Try.func14, Try.ntmps14
  go_wp2_with fail
  refine Calls.mono (parts_scale _ _ _ k (w.heap.size + 1) _ (by go_simp; done) (by go_simp; done)) ?_
  rintro e w' ⟨v, rfl, ⟨r1, r2, r3, rfl, h1, h2, h3⟩, hw'⟩
  have HW : Hid (Cl (((w.alloc (.cells #[.float .f64 ax, .float .f64 ay, .float .f64 az] 24)).alloc (.cells #[.float .f64 k] 22)).alloc (.cells #[.float .f64 0, .float .f64 0, .float .f64 0] 24)) w') := hw'
  obtain ⟨z0, z1, z2⟩ := HW.out.three (b := w.heap.size + 1 + 1) (by go_simp; exact rfl) (by go_simp; exact rfl) (by go_simp; exact rfl) (by go_simp; done)
  obtain ⟨f0, f1, f2⟩ := HW.out.frz (b := w.heap.size + 1 + 1) (by go_simp; done) (by go_simp; done) (by go_simp; done) (by go_simp; done)
  clear hw'
  go_wp2_with fail
  refine bodyPost_ret (v := .agg #[.float .f64 r1, .float .f64 r2, .float .f64 r3]) (by simp [results, go_sem, z0, z1, z2]) rfl ⟨_, rfl, ⟨_, _, _, rfl, by assumption, by assumption, by assumption⟩, ((((HW.out.out3).setCell (by simp <;> omega) _).setCell (by simp <;> omega) _).setCell (by simp <;> omega) _)⟩

set_option maxRecDepth 100000 in
set_option maxHeartbeats 1000000 in
theorem along_any (ax ay az bx bY bz k : Nat) (w : World) : Ret Try.prog 17 #[.agg #[.float .f64 ax, .float .f64 ay, .float .f64 az, .float .f64 bx, .float .f64 bY, .float .f64 bz], .float .f64 k] w (isV (fadd ax (fmul bx k)) (fadd ay (fmul bY k)) (fadd az (fmul bz k))) := by
  unfold Ret
  go_enter Try.func17, Try.ntmps17
  go_wp2_with fail
  refine Calls.mono (pairs_along _ _ _ _ _ _ k (w.heap.size + 1) _ (by go_simp; done) (by go_simp; done)) ?_
  rintro e w' ⟨v, rfl, ⟨r1, r2, r3, rfl, h1, h2, h3⟩, hw'⟩
  have HW : Hid (Cl (((w.alloc (.cells #[.float .f64 ax, .float .f64 ay, .float .f64 az, .float .f64 bx, .float .f64 bY, .float .f64 bz] 32)).alloc (.cells #[.float .f64 k] 22)).alloc (.cells #[.float .f64 0, .float .f64 0, .float .f64 0] 24)) w') := hw'
  obtain ⟨z0, z1, z2⟩ := HW.out.three (b := w.heap.size + 1 + 1) (by go_simp; exact rfl) (by go_simp; exact rfl) (by go_simp; exact rfl) (by go_simp; done)
  obtain ⟨f0, f1, f2⟩ := HW.out.frz (b := w.heap.size + 1 + 1) (by go_simp; done) (by go_simp; done) (by go_simp; done) (by go_simp; done)
  clear hw'
  go_wp2_with fail
  refine bodyPost_ret (v := .agg #[.float .f64 r1, .float .f64 r2, .float .f64 r3]) (by simp [results, go_sem, z0, z1, z2]) rfl ⟨_, rfl, ⟨_, _, _, rfl, by assumption, by assumption, by assumption⟩, ((((HW.out.out3).setCell (by simp <;> omega) _).setCell (by simp <;> omega) _).setCell (by simp <;> omega) _)⟩

end Go.Proofs.Ytcpbehnjjnhcnaa
