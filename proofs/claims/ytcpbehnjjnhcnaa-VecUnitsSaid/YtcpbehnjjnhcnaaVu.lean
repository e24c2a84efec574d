/- What must come at any rate (awake). -/
import Derived.Test.YtcpbehnjjnhcnaaVc
import Derived.Test.YtcpbehnjjnhcnaaVk
namespace Go.Proofs.Ytcpbehnjjnhcnaa
open Go.RowKit Fl

/-- 1, 2, 3, 4, 5, 6; 32; -3; 0.6. -/
abbrev f1 : Nat := 4607182418800017408
abbrev f2 : Nat := 4611686018427387904
abbrev f3 : Nat := 4613937818241073152
abbrev f4 : Nat := 4616189618054758400
abbrev f5 : Nat := 4617315517961601024
abbrev f6 : Nat := 4618441417868443648

theorem eq_of {r z c : Nat} (h : Eqv r z) (k : ford z c = some .eq) : (FloatKind.f64.format.order r c == some .eq) = true := by
  rw [show FloatKind.f64.format.order r c = ford r c from rfl, ford_congr h.sm (Sm.refl c), k]; rfl
theorem feq_of {r z c : Nat} (h : Eqv r z) (k : ford z c = some .eq) : Op.floatEq .f64 r c = true := eq_of h k

theorem aw_dot : ford (dotF f1 f2 f3 f4 f5 f6) 4629700416936869888 = some .eq := by decide +kernel
theorem aw_x : ford (fsub (fmul f2 f6) (fmul f3 f5)) 13837309855095848960 = some .eq := by decide +kernel
theorem aw_y : ford (fsub (fmul f3 f4) (fmul f1 f6)) 4618441417868443648 = some .eq := by decide +kernel
theorem aw_z : ford (fsub (fmul f1 f5) (fmul f2 f4)) 13837309855095848960 = some .eq := by decide +kernel
theorem aw_len : ford (fsqrt (dotF f3 0 f4 f3 0 f4)) 4617315517961601024 = some .eq := by decide +kernel
theorem aw_unit : unitB (lenF f3 0 f4) = true := by decide +kernel
theorem aw_ux : ford (fdiv f3 (lenF f3 0 f4)) 4603579539098121011 = some .eq := by decide +kernel

set_option maxRecDepth 100000 in
set_option maxHeartbeats 1000000 in
theorem awake_any (w : World) : Ret Try.prog 7 #[] w (fun v => v = .bool true) := by
  unfold Ret
  go_enter Try.func7, Try.ntmps7
  go_wp2_with fail
  refine Calls.mono (unit_any f3 0 f4 _) ?_
  rw [aw_unit]
  rintro e w1 ⟨v, rfl, ⟨a, b, c, rfl, ha, _, _⟩, hb⟩
  have hu := eq_of ha aw_ux
  have HX : Hid (Cl ((w.alloc (.cells #[.float .f64 f1, .float .f64 f2, .float .f64 f3] 24)).alloc (.cells #[.float .f64 f4, .float .f64 f5, .float .f64 f6] 24)) (w1.alloc (.cells #[.float .f64 a, .float .f64 b, .float .f64 c] 24))) := Cl.alloc hb _
  have hsz : w.heap.size + 1 < w1.heap.size := by have := hb.size; simp at this; omega
  clear hb ha
  obtain ⟨a0, a1, a2⟩ := HX.out.three (b := w.heap.size) (by go_simp; exact rfl) (by go_simp; exact rfl) (by go_simp; exact rfl) (by go_simp; done)
  obtain ⟨b0, b1, b2⟩ := HX.out.three (b := w.heap.size + 1) (by go_simp; exact rfl) (by go_simp; exact rfl) (by go_simp; exact rfl) (by go_simp; done)
  have HA : Hid (∀ w', Cl (w1.alloc (.cells #[.float .f64 a, .float .f64 b, .float .f64 c] 24)) w' → _) := fun w' h => h.three a0 a1 a2 (by simp; omega)
  have HB : Hid (∀ w', Cl (w1.alloc (.cells #[.float .f64 a, .float .f64 b, .float .f64 c] 24)) w' → _) := fun w' h => h.three b0 b1 b2 (by simp; omega)
  have HU : Hid (∀ w', Cl (w1.alloc (.cells #[.float .f64 a, .float .f64 b, .float .f64 c] 24)) w' → _) := fun w' h => h.three (b := w1.heap.size) (by go_simp; exact rfl) (by go_simp; exact rfl) (by go_simp; exact rfl) (by go_simp; done)
  go_wp2_with fail
  refine Calls.mono (dot_any f1 f2 f3 f4 f5 f6 _) ?_
  rintro e w2 ⟨v, rfl, ⟨d, rfl, hd⟩, hb⟩
  have he := eq_of hd aw_dot
  have H2 : Hid (Cl (w1.alloc (.cells #[.float .f64 a, .float .f64 b, .float .f64 c] 24)) w2) := hb
  clear hb hd a0 a1 a2 b0 b1 b2
  obtain ⟨a0, a1, a2⟩ := HA.out _ H2.out
  obtain ⟨b0, b1, b2⟩ := HB.out _ H2.out
  go_wp2_with fail
  refine Calls.mono (cross_any f1 f2 f3 f4 f5 f6 _) ?_
  rintro e w3 ⟨v, rfl, ⟨x, y, z, rfl, hx, hy, hz⟩, hb⟩
  have ex := feq_of hx aw_x
  have ey := feq_of hy aw_y
  have ez := feq_of hz aw_z
  have H3 : Hid (Cl (w1.alloc (.cells #[.float .f64 a, .float .f64 b, .float .f64 c] 24)) w3) := H2.out.call hb
  clear hb hx hy hz a0 a1 a2 b0 b1 b2
  go_wp2_with fail
  refine Calls.mono (len_any f3 0 f4 _) ?_
  rintro e w4 ⟨v, rfl, ⟨l, rfl, hl⟩, hb⟩
  have el := eq_of hl aw_len
  have H4 : Hid (Cl (w1.alloc (.cells #[.float .f64 a, .float .f64 b, .float .f64 c] 24)) w4) := H3.out.call hb
  clear hb hl
  obtain ⟨u0, u1, u2⟩ := HU.out _ H4.out
  go_wp2_with fail
  go_ret
  exact ⟨_, rfl, rfl, HX.out.out2.trans (Below.mono H4.out (by simp; omega))⟩
end Go.Proofs.Ytcpbehnjjnhcnaa
