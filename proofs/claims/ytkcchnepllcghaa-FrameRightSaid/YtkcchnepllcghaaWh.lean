/- The law's own calls that must come at any rate. -/
import Derived.Test.YtkcchnepllcghaaRows
import Derived.Test.YtkcchnepllcghaaWa
import Derived.Test.YtkcchnepllcghaaWe
namespace Go.Proofs.Ytkcchnepllcghaa
open Go.RowKit Fl

abbrev wnz : Nat := 9223372036854775808
abbrev w2p : Nat := 4611686018427387904
abbrev w3p : Nat := 4613937818241073152

theorem eqv_exact {r z c : Nat} (h : Eqv r z) (e : z = c) (hn : isN c = false) : r = c := by
  subst e
  exact (h.sm.symm.eq hn).symm

theorem new_up (w : World) : Ret Try.prog 9 #[.agg #[.float .f64 0, .float .f64 0, .float .f64 w1p]] w (fun v => v = .agg #[.float .f64 w1p, .float .f64 wnz, .float .f64 0, .float .f64 wnz, .float .f64 w1p, .float .f64 0, .float .f64 0, .float .f64 0, .float .f64 w1p]) := by
  refine (new_any 0 0 w1p (by unfold Wd; decide) (by unfold Wd; decide) (by unfold Wd; decide) w).mono ?_
  rintro v ⟨r0, r1, r2, r3, r4, r5, r6, r7, r8, rfl, h0, h1, h2, h3, h4, h5, h6, h7, h8⟩
  rw [eqv_exact h0 (c := w1p) (by decide +kernel) (by decide +kernel), eqv_exact h1 (c := wnz) (by decide +kernel) (by decide +kernel), eqv_exact h2 (c := 0) (by decide +kernel) (by decide +kernel), eqv_exact h3 (c := wnz) (by decide +kernel) (by decide +kernel), eqv_exact h4 (c := w1p) (by decide +kernel) (by decide +kernel), eqv_exact h5 (c := 0) (by decide +kernel) (by decide +kernel), eqv_exact h6 (c := 0) (by decide +kernel) (by decide +kernel), eqv_exact h7 (c := 0) (by decide +kernel) (by decide +kernel), eqv_exact h8 (c := w1p) (by decide +kernel) (by decide +kernel)]

theorem new_down (w : World) : Ret Try.prog 9 #[.agg #[.float .f64 0, .float .f64 0, .float .f64 w1m]] w (fun v => v = .agg #[.float .f64 w1p, .float .f64 wnz, .float .f64 0, .float .f64 0, .float .f64 w1m, .float .f64 0, .float .f64 0, .float .f64 0, .float .f64 w1m]) := by
  refine (new_any 0 0 w1m (by unfold Wd; decide) (by unfold Wd; decide) (by unfold Wd; decide) w).mono ?_
  rintro v ⟨r0, r1, r2, r3, r4, r5, r6, r7, r8, rfl, h0, h1, h2, h3, h4, h5, h6, h7, h8⟩
  rw [eqv_exact h0 (c := w1p) (by decide +kernel) (by decide +kernel), eqv_exact h1 (c := wnz) (by decide +kernel) (by decide +kernel), eqv_exact h2 (c := 0) (by decide +kernel) (by decide +kernel), eqv_exact h3 (c := 0) (by decide +kernel) (by decide +kernel), eqv_exact h4 (c := w1m) (by decide +kernel) (by decide +kernel), eqv_exact h5 (c := 0) (by decide +kernel) (by decide +kernel), eqv_exact h6 (c := 0) (by decide +kernel) (by decide +kernel), eqv_exact h7 (c := 0) (by decide +kernel) (by decide +kernel), eqv_exact h8 (c := w1m) (by decide +kernel) (by decide +kernel)]

theorem to_up (w : World) : Ret Try.prog 12 #[.agg #[.float .f64 w1p, .float .f64 wnz, .float .f64 0, .float .f64 wnz, .float .f64 w1p, .float .f64 0, .float .f64 0, .float .f64 0, .float .f64 w1p], .agg #[.float .f64 w1p, .float .f64 w2p, .float .f64 w3p]] w (fun v => v = .agg #[.float .f64 w1p, .float .f64 w2p, .float .f64 w3p]) := by
  refine (to_any w1p wnz 0 wnz w1p 0 0 0 w1p w1p w2p w3p w).mono ?_
  rintro v ⟨r0, r1, r2, rfl, h0, h1, h2⟩
  rw [eqv_exact h0 (c := w1p) (by decide +kernel) (by decide +kernel), eqv_exact h1 (c := w2p) (by decide +kernel) (by decide +kernel), eqv_exact h2 (c := w3p) (by decide +kernel) (by decide +kernel)]

theorem from_up (w : World) : Ret Try.prog 14 #[.agg #[.float .f64 w1p, .float .f64 wnz, .float .f64 0, .float .f64 wnz, .float .f64 w1p, .float .f64 0, .float .f64 0, .float .f64 0, .float .f64 w1p], .agg #[.float .f64 w1p, .float .f64 w2p, .float .f64 w3p]] w (fun v => v = .agg #[.float .f64 w1p, .float .f64 w2p, .float .f64 w3p]) := by
  refine (from_any w1p wnz 0 wnz w1p 0 0 0 w1p w1p w2p w3p (by unfold Wd; decide) (by unfold Wd; decide) (by unfold Wd; decide) w).mono ?_
  rintro v ⟨r0, r1, r2, rfl, h0, h1, h2⟩
  rw [eqv_exact h0 (c := w1p) (by decide +kernel) (by decide +kernel), eqv_exact h1 (c := w2p) (by decide +kernel) (by decide +kernel), eqv_exact h2 (c := w3p) (by decide +kernel) (by decide +kernel)]

set_option maxRecDepth 100000 in
set_option maxHeartbeats 1000000 in
theorem awake_any (w : World) : Ret Try.prog 7 #[] w (fun v => v = .bool true) := by
  unfold Ret
  have e0 : Op.floatEq .f64 0 0 = true := by decide +kernel
  have e1 : Op.floatEq .f64 4607182418800017408 4607182418800017408 = true := by decide +kernel
  have e2 : Op.floatEq .f64 9223372036854775808 0 = true := by decide +kernel
  have e3 : Op.floatEq .f64 13830554455654793216 13830554455654793216 = true := by decide +kernel
  have e4 : Op.floatEq .f64 4611686018427387904 4611686018427387904 = true := by decide +kernel
  have e5 : Op.floatEq .f64 4613937818241073152 4613937818241073152 = true := by decide +kernel
  go_enter Try.func7, Try.ntmps7
  go_wp2_with fail
  refine Calls.mono (new_up _) ?_
  rintro e w1 ⟨v, rfl, rfl, hb⟩
  have H1 : Hid (Below w.heap.size w w1) := hb
  clear hb
  go_wp2_with fail
  refine Calls.mono (new_down _) ?_
  rintro e w2 ⟨v, rfl, rfl, hb⟩
  have H2 : Hid (Cl (w1.alloc (.cells #[.float .f64 w1p, .float .f64 wnz, .float .f64 0, .float .f64 wnz, .float .f64 w1p, .float .f64 0, .float .f64 0, .float .f64 0, .float .f64 w1p] 28)) w2) := hb
  clear hb
  have hsz : w1.heap.size < w2.heap.size := Nat.lt_of_lt_of_le (by simp) H2.out.size
  obtain ⟨a0, a1, a2⟩ := H2.out.three (b := w1.heap.size) (by go_simp; exact rfl) (by go_simp; exact rfl) (by go_simp; exact rfl) (by go_simp; done)
  obtain ⟨b0, b1, b2⟩ := H2.out.next3 (b := w1.heap.size) (by go_simp; exact rfl) (by go_simp; exact rfl) (by go_simp; exact rfl) (by go_simp; done)
  obtain ⟨c0, c1, c2⟩ := H2.out.more3 (b := w1.heap.size) (by go_simp; exact rfl) (by go_simp; exact rfl) (by go_simp; exact rfl) (by go_simp; done)
  go_wp2_with fail
  refine wp_region_loose (Cl _) [none, none, none, none, none, none, none, none, none, none, none, none, none, none, none, none, none, none, none, none, none, none, none, none, none, some (fun v => v = .agg #[.float .f64 w1p, .float .f64 w2p, .float .f64 w3p]), none, none, none, none, none, none, some (fun v => v = .agg #[.float .f64 w1p, .float .f64 w2p, .float .f64 w3p]), none, none, none] 36 (by kernel_rfl) (by kernel_rfl) (by kernel_rfl) (Cl.drew _) ?_
  have HA : Hid (∀ w', Cl ((w2.alloc (.cells #[.float .f64 w1p, .float .f64 wnz, .float .f64 0, .float .f64 0, .float .f64 w1m, .float .f64 0, .float .f64 0, .float .f64 0, .float .f64 w1m] 28)).alloc (.cells #[.float .f64 w1p, .float .f64 w2p, .float .f64 w3p] 24)) w' → _) := fun w' h => h.three (b := w1.heap.size) (by go_simp; exact rfl) (by go_simp; exact rfl) (by go_simp; exact rfl) (by go_simp; done)
  have HB : Hid (∀ w', Cl ((w2.alloc (.cells #[.float .f64 w1p, .float .f64 wnz, .float .f64 0, .float .f64 0, .float .f64 w1m, .float .f64 0, .float .f64 0, .float .f64 0, .float .f64 w1m] 28)).alloc (.cells #[.float .f64 w1p, .float .f64 w2p, .float .f64 w3p] 24)) w' → _) := fun w' h => h.next3 (b := w1.heap.size) (by go_simp; exact rfl) (by go_simp; exact rfl) (by go_simp; exact rfl) (by go_simp; done)
  have HC : Hid (∀ w', Cl ((w2.alloc (.cells #[.float .f64 w1p, .float .f64 wnz, .float .f64 0, .float .f64 0, .float .f64 w1m, .float .f64 0, .float .f64 0, .float .f64 0, .float .f64 w1m] 28)).alloc (.cells #[.float .f64 w1p, .float .f64 w2p, .float .f64 w3p] 24)) w' → _) := fun w' h => h.more3 (b := w1.heap.size) (by go_simp; exact rfl) (by go_simp; exact rfl) (by go_simp; exact rfl) (by go_simp; done)
  have HG : Hid (∀ w', Cl ((w2.alloc (.cells #[.float .f64 w1p, .float .f64 wnz, .float .f64 0, .float .f64 0, .float .f64 w1m, .float .f64 0, .float .f64 0, .float .f64 0, .float .f64 w1m] 28)).alloc (.cells #[.float .f64 w1p, .float .f64 w2p, .float .f64 w3p] 24)) w' → _) := fun w' h => h.three (b := w2.heap.size) (by go_simp; exact rfl) (by go_simp; exact rfl) (by go_simp; exact rfl) (by go_simp; done)
  have HH : Hid (∀ w', Cl ((w2.alloc (.cells #[.float .f64 w1p, .float .f64 wnz, .float .f64 0, .float .f64 0, .float .f64 w1m, .float .f64 0, .float .f64 0, .float .f64 0, .float .f64 w1m] 28)).alloc (.cells #[.float .f64 w1p, .float .f64 w2p, .float .f64 w3p] 24)) w' → _) := fun w' h => h.next3 (b := w2.heap.size) (by go_simp; exact rfl) (by go_simp; exact rfl) (by go_simp; exact rfl) (by go_simp; done)
  have HV : Hid (∀ w', Cl ((w2.alloc (.cells #[.float .f64 w1p, .float .f64 wnz, .float .f64 0, .float .f64 0, .float .f64 w1m, .float .f64 0, .float .f64 0, .float .f64 0, .float .f64 w1m] 28)).alloc (.cells #[.float .f64 w1p, .float .f64 w2p, .float .f64 w3p] 24)) w' → _) := fun w' h => h.three (b := w2.heap.size + 1) (by go_simp; exact rfl) (by go_simp; exact rfl) (by go_simp; exact rfl) (by go_simp; done)
  clear a0 a1 a2 b0 b1 b2 c0 c1 c2
  repeat (
    refine loose_one ?_ rfl (fun w hw => ?_) (fun K hK => ?_)
    rotate_left
    ·obtain ⟨a0, a1, a2⟩ := HA.out _ hw
     obtain ⟨b0, b1, b2⟩ := HB.out _ hw
     obtain ⟨c0, c1, c2⟩ := HC.out _ hw
     obtain ⟨g0, g1, g2⟩ := HG.out _ hw
     obtain ⟨k0, k1, k2⟩ := HH.out _ hw
     obtain ⟨v0, v1, v2⟩ := HV.out _ hw
     go_simp
     exact rfl
    go_simp
    refine hK _ ?_
    clear hK K)
  refine loose_any rfl (fun w hw => ?_) (fun K hK => ?_)
  · go_simp
    exact loose_ret (to_up _) hw
  rintro v rfl
  go_simp
  refine hK _ ?_
  clear hK K
  repeat (
    refine loose_one ?_ rfl (fun w hw => ?_) (fun K hK => ?_)
    rotate_left
    ·obtain ⟨a0, a1, a2⟩ := HA.out _ hw
     obtain ⟨b0, b1, b2⟩ := HB.out _ hw
     obtain ⟨c0, c1, c2⟩ := HC.out _ hw
     obtain ⟨g0, g1, g2⟩ := HG.out _ hw
     obtain ⟨k0, k1, k2⟩ := HH.out _ hw
     obtain ⟨v0, v1, v2⟩ := HV.out _ hw
     go_simp
     exact rfl
    go_simp
    refine hK _ ?_
    clear hK K)
  refine loose_any rfl (fun w hw => ?_) (fun K hK => ?_)
  · go_simp
    exact loose_ret (from_up _) hw
  rintro v rfl
  go_simp
  refine hK _ ?_
  clear hK K
  repeat (
    refine loose_one ?_ rfl (fun w hw => ?_) (fun K hK => ?_)
    rotate_left
    ·obtain ⟨a0, a1, a2⟩ := HA.out _ hw
     obtain ⟨b0, b1, b2⟩ := HB.out _ hw
     obtain ⟨c0, c1, c2⟩ := HC.out _ hw
     obtain ⟨g0, g1, g2⟩ := HG.out _ hw
     obtain ⟨k0, k1, k2⟩ := HH.out _ hw
     obtain ⟨v0, v1, v2⟩ := HV.out _ hw
     go_simp
     exact rfl
    go_simp
    refine hK _ ?_
    clear hK K)
  intro w' hw'
  have HW : Hid (Cl ((w2.alloc (.cells #[.float .f64 w1p, .float .f64 wnz, .float .f64 0, .float .f64 0, .float .f64 w1m, .float .f64 0, .float .f64 0, .float .f64 0, .float .f64 w1m] 28)).alloc (.cells #[.float .f64 w1p, .float .f64 w2p, .float .f64 w3p] 24)) w') := hw'
  clear hw'
  go_wp2_with fail
  go_ret
  refine ⟨_, rfl, rfl, ?_⟩
  exact (H1.out.trans (Cl.out1 H2.out |>.mono H1.out.size)).trans ((Cl.out2 HW.out).mono (Nat.le_trans H1.out.size (Nat.le_of_lt hsz)))

end Go.Proofs.Ytkcchnepllcghaa
