/- Package warp: Bary, Tent. -/
import Derived.Test.YtnhilikcgfhkbaaZe
namespace Go.Proofs.Ytnhilikcgfhkbaa
open Go.RowKit Fl

set_option maxRecDepth 100000 in
set_option maxHeartbeats 1000000 in
theorem bary_any (u v : Nat) (w : World) : Calls Try.prog 19 #[.float .f64 u, .float .f64 v] w fun e w' => e = .returned (.tuple #[.float .f64 (fsub Fl.w1 (fsqrt (cleanF u))), .float .f64 (fmul (fsqrt (cleanF u)) (fsub Fl.w1 (cleanF v))), .float .f64 (fmul (fsqrt (cleanF u)) (cleanF v))]) ∧ w' = w := by
  have HU := hid (clean_any u)
  have HV := hid (clean_any v)
  obtain ⟨nc, c0, c1⟩ := clean_num u
  obtain ⟨nd, d0, d1⟩ := clean_num v
  obtain ⟨nr, _, _⟩ := root_c nc c0 c1
  obtain ⟨ns, _, _⟩ := unit_sub nd d0 (by grind)
  have HR := hid (root_num nc c0)
  have h1 : ∀ w, (binOp .sub 22 (.float .f64 4607182418800017408) (.float .f64 (fsqrt (cleanF u)))).run Try.prog w = .ok (.float .f64 (fsub Fl.w1 (fsqrt (cleanF u)))) w := fun w => run_sub_num w 22 num_w1 nr
  have h2 : ∀ w, (binOp .sub 22 (.float .f64 4607182418800017408) (.float .f64 (cleanF v))).run Try.prog w = .ok (.float .f64 (fsub Fl.w1 (cleanF v))) w := fun w => run_sub_num w 22 num_w1 nd
  have HP := hid (prod_num nr ns)
  have HQ := hid (prod_num nr nd)
  clear nc c0 c1 nd d0 d1 nr ns
  generalize cleanF u = c at *
  generalize cleanF v = d at *
  generalize fsqrt c = r at *
  generalize fsub Fl.w1 r = a at *
  generalize fsub Fl.w1 d = s at *
  generalize fmul r s = x at *
  generalize fmul r d = y at *
  go_enter Try.func19, Try.ntmps19
  go_wp2_with fail
  refine Calls.mono (HU.out _) ?_
  rintro e w' ⟨rfl, hw⟩
  obtain rfl := hw.symm
  clear hw
  go_wp2_with fail
  refine Calls.mono (HR.out _) ?_
  rintro e w' ⟨rfl, hw⟩
  obtain rfl := hw.symm
  clear hw
  go_wp2_with fail
  refine Calls.mono (HV.out _) ?_
  rintro e w' ⟨rfl, hw⟩
  obtain rfl := hw.symm
  clear hw
  go_wp2_with fail
  refine Calls.mono (HP.out _) ?_
  rintro e w' ⟨rfl, hw⟩
  obtain rfl := hw.symm
  clear hw
  go_wp2_with fail
  refine Calls.mono (HQ.out _) ?_
  rintro e w' ⟨rfl, hw⟩
  obtain rfl := hw.symm
  clear hw
  go_wp2_with fail
  exact bodyPost_ret (v := .tuple #[.float .f64 a, .float .f64 x, .float .f64 y]) (by simp [results, go_sem]) rfl ⟨rfl, rfl⟩

/-- Tent, by twice the draw. -/
def tentB (w : Nat) : Bool := ford w 4607182418800017408 == some .lt
def tentF (w : Nat) : Nat := if tentB w then fsub (fsqrt w) Fl.w1 else fsub Fl.w1 (fsqrt (fsub two1 w))
/-- What is known of twice a draw. -/
theorem twice {c : Nat} (hc : Num c) (c0 : 0 ≤ val c) (c1 : val c < 1) : Num (fmul two1 c) ∧ val (fmul two1 c) = 2 * val c ∧ Num (fadd c c) ∧ val (fadd c c) = 2 * val c := by
  have hx : Ex (2 * val c) := by
    obtain ⟨s, m, e, hr⟩ := hc
    have hv : val c = sg s ((m : Rat) * 2 ^ e) := by unfold val; rw [hr, dval_number]
    obtain ⟨b1, b2⟩ := number_bounds hr
    have b3 := read_low hr
    rw [hv]
    by_cases hm : m = 0
    · subst hm
      refine ⟨s, 0, 0, by decide, by decide, by decide, ?_⟩
      rw [dval_number]
      have z : ∀ x : Rat, ((0 : Nat) : Rat) * x = 0 := fun x => Rat.zero_mul _
      rw [z, z]
      cases s <;> simp [sg]
    · have he : e ≤ 0 := by
        rcases Int.lt_or_le 0 e with k | k
        · exfalso
          have l1 := p2_le (show (1 : Int) ≤ e by omega)
          have z : (2 : Rat) ^ (1 : Int) = 2 := by decide +kernel
          rw [z] at l1
          have l2 : (1 : Rat) ≤ m := by exact_mod_cast Nat.pos_of_ne_zero hm
          have l3 := Rat.mul_nonneg (show (0 : Rat) ≤ m - 1 by grind) (show (0 : Rat) ≤ 2 ^ e by grind)
          cases s
          · simp only [sg, Bool.false_eq_true, if_false] at hv
            grind
          · simp only [sg, if_true] at hv
            have := Rat.mul_pos (show (0 : Rat) < m by grind) (p2_pos e)
            grind
        · exact k
      refine ⟨s, m, e + 1, by omega, by omega, by omega, ?_⟩
      rw [dval_number, p2_add]
      have z : (2 : Rat) ^ (1 : Int) = 2 := by decide +kernel
      rw [z]
      cases s <;> simp only [sg, if_true, Bool.false_eq_true, if_false] <;> grind
  obtain ⟨a, b⟩ := mul_ex num_two1 hc (by rw [val_two1]; exact hx)
  obtain ⟨d, e⟩ := add_ex hc hc (by rw [show val c + val c = 2 * val c by grind]; exact hx)
  rw [val_two1] at b
  exact ⟨a, b, d, by rw [e]; grind⟩
/-- What is known of the roots that Tent takes. -/
theorem tent_parts {w : Nat} (hw : Num w) (w0 : 0 ≤ val w) (w2 : val w < 2) : Num (fsqrt w) ∧ Num (fsub (fsqrt w) Fl.w1) ∧ Num (fsub two1 w) ∧ 0 ≤ val (fsub two1 w) ∧ Num (fsqrt (fsub two1 w)) ∧ Num (fsub Fl.w1 (fsqrt (fsub two1 w))) := by
  have hd := dl_le
  have hd0 := dl_ge
  obtain ⟨n1, r0, r3, _, _⟩ := sqrt_ab hw w0 (by grind)
  obtain ⟨n2, _⟩ := sub_ab n1 num_w1 (by rw [val_w1]; unfold Ab; constructor <;> grind)
  obtain ⟨n3, e3⟩ := sub_ab num_two1 hw (by rw [val_two1]; unfold Ab; constructor <;> grind)
  rw [val_two1] at e3
  have p3 : 0 ≤ val (fsub two1 w) := sub_ge0 num_two1 hw (by rw [val_two1]; grind) n3
  have p4 : val (fsub two1 w) ≤ 4 := by unfold Ab at e3; grind
  obtain ⟨n4, q0, q3, _, _⟩ := sqrt_ab n3 p3 p4
  obtain ⟨n5, _⟩ := sub_ab num_w1 n4 (by rw [val_w1]; unfold Ab; constructor <;> grind)
  exact ⟨n1, n2, n3, p3, n4, n5⟩

set_option maxRecDepth 100000 in
set_option maxHeartbeats 1000000 in
theorem tent_any (u : Nat) (w : World) : Calls Try.prog 20 #[.float .f64 u] w fun e w' => e = .returned (.float .f64 (tentF (fmul two1 (cleanF u)))) ∧ w' = w := by
  have HU := hid (clean_any u)
  obtain ⟨nc, c0, c1⟩ := clean_num u
  obtain ⟨nw, vw, _, _⟩ := twice nc c0 c1
  obtain ⟨n1, n2, n3, p3, n4, n5⟩ := tent_parts nw (by rw [vw]; grind) (by rw [vw]; grind)
  have HP := hid (prod_num num_two1 nc)
  have HR := hid (root_num nw (by rw [vw]; grind))
  have HS := hid (root_num n3 p3)
  have h1 : ∀ w, (binOp .sub 22 (.float .f64 (fsqrt (fmul two1 (cleanF u)))) (.float .f64 4607182418800017408)).run Try.prog w = .ok (.float .f64 (fsub (fsqrt (fmul two1 (cleanF u))) Fl.w1)) w := fun w => run_sub_num w 22 n1 num_w1
  have h2 : ∀ w, (binOp .sub 22 (.float .f64 4611686018427387904) (.float .f64 (fmul two1 (cleanF u)))).run Try.prog w = .ok (.float .f64 (fsub two1 (fmul two1 (cleanF u)))) w := fun w => run_sub_num w 22 num_two1 nw
  have h3 : ∀ w, (binOp .sub 22 (.float .f64 4607182418800017408) (.float .f64 (fsqrt (fsub two1 (fmul two1 (cleanF u)))))).run Try.prog w = .ok (.float .f64 (fsub Fl.w1 (fsqrt (fsub two1 (fmul two1 (cleanF u)))))) w := fun w => run_sub_num w 22 num_w1 n4
  have ht : tentF (fmul two1 (cleanF u)) = if tentB (fmul two1 (cleanF u)) then fsub (fsqrt (fmul two1 (cleanF u))) Fl.w1 else fsub Fl.w1 (fsqrt (fsub two1 (fmul two1 (cleanF u)))) := rfl
  have hb : (FloatKind.f64.format.order (fmul two1 (cleanF u)) 4607182418800017408 == some .lt) = tentB (fmul two1 (cleanF u)) := rfl
  rw [ht]
  unfold two1 at HP h2
  change ∀ w, Calls Try.prog 27 #[.float .f64 4611686018427387904, .float .f64 (cleanF u)] w fun e w' => e = .returned (.float .f64 (fmul two1 (cleanF u))) ∧ w' = w at HP
  change ∀ w, (binOp .sub 22 (.float .f64 4611686018427387904) (.float .f64 (fmul two1 (cleanF u)))).run Try.prog w = .ok (.float .f64 (fsub two1 (fmul two1 (cleanF u)))) w at h2
  replace HP := hid HP
  clear nc c0 c1 nw vw n1 n2 n3 p3 n4 n5 ht
  generalize cleanF u = c at *
  generalize fmul two1 c = t at *
  generalize fsub two1 t = d at *
  generalize fsqrt t = r at *
  generalize fsqrt d = s at *
  generalize fsub r Fl.w1 = a at *
  generalize fsub Fl.w1 s = b at *
  generalize tentB t = k at *
  cases k
  · go_enter Try.func20, Try.ntmps20
    go_wp2_with fail
    refine Calls.mono (HU.out _) ?_
    rintro e w' ⟨rfl, hw⟩
    obtain rfl := hw.symm
    clear hw
    go_wp2_with fail
    refine Calls.mono (HP.out _) ?_
    rintro e w' ⟨rfl, hw⟩
    obtain rfl := hw.symm
    clear hw
    go_wp2_with fail
    refine Calls.mono (HS.out _) ?_
    rintro e w' ⟨rfl, hw⟩
    obtain rfl := hw.symm
    clear hw
    go_wp2_with fail
    go_ret
    exact ⟨rfl, rfl⟩
  · go_enter Try.func20, Try.ntmps20
    go_wp2_with fail
    refine Calls.mono (HU.out _) ?_
    rintro e w' ⟨rfl, hw⟩
    obtain rfl := hw.symm
    clear hw
    go_wp2_with fail
    refine Calls.mono (HP.out _) ?_
    rintro e w' ⟨rfl, hw⟩
    obtain rfl := hw.symm
    clear hw
    go_wp2_with fail
    refine Calls.mono (HR.out _) ?_
    rintro e w' ⟨rfl, hw⟩
    obtain rfl := hw.symm
    clear hw
    go_wp2_with fail
    go_ret
    exact ⟨rfl, rfl⟩
end Go.Proofs.Ytnhilikcgfhkbaa
