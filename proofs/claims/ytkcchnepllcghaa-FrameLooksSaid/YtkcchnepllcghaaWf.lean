/- Package frame: Cos, Mirror, Upper; the reference's New. -/
import Derived.Test.YtkcchnepllcghaaRows
import Derived.Test.YtkcchnepllcghaaWa
namespace Go.Proofs.Ytkcchnepllcghaa
open Go.RowKit Fl

set_option maxRecDepth 100000 in
set_option maxHeartbeats 1000000 in
theorem cos_any (x y z : Nat) (w : World) : Ret Try.prog 20 #[.agg #[.float .f64 x, .float .f64 y, .float .f64 z]] w (fun v => v = .float .f64 z) := by
  unfold Ret
  go_enter Try.func20, Try.ntmps20
  go_wp2_with fail
  go_ret
  exact ⟨_, rfl, rfl, (Below.refl _ _).alloc (Nat.le_refl _) _⟩

set_option maxRecDepth 100000 in
set_option maxHeartbeats 1000000 in
theorem mirror_any (x y z : Nat) (gz : Wd z) (w : World) : Ret Try.prog 21 #[.agg #[.float .f64 x, .float .f64 y, .float .f64 z]] w (isV (fsub 0 x) (fsub 0 y) z) := by
  unfold Ret
  go_enter Try.func21, Try.ntmps21
  go_wp2_with fail
  refine upon_sub (Sm.refl _) (Sm.refl _) ?_
  intro r1 n1 h1
  go_wp2_with fail
  refine upon_sub (Sm.refl _) (Sm.refl _) ?_
  intro r2 n2 h2
  go_wp2_with fail
  refine bodyPost_ret (v := .agg #[.float .f64 r1, .float .f64 r2, .float .f64 z]) (by simp [results, go_sem]) rfl ⟨_, rfl, ⟨_, _, _, rfl, h1, h2, Eqv.refl gz⟩, (((((Cl.drewN (Below.refl _ _) _).out2).setCell (by simp <;> omega) _).setCell (by simp <;> omega) _).setCell (by simp <;> omega) _)⟩

def upperB (az bz : Nat) : Bool := ford az 0 == some .gt && ford bz 0 == some .gt

set_option maxRecDepth 100000 in
set_option maxHeartbeats 1000000 in
theorem upper_any (ax ay az bx bY bz : Nat) (w : World) : Ret Try.prog 22 #[.agg #[.float .f64 ax, .float .f64 ay, .float .f64 az], .agg #[.float .f64 bx, .float .f64 bY, .float .f64 bz]] w (fun v => v = .bool (upperB az bz)) := by
  unfold Ret upperB
  have hp : (FloatKind.f64.format.order az 0 == some .gt) = (ford az 0 == some .gt) := rfl
  have hq : (FloatKind.f64.format.order bz 0 == some .gt) = (ford bz 0 == some .gt) := rfl
  generalize (ford az 0 == some .gt) = p at hp ⊢
  generalize (ford bz 0 == some .gt) = q at hq ⊢
  cases p <;> cases q <;>
  · go_enter Try.func22, Try.ntmps22
    go_wp2_with fail
    go_ret
    exact ⟨_, rfl, rfl, ((Below.refl _ _).alloc (Nat.le_refl _) _).alloc (by simp) _⟩

theorem ford_zero_none {z : Nat} (h : ford z 0 = none) : isN z = true := by
  unfold ford Ieee.Format.order at h
  rw [show F64.read 0 = .number false 0 (-1074) from by decide +kernel] at h
  unfold isN
  generalize F64.read z = d at h ⊢
  cases d <;> simp_all [Ieee.Datum.order, Ieee.Datum.isNaN]

theorem neq_self (z : Nat) : (FloatKind.f64.format.order z z != some .eq) = isN z := by
  have := ford_self z
  unfold ford at this
  rw [bne, this, Bool.not_not]

set_option maxRecDepth 100000 in
set_option maxHeartbeats 1000000 in
theorem rnew_any (x y z : Nat) (gx : Wd x) (gy : Wd y) (gz : Wd z) (w : World) : Ret Try.prog 10 #[.agg #[.float .f64 x, .float .f64 y, .float .f64 z]] w
    (isFr (fadd w1p (fmul (fmul (fmul (sideF z) x) x) (frA z))) (fmul (sideF z) (fmul (fmul x y) (frA z))) (fsub 0 (fmul (sideF z) x)) (fmul (fmul x y) (frA z)) (fadd (sideF z) (fmul (fmul y y) (frA z))) (fsub 0 y) x y z) := by
  unfold Ret frA sideF
  have hp : FloatKind.f64.format.order z 0 = ford z 0 := rfl
  have hq := neq_self z
  have hn : ford z 0 = none → isN z = true := ford_zero_none
  have hm : isN z = true → ford z 0 = none := fun h => ord_nan_left h 0
  generalize ford z 0 = c at hp hn hm ⊢
  generalize isN z = d at hq hn hm
  cases c with
  | none =>
    obtain rfl := hn rfl
    clear hn hm
    go_enter Try.func10, Try.ntmps10
    go_wp2_with fail
    refine upon_add (Sm.refl _) (Sm.refl _) ?_
    intro r1 n1 h1
    go_wp2_with fail
    refine upon_div (Sm.refl _) (h1.sm) ?_
    intro r2 n2 h2
    go_wp2_with fail
    refine upon_mul (Sm.refl _) (Sm.refl _) ?_
    intro r3 n3 h3
    go_wp2_with fail
    refine upon_mul (h3.sm) (h2.sm) ?_
    intro r4 n4 h4
    go_wp2_with fail
    refine upon_mul (Sm.refl _) (Sm.refl _) ?_
    intro r5 n5 h5
    go_wp2_with fail
    refine upon_mul (h5.sm) (Sm.refl _) ?_
    intro r6 n6 h6
    go_wp2_with fail
    refine upon_mul (h6.sm) (h2.sm) ?_
    intro r7 n7 h7
    go_wp2_with fail
    refine upon_mul (Sm.refl _) (Sm.refl _) ?_
    intro r8 n8 h8
    go_wp2_with fail
    refine upon_mul (h8.sm) (h2.sm) ?_
    intro r9 n9 h9
    go_wp2_with fail
    refine upon_add (Sm.refl _) (h7.sm) ?_
    intro r10 n10 h10
    go_wp2_with fail
    refine upon_mul (Sm.refl _) (h4.sm) ?_
    intro r11 n11 h11
    go_wp2_with fail
    refine upon_sub (Sm.refl _) (h5.sm) ?_
    intro r12 n12 h12
    go_wp2_with fail
    refine upon_add (Sm.refl _) (h9.sm) ?_
    intro r13 n13 h13
    go_wp2_with fail
    refine upon_sub (Sm.refl _) (Sm.refl _) ?_
    intro r14 n14 h14
    go_wp2_with fail
    refine bodyPost_ret (v := .agg #[.float .f64 r10, .float .f64 r11, .float .f64 r12, .float .f64 r4, .float .f64 r13, .float .f64 r14, .float .f64 x, .float .f64 y, .float .f64 z]) (by simp [results, go_sem]) rfl ⟨_, rfl, ⟨_, _, _, _, _, _, _, _, _, rfl, h10, h11, h12, h4, h13, h14, Eqv.refl gx, Eqv.refl gy, Eqv.refl gz⟩, ?_⟩
    refine Below.setCell ?_ (by simp <;> omega) _
    refine Below.setCell ?_ (by simp <;> omega) _
    refine Below.setCell ?_ (by simp <;> omega) _
    refine Below.setCell ?_ (by simp <;> omega) _
    refine Below.setCell ?_ (by simp <;> omega) _
    refine Below.setCell ?_ (by simp <;> omega) _
    refine Below.setCell ?_ (by simp <;> omega) _
    refine Below.setCell ?_ (by simp <;> omega) _
    refine Below.setCell ?_ (by simp <;> omega) _
    refine Below.setCell ?_ (by simp <;> omega) _
    refine Below.setCell ?_ (by simp <;> omega) _
    refine Below.setCell ?_ (by simp <;> omega) _
    refine below_dr ?_ _
    refine Below.setCell ?_ (by simp <;> omega) _
    refine Below.setCell ?_ (by simp <;> omega) _
    refine Below.setCell ?_ (by simp <;> omega) _
    refine below_dr ?_ _
    refine Below.alloc (below_dr (Below.alloc (Below.alloc (Below.refl _ _) (Nat.le_refl _) _) (by simp) _) _) (by simp <;> omega) _
  | some c =>
    have hd : d = false := by cases d <;> simp_all
    subst hd
    clear hn hm
    cases c <;>
    · go_enter Try.func10, Try.ntmps10
      go_wp2_with fail
      refine upon_add (Sm.refl _) (Sm.refl _) ?_
      intro r1 n1 h1
      go_wp2_with fail
      refine upon_div (Sm.refl _) (h1.sm) ?_
      intro r2 n2 h2
      go_wp2_with fail
      refine upon_mul (Sm.refl _) (Sm.refl _) ?_
      intro r3 n3 h3
      go_wp2_with fail
      refine upon_mul (h3.sm) (h2.sm) ?_
      intro r4 n4 h4
      go_wp2_with fail
      refine upon_mul (Sm.refl _) (Sm.refl _) ?_
      intro r5 n5 h5
      go_wp2_with fail
      refine upon_mul (h5.sm) (Sm.refl _) ?_
      intro r6 n6 h6
      go_wp2_with fail
      refine upon_mul (h6.sm) (h2.sm) ?_
      intro r7 n7 h7
      go_wp2_with fail
      refine upon_mul (Sm.refl _) (Sm.refl _) ?_
      intro r8 n8 h8
      go_wp2_with fail
      refine upon_mul (h8.sm) (h2.sm) ?_
      intro r9 n9 h9
      go_wp2_with fail
      refine upon_add (Sm.refl _) (h7.sm) ?_
      intro r10 n10 h10
      go_wp2_with fail
      refine upon_mul (Sm.refl _) (h4.sm) ?_
      intro r11 n11 h11
      go_wp2_with fail
      refine upon_sub (Sm.refl _) (h5.sm) ?_
      intro r12 n12 h12
      go_wp2_with fail
      refine upon_add (Sm.refl _) (h9.sm) ?_
      intro r13 n13 h13
      go_wp2_with fail
      refine upon_sub (Sm.refl _) (Sm.refl _) ?_
      intro r14 n14 h14
      go_wp2_with fail
      refine bodyPost_ret (v := .agg #[.float .f64 r10, .float .f64 r11, .float .f64 r12, .float .f64 r4, .float .f64 r13, .float .f64 r14, .float .f64 x, .float .f64 y, .float .f64 z]) (by simp [results, go_sem]) rfl ⟨_, rfl, ⟨_, _, _, _, _, _, _, _, _, rfl, h10, h11, h12, h4, h13, h14, Eqv.refl gx, Eqv.refl gy, Eqv.refl gz⟩, ?_⟩
      refine Below.setCell ?_ (by simp <;> omega) _
      refine Below.setCell ?_ (by simp <;> omega) _
      refine Below.setCell ?_ (by simp <;> omega) _
      refine Below.setCell ?_ (by simp <;> omega) _
      refine Below.setCell ?_ (by simp <;> omega) _
      refine Below.setCell ?_ (by simp <;> omega) _
      refine Below.setCell ?_ (by simp <;> omega) _
      refine Below.setCell ?_ (by simp <;> omega) _
      refine Below.setCell ?_ (by simp <;> omega) _
      refine Below.setCell ?_ (by simp <;> omega) _
      refine Below.setCell ?_ (by simp <;> omega) _
      refine Below.setCell ?_ (by simp <;> omega) _
      refine below_dr ?_ _
      refine Below.setCell ?_ (by simp <;> omega) _
      refine Below.setCell ?_ (by simp <;> omega) _
      refine Below.setCell ?_ (by simp <;> omega) _
      refine below_dr ?_ _
      refine Below.alloc (below_dr (Below.alloc (Below.alloc (Below.refl _ _) (Nat.le_refl _) _) (by simp) _) _) (by simp <;> omega) _

end Go.Proofs.Ytkcchnepllcghaa
