/- Package frame: product, side, New. -/
import Derived.Test.YtkcchnepllcghaaRows
import Derived.Test.YtkcchnepllcghaaW0
namespace Go.Proofs.Ytkcchnepllcghaa
open Go.RowKit Fl

set_option maxRecDepth 100000 in
set_option maxHeartbeats 400000 in
theorem fproduct_any (x y : Nat) (w : World) : Ret Try.prog 24 #[.float .f64 x, .float .f64 y] w (isF (fmul x y)) := by
  unfold Ret
  go_enter Try.func24, Try.ntmps24
  go_wp2_with fail
  refine upon_mul (Sm.refl _) (Sm.refl _) ?_
  intro r n hr
  go_wp2_with fail
  go_ret
  exact ⟨_, rfl, ⟨r, rfl, hr⟩, below_dr (Below.refl _ _) n⟩

theorem fproduct_sm {x y X Y : Nat} (hx : Sm x X) (hy : Sm y Y) (w : World) : Ret Try.prog 24 #[.float .f64 x, .float .f64 y] w (isF (fmul X Y)) := by
  rw [← fmul_congr hx hy]
  exact fproduct_any x y w

abbrev w1m : Nat := 13830554455654793216
abbrev w1p : Nat := 4607182418800017408
def sideF (z : Nat) : Nat := if ford z 0 == some .lt then w1m else w1p

set_option maxRecDepth 100000 in
set_option maxHeartbeats 400000 in
theorem side_any (x y z : Nat) (w : World) : Ret Try.prog 23 #[.agg #[.float .f64 x, .float .f64 y, .float .f64 z]] w (fun v => v = .float .f64 (sideF z)) := by
  unfold Ret sideF
  have hp : (FloatKind.f64.format.order z 0 == some .lt) = (ford z 0 == some .lt) := rfl
  generalize (ford z 0 == some .lt) = p at hp ⊢
  cases p <;>
  · go_enter Try.func23, Try.ntmps23
    go_wp2_with fail
    go_ret
    exact ⟨_, rfl, rfl, (Below.refl _ _).alloc (Nat.le_refl _) _⟩

/-- A frame, up to which NaN. -/
def isFr (tx ty tz bx bY bz nx ny nz : Nat) (v : Value) : Prop := ∃ a b c d e f g h i, v = .agg #[.float .f64 a, .float .f64 b, .float .f64 c, .float .f64 d, .float .f64 e, .float .f64 f, .float .f64 g, .float .f64 h, .float .f64 i] ∧ Eqv a tx ∧ Eqv b ty ∧ Eqv c tz ∧ Eqv d bx ∧ Eqv e bY ∧ Eqv f bz ∧ Eqv g nx ∧ Eqv h ny ∧ Eqv i nz


abbrev frA (z : Nat) : Nat := fdiv w1m (fadd (sideF z) z)

set_option maxRecDepth 100000 in
set_option maxHeartbeats 1000000 in
theorem new_any (x y z : Nat) (gx : Wd x) (gy : Wd y) (gz : Wd z) (w : World) : Ret Try.prog 9 #[.agg #[.float .f64 x, .float .f64 y, .float .f64 z]] w
    (isFr (fadd w1p (fmul (fmul (fmul (sideF z) x) x) (frA z))) (fmul (sideF z) (fmul (fmul x y) (frA z))) (fsub 0 (fmul (sideF z) x)) (fmul (fmul x y) (frA z)) (fadd (sideF z) (fmul (fmul y y) (frA z))) (fsub 0 y) x y z) := by
  unfold Ret
  have HS : Hid _ := side_any x y z
  unfold frA
  generalize sideF z = s at HS ⊢
  go_enter Try.func9, Try.ntmps9
  go_wp2_with fail
  refine Calls.mono (HS.out _) ?_
  rintro e w1 ⟨v, rfl, rfl, hb⟩
  have HW1 : Hid (Cl ((w.alloc (.cells #[.float .f64 x, .float .f64 y, .float .f64 z] 24)).alloc (.cells #[.float .f64 0, .float .f64 0, .float .f64 0, .float .f64 0, .float .f64 0, .float .f64 0, .float .f64 0, .float .f64 0, .float .f64 0] 28)) w1) := hb
  clear hb
  obtain ⟨a0, a1, a2⟩ := HW1.out.three (b := w.heap.size) (by go_simp; exact rfl) (by go_simp; exact rfl) (by go_simp; exact rfl) (by go_simp; done)
  go_wp2_with fail
  refine upon_add (Sm.refl _) (Sm.refl _) ?_
  intro r1 n1 h1
  go_wp2_with fail
  refine upon_div (Sm.refl _) h1.sm ?_
  intro ra n2 hA
  clear h1
  generalize eA : fdiv w1m (fadd s z) = A at hA ⊢
  go_wp2_with fail
  refine Calls.mono (fproduct_any _ _ _) ?_
  rintro e w2 ⟨v, rfl, ⟨r2, rfl, h2⟩, hb⟩
  have HW2 : Hid (Cl ((w.alloc (.cells #[.float .f64 x, .float .f64 y, .float .f64 z] 24)).alloc (.cells #[.float .f64 0, .float .f64 0, .float .f64 0, .float .f64 0, .float .f64 0, .float .f64 0, .float .f64 0, .float .f64 0, .float .f64 0] 28)) w2) := (HW1.out.drewN _).call hb
  clear hb a0 a1 a2
  go_wp2_with fail
  refine Calls.mono (fproduct_sm h2.sm hA.sm _) ?_
  rintro e w3 ⟨v, rfl, ⟨rb, rfl, hB⟩, hb⟩
  have HW3 : Hid (Cl ((w.alloc (.cells #[.float .f64 x, .float .f64 y, .float .f64 z] 24)).alloc (.cells #[.float .f64 0, .float .f64 0, .float .f64 0, .float .f64 0, .float .f64 0, .float .f64 0, .float .f64 0, .float .f64 0, .float .f64 0] 28)) w3) := HW2.out.call hb
  clear hb h2
  go_wp2_with fail
  refine wp_region_loose (Cl ((w.alloc (.cells #[.float .f64 x, .float .f64 y, .float .f64 z] 24)).alloc (.cells #[.float .f64 0, .float .f64 0, .float .f64 0, .float .f64 0, .float .f64 0, .float .f64 0, .float .f64 0, .float .f64 0, .float .f64 0] 28))) [none, none, none, some (isF (fmul s x)), none, none, some (isF (fmul (fmul s x) x)), none, some (isF (fmul (fmul (fmul s x) x) A)), some (isF (fadd w1p (fmul (fmul (fmul s x) x) A))), none, none, some (isF (fmul s (fmul (fmul x y) A))), none, none, none, some (isF (fmul s x)), some (isF (fsub 0 (fmul s x))), none, none, none, none, none, none, none, some (isF (fmul y y)), none, some (isF (fmul (fmul y y) A)), some (isF (fadd s (fmul (fmul y y) A))), none, none, some (isF (fsub 0 y)), none, none, none] 35 (by kernel_rfl) (by kernel_rfl) (by kernel_rfl) (Cl.drew2 HW3.out) ?_
  have HA : Hid (∀ w', Cl ((w.alloc (.cells #[.float .f64 x, .float .f64 y, .float .f64 z] 24)).alloc (.cells #[.float .f64 0, .float .f64 0, .float .f64 0, .float .f64 0, .float .f64 0, .float .f64 0, .float .f64 0, .float .f64 0, .float .f64 0] 28)) w' → _) := fun w' h => h.three (b := w.heap.size) (by go_simp; exact rfl) (by go_simp; exact rfl) (by go_simp; exact rfl) (by go_simp; done)
  repeat (
    refine loose_one ?_ rfl (fun w hw => ?_) (fun K hK => ?_)
    rotate_left
    ·obtain ⟨a0, a1, a2⟩ := HA.out _ hw
     go_simp
     exact rfl
    go_simp
    refine hK _ ?_
    clear hK K)
  refine loose_any rfl (fun w hw => ?_) (fun K hK => ?_)
  · go_simp
    exact loose_ret (fproduct_sm (Sm.refl _) (Sm.refl _) _) hw
  rintro v ⟨r1, rfl, h1⟩
  go_simp
  refine hK _ ?_
  clear hK K
  repeat (
    refine loose_one ?_ rfl (fun w hw => ?_) (fun K hK => ?_)
    rotate_left
    ·obtain ⟨a0, a1, a2⟩ := HA.out _ hw
     go_simp
     exact rfl
    go_simp
    refine hK _ ?_
    clear hK K)
  refine loose_any rfl (fun w hw => ?_) (fun K hK => ?_)
  · go_simp
    exact loose_ret (fproduct_sm (h1.sm) (Sm.refl _) _) hw
  rintro v ⟨r2, rfl, h2⟩
  go_simp
  refine hK _ ?_
  clear hK K
  repeat (
    refine loose_one ?_ rfl (fun w hw => ?_) (fun K hK => ?_)
    rotate_left
    ·obtain ⟨a0, a1, a2⟩ := HA.out _ hw
     go_simp
     exact rfl
    go_simp
    refine hK _ ?_
    clear hK K)
  refine loose_any rfl (fun w hw => ?_) (fun K hK => ?_)
  · go_simp
    exact loose_ret (fproduct_sm (h2.sm) (hA.sm) _) hw
  rintro v ⟨r3, rfl, h3⟩
  go_simp
  refine hK _ ?_
  clear hK K
  refine loose_any rfl (fun w hw => ?_) (fun K hK => ?_)
  · go_simp
    exact loose_add (Sm.refl _) h3.sm (fun n => hw.drewN n)
  rintro v ⟨r4, rfl, h4⟩
  go_simp
  refine hK _ ?_
  clear hK K
  repeat (
    refine loose_one ?_ rfl (fun w hw => ?_) (fun K hK => ?_)
    rotate_left
    ·obtain ⟨a0, a1, a2⟩ := HA.out _ hw
     go_simp
     exact rfl
    go_simp
    refine hK _ ?_
    clear hK K)
  refine loose_any rfl (fun w hw => ?_) (fun K hK => ?_)
  · go_simp
    exact loose_ret (fproduct_sm (Sm.refl _) (hB.sm) _) hw
  rintro v ⟨r5, rfl, h5⟩
  go_simp
  refine hK _ ?_
  clear hK K
  repeat (
    refine loose_one ?_ rfl (fun w hw => ?_) (fun K hK => ?_)
    rotate_left
    ·obtain ⟨a0, a1, a2⟩ := HA.out _ hw
     go_simp
     exact rfl
    go_simp
    refine hK _ ?_
    clear hK K)
  refine loose_any rfl (fun w hw => ?_) (fun K hK => ?_)
  · go_simp
    exact loose_ret (fproduct_sm (Sm.refl _) (Sm.refl _) _) hw
  rintro v ⟨r6, rfl, h6⟩
  go_simp
  refine hK _ ?_
  clear hK K
  refine loose_any rfl (fun w hw => ?_) (fun K hK => ?_)
  · go_simp
    exact loose_sub (Sm.refl _) h6.sm (fun n => hw.drewN n)
  rintro v ⟨r7, rfl, h7⟩
  go_simp
  refine hK _ ?_
  clear hK K
  repeat (
    refine loose_one ?_ rfl (fun w hw => ?_) (fun K hK => ?_)
    rotate_left
    ·obtain ⟨a0, a1, a2⟩ := HA.out _ hw
     go_simp
     exact rfl
    go_simp
    refine hK _ ?_
    clear hK K)
  refine loose_any rfl (fun w hw => ?_) (fun K hK => ?_)
  · go_simp
    exact loose_ret (fproduct_sm (Sm.refl _) (Sm.refl _) _) hw
  rintro v ⟨r8, rfl, h8⟩
  go_simp
  refine hK _ ?_
  clear hK K
  repeat (
    refine loose_one ?_ rfl (fun w hw => ?_) (fun K hK => ?_)
    rotate_left
    ·obtain ⟨a0, a1, a2⟩ := HA.out _ hw
     go_simp
     exact rfl
    go_simp
    refine hK _ ?_
    clear hK K)
  refine loose_any rfl (fun w hw => ?_) (fun K hK => ?_)
  · go_simp
    exact loose_ret (fproduct_sm (h8.sm) (hA.sm) _) hw
  rintro v ⟨r9, rfl, h9⟩
  go_simp
  refine hK _ ?_
  clear hK K
  refine loose_any rfl (fun w hw => ?_) (fun K hK => ?_)
  · go_simp
    exact loose_add (Sm.refl _) h9.sm (fun n => hw.drewN n)
  rintro v ⟨r10, rfl, h10⟩
  go_simp
  refine hK _ ?_
  clear hK K
  repeat (
    refine loose_one ?_ rfl (fun w hw => ?_) (fun K hK => ?_)
    rotate_left
    ·obtain ⟨a0, a1, a2⟩ := HA.out _ hw
     go_simp
     exact rfl
    go_simp
    refine hK _ ?_
    clear hK K)
  refine loose_any rfl (fun w hw => ?_) (fun K hK => ?_)
  · go_simp
    exact loose_sub (Sm.refl _) (Sm.refl _) (fun n => hw.drewN n)
  rintro v ⟨r11, rfl, h11⟩
  go_simp
  refine hK _ ?_
  clear hK K
  repeat (
    refine loose_one ?_ rfl (fun w hw => ?_) (fun K hK => ?_)
    rotate_left
    ·obtain ⟨a0, a1, a2⟩ := HA.out _ hw
     go_simp
     exact rfl
    go_simp
    refine hK _ ?_
    clear hK K)
  intro w' hw'
  subst eA
  clear HA HW1 HW2 HW3 HS
  have HC : Hid (Cl ((w.alloc (.cells #[.float .f64 x, .float .f64 y, .float .f64 z] 24)).alloc (.cells #[.float .f64 0, .float .f64 0, .float .f64 0, .float .f64 0, .float .f64 0, .float .f64 0, .float .f64 0, .float .f64 0, .float .f64 0] 28)) w') := hw'
  obtain ⟨z0, z1, z2⟩ := HC.out.three (b := w.heap.size + 1) (by go_simp; exact rfl) (by go_simp; exact rfl) (by go_simp; exact rfl) (by go_simp; done)
  obtain ⟨z3, z4, z5⟩ := HC.out.next3 (b := w.heap.size + 1) (by go_simp; exact rfl) (by go_simp; exact rfl) (by go_simp; exact rfl) (by go_simp; done)
  obtain ⟨z6, z7, z8⟩ := HC.out.more3 (b := w.heap.size + 1) (by go_simp; exact rfl) (by go_simp; exact rfl) (by go_simp; exact rfl) (by go_simp; done)
  obtain ⟨f0, f1, f2⟩ := HC.out.frz (b := w.heap.size + 1) (by go_simp; done) (by go_simp; done) (by go_simp; done) (by go_simp; done)
  obtain ⟨f3, f4, f5⟩ := HC.out.frz3 (b := w.heap.size + 1) (by go_simp; done) (by go_simp; done) (by go_simp; done) (by go_simp; done)
  obtain ⟨f6, f7, f8⟩ := HC.out.frz6 (b := w.heap.size + 1) (by go_simp; done) (by go_simp; done) (by go_simp; done) (by go_simp; done)
  clear hw'
  go_wp2_with fail
  refine bodyPost_ret (v := .agg #[.float .f64 r4, .float .f64 r5, .float .f64 r7, .float .f64 rb, .float .f64 r10, .float .f64 r11, .float .f64 x, .float .f64 y, .float .f64 z]) (by simp [results, go_sem, z0, z1, z2, z3, z4, z5, z6, z7, z8]) rfl ⟨_, rfl, ⟨_, _, _, _, _, _, _, _, _, rfl, h4, h5, h7, hB, h10, h11, Eqv.refl gx, Eqv.refl gy, Eqv.refl gz⟩, ?_⟩
  exact (((((((((HC.out.out2).setCell (by simp <;> omega) _).setCell (by simp <;> omega) _).setCell (by simp <;> omega) _).setCell (by simp <;> omega) _).setCell (by simp <;> omega) _).setCell (by simp <;> omega) _).setCell (by simp <;> omega) _).setCell (by simp <;> omega) _).setCell (by simp <;> omega) _
end Go.Proofs.Ytkcchnepllcghaa
