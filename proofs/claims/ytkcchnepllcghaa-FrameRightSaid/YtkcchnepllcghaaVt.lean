/- The reference: Unit. -/
import Derived.Test.YtkcchnepllcghaaVr
namespace Go.Proofs.Ytkcchnepllcghaa
open Go.RowKit Fl

def unitR (z : Nat) : Bool := ford z 0 == some .gt && numB z
abbrev lenR (ax ay az : Nat) : Nat := fsqrt (dotR ax ay az ax ay az)
theorem gt_congrR {r z : Nat} (h : Eqv r z) : (FloatKind.f64.format.order r 0 == some .gt) = (ford z 0 == some .gt) := by
  rw [← ford_congr h.sm (Sm.refl 0)]; rfl
theorem wd_zeroR : Wd 0 := by unfold Wd; omega

set_option maxRecDepth 100000 in
set_option maxHeartbeats 1000000 in
theorem runit_any (ax ay az : Nat) (w : World) : Ret Try.prog 16 #[.agg #[.float .f64 ax, .float .f64 ay, .float .f64 az]] w (fun v => ∃ a b c, v = .tuple #[.agg #[.float .f64 a, .float .f64 b, .float .f64 c], .bool (unitR (lenR ax ay az))] ∧
    Eqv a (if unitR (lenR ax ay az) then fdiv ax (lenR ax ay az) else 0) ∧ Eqv b (if unitR (lenR ax ay az) then fdiv ay (lenR ax ay az) else 0) ∧ Eqv c (if unitR (lenR ax ay az) then fdiv az (lenR ax ay az) else 0)) := by
  unfold Ret
  have HS : Hid (∀ r r0, Eqv r0 (dotR ax ay az ax ay az) → Eqv r (fsqrt r0) → Eqv r (lenR ax ay az)) := fun r r0 h0 h => h.to (Sm.of_eq (fsqrt_congr h0.sm))
  generalize lenR ax ay az = z at HS ⊢
  unfold unitR
  have HP : Hid (∀ r, Eqv r z → (FloatKind.f64.format.order r 0 == some .gt) = (ford z 0 == some .gt)) := fun r h => gt_congrR h
  have HQ : Hid (∀ r, Eqv r z → numB r = numB z) := fun r h => numB_congr h.sm
  generalize (ford z 0 == some .gt) = p at HP ⊢
  generalize numB z = q at HQ ⊢
  cases p <;> cases q
  case true.true =>
    go_enter Try.func16, Try.ntmps16
    go_wp2_with fail
    refine Calls.mono (rdot_any _ _ _ _ _ _ _) ?_
    rintro e w0 ⟨v, rfl, ⟨r0, rfl, hr0⟩, hb0⟩
    have HW0 : Hid (Cl ((w.alloc (.cells #[.float .f64 ax, .float .f64 ay, .float .f64 az] 24)).alloc (.cells #[.float .f64 0, .float .f64 0, .float .f64 0] 24)) w0) := hb0
    have HR0 : Hid _ := hr0
    clear hb0 hr0
    go_wp2_with fail
    refine Calls.mono (sqrt_any _ _) ?_
    rintro e w1 ⟨v, rfl, ⟨r, rfl, hr1⟩, hb⟩
    have hr : Eqv r z := HS.out r r0 HR0.out hr1
    have hg := HP.out r hr
    have HN : Hid _ := rnumber_any r
    rw [HQ.out r hr] at HN
    have HE : Hid _ := hr
    have HW : Hid (Cl ((w.alloc (.cells #[.float .f64 ax, .float .f64 ay, .float .f64 az] 24)).alloc (.cells #[.float .f64 0, .float .f64 0, .float .f64 0] 24)) w1) := HW0.out.call hb
    clear hb hr hr1 HP HQ HS
    obtain ⟨z0, z1, z2⟩ := HW.out.three (b := w.heap.size + 1) (by go_simp; exact rfl) (by go_simp; exact rfl) (by go_simp; exact rfl) (by go_simp; done)
    obtain ⟨f0, f1, f2⟩ := HW.out.frz (b := w.heap.size + 1) (by go_simp; done) (by go_simp; done) (by go_simp; done) (by go_simp; done)
    obtain ⟨a0, a1, a2⟩ := HW.out.three (b := w.heap.size) (by go_simp; exact rfl) (by go_simp; exact rfl) (by go_simp; exact rfl) (by go_simp; done)
    go_wp2_with fail
    refine Calls.mono (HN.out _) ?_
    rintro e w' ⟨rfl, n0, rfl⟩
    go_wp2_with fail
    refine upon_div (Sm.refl _) HE.out.sm ?_
    intro r1 n1 h1
    go_wp2_with fail
    refine upon_div (Sm.refl _) HE.out.sm ?_
    intro r2 n2 h2
    go_wp2_with fail
    refine upon_div (Sm.refl _) HE.out.sm ?_
    intro r3 n3 h3
    go_wp2_with fail
    refine bodyPost_ret (v := .tuple #[.agg #[.float .f64 r1, .float .f64 r2, .float .f64 r3], .bool true]) (by simp [results, go_sem, z0, z1, z2]) rfl ⟨_, rfl, ⟨_, _, _, rfl, h1, h2, h3⟩, ((((Cl.drewN HW.out _).out2.setCell (by simp <;> omega) _).setCell (by simp <;> omega) _).setCell (by simp <;> omega) _)⟩
  case true.false =>
    go_enter Try.func16, Try.ntmps16
    go_wp2_with fail
    refine Calls.mono (rdot_any _ _ _ _ _ _ _) ?_
    rintro e w0 ⟨v, rfl, ⟨r0, rfl, hr0⟩, hb0⟩
    have HW0 : Hid (Cl ((w.alloc (.cells #[.float .f64 ax, .float .f64 ay, .float .f64 az] 24)).alloc (.cells #[.float .f64 0, .float .f64 0, .float .f64 0] 24)) w0) := hb0
    have HR0 : Hid _ := hr0
    clear hb0 hr0
    go_wp2_with fail
    refine Calls.mono (sqrt_any _ _) ?_
    rintro e w1 ⟨v, rfl, ⟨r, rfl, hr1⟩, hb⟩
    have hr : Eqv r z := HS.out r r0 HR0.out hr1
    have hg := HP.out r hr
    have HN : Hid _ := rnumber_any r
    rw [HQ.out r hr] at HN
    have HE : Hid _ := hr
    have HW : Hid (Cl ((w.alloc (.cells #[.float .f64 ax, .float .f64 ay, .float .f64 az] 24)).alloc (.cells #[.float .f64 0, .float .f64 0, .float .f64 0] 24)) w1) := HW0.out.call hb
    clear hb hr hr1 HP HQ HS
    obtain ⟨z0, z1, z2⟩ := HW.out.three (b := w.heap.size + 1) (by go_simp; exact rfl) (by go_simp; exact rfl) (by go_simp; exact rfl) (by go_simp; done)
    obtain ⟨f0, f1, f2⟩ := HW.out.frz (b := w.heap.size + 1) (by go_simp; done) (by go_simp; done) (by go_simp; done) (by go_simp; done)
    obtain ⟨a0, a1, a2⟩ := HW.out.three (b := w.heap.size) (by go_simp; exact rfl) (by go_simp; exact rfl) (by go_simp; exact rfl) (by go_simp; done)
    go_wp2_with fail
    refine Calls.mono (HN.out _) ?_
    rintro e w' ⟨rfl, n0, rfl⟩
    go_wp2_with fail
    refine bodyPost_ret (v := .tuple #[.agg #[.float .f64 0, .float .f64 0, .float .f64 0], .bool false]) (by simp [results, go_sem, z0, z1, z2]) rfl ⟨_, rfl, ⟨_, _, _, rfl, Eqv.refl wd_zeroR, Eqv.refl wd_zeroR, Eqv.refl wd_zeroR⟩, ((((Cl.drewN HW.out _).out2.setCell (by simp <;> omega) _).setCell (by simp <;> omega) _).setCell (by simp <;> omega) _)⟩
  all_goals
    go_enter Try.func16, Try.ntmps16
    go_wp2_with fail
    refine Calls.mono (rdot_any _ _ _ _ _ _ _) ?_
    rintro e w0 ⟨v, rfl, ⟨r0, rfl, hr0⟩, hb0⟩
    have HW0 : Hid (Cl ((w.alloc (.cells #[.float .f64 ax, .float .f64 ay, .float .f64 az] 24)).alloc (.cells #[.float .f64 0, .float .f64 0, .float .f64 0] 24)) w0) := hb0
    have HR0 : Hid _ := hr0
    clear hb0 hr0
    go_wp2_with fail
    refine Calls.mono (sqrt_any _ _) ?_
    rintro e w1 ⟨v, rfl, ⟨r, rfl, hr1⟩, hb⟩
    have hr : Eqv r z := HS.out r r0 HR0.out hr1
    have hg := HP.out r hr
    have HN : Hid _ := rnumber_any r
    rw [HQ.out r hr] at HN
    have HE : Hid _ := hr
    have HW : Hid (Cl ((w.alloc (.cells #[.float .f64 ax, .float .f64 ay, .float .f64 az] 24)).alloc (.cells #[.float .f64 0, .float .f64 0, .float .f64 0] 24)) w1) := HW0.out.call hb
    clear hb hr hr1 HP HQ HS
    obtain ⟨z0, z1, z2⟩ := HW.out.three (b := w.heap.size + 1) (by go_simp; exact rfl) (by go_simp; exact rfl) (by go_simp; exact rfl) (by go_simp; done)
    obtain ⟨f0, f1, f2⟩ := HW.out.frz (b := w.heap.size + 1) (by go_simp; done) (by go_simp; done) (by go_simp; done) (by go_simp; done)
    obtain ⟨a0, a1, a2⟩ := HW.out.three (b := w.heap.size) (by go_simp; exact rfl) (by go_simp; exact rfl) (by go_simp; exact rfl) (by go_simp; done)
    go_wp2_with fail
    refine bodyPost_ret (v := .tuple #[.agg #[.float .f64 0, .float .f64 0, .float .f64 0], .bool false]) (by simp [results, go_sem, z0, z1, z2]) rfl ⟨_, rfl, ⟨_, _, _, rfl, Eqv.refl wd_zeroR, Eqv.refl wd_zeroR, Eqv.refl wd_zeroR⟩, (((HW.out.out2.setCell (by simp <;> omega) _).setCell (by simp <;> omega) _).setCell (by simp <;> omega) _)⟩

end Go.Proofs.Ytkcchnepllcghaa
