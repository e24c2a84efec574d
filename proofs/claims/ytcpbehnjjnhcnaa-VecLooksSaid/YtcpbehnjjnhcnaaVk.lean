/- Unit. -/
import Derived.Test.YtcpbehnjjnhcnaaVh
import Derived.Test.YtcpbehnjjnhcnaaVj
namespace Go.Proofs.Ytcpbehnjjnhcnaa
open Go.RowKit Fl

def unitB (z : Nat) : Bool := ford z 0 == some .gt && numB z
abbrev lenF (ax ay az : Nat) : Nat := fsqrt (dotF ax ay az ax ay az)
theorem gt_congr {r z : Nat} (h : Eqv r z) : (FloatKind.f64.format.order r 0 == some .gt) = (ford z 0 == some .gt) := by
  rw [← ford_congr h.sm (Sm.refl 0)]; rfl

set_option maxRecDepth 100000 in
set_option maxHeartbeats 1000000 in
theorem unit_any (ax ay az : Nat) (w : World) : Ret Try.prog 24 #[.agg #[.float .f64 ax, .float .f64 ay, .float .f64 az]] w (fun v => ∃ a b c, v = .tuple #[.agg #[.float .f64 a, .float .f64 b, .float .f64 c], .bool (unitB (lenF ax ay az))] ∧
    Eqv a (if unitB (lenF ax ay az) then fdiv ax (lenF ax ay az) else 0) ∧ Eqv b (if unitB (lenF ax ay az) then fdiv ay (lenF ax ay az) else 0) ∧ Eqv c (if unitB (lenF ax ay az) then fdiv az (lenF ax ay az) else 0)) := by
  unfold Ret
  have HL : Hid _ := len_any ax ay az
  have eL : lenF ax ay az = fsqrt (dotF ax ay az ax ay az) := rfl
  generalize lenF ax ay az = z at eL ⊢
  rw [← eL] at HL
  clear eL
  unfold unitB
  have HP : Hid (∀ r, Eqv r z → (FloatKind.f64.format.order r 0 == some .gt) = (ford z 0 == some .gt)) := fun r h => gt_congr h
  have HQ : Hid (∀ r, Eqv r z → numB r = numB z) := fun r h => numB_congr h.sm
  generalize (ford z 0 == some .gt) = p at HP ⊢
  generalize numB z = q at HQ ⊢
  cases p <;> cases q
  case true.true =>
    go_enter Try.func24, Try.ntmps24
    go_wp2_with fail
    refine Calls.mono (HL.out _) ?_
    rintro e w1 ⟨v, rfl, ⟨r, rfl, hr⟩, hb⟩
    have hg := HP.out r hr
    have HN : Hid _ := number_any r
    rw [HQ.out r hr] at HN
    have HE : Hid _ := hr
    have HW : Hid (Cl ((w.alloc (.cells #[.float .f64 ax, .float .f64 ay, .float .f64 az] 24)).alloc (.cells #[.float .f64 0, .float .f64 0, .float .f64 0] 24)) (w1.alloc (.cells #[.float .f64 r] 22))) := Cl.alloc hb _
    clear hb hr HP HQ HL
    go_wp2_with fail
    refine Calls.mono (HN.out _) ?_
    rintro e w' ⟨rfl, hw⟩
    obtain rfl := hw.symm
    obtain ⟨a0, a1, a2⟩ := HW.out.three (b := w.heap.size) (by go_simp; exact rfl) (by go_simp; exact rfl) (by go_simp; exact rfl) (by go_simp; done)
    go_wp2_with fail
    refine Calls.mono (parts_unit _ _ _ r w1.heap.size _ (by go_simp; done) (by go_simp; done)) ?_
    rintro e w2 ⟨v, rfl, ⟨r1, r2, r3, rfl, h1, h2, h3⟩, hb⟩
    have HW2 : Hid (Cl ((w.alloc (.cells #[.float .f64 ax, .float .f64 ay, .float .f64 az] 24)).alloc (.cells #[.float .f64 0, .float .f64 0, .float .f64 0] 24)) w2) := HW.out.call hb
    clear hb a0 a1 a2
    obtain ⟨z0, z1, z2⟩ := HW2.out.three (b := w.heap.size + 1) (by go_simp; exact rfl) (by go_simp; exact rfl) (by go_simp; exact rfl) (by go_simp; done)
    obtain ⟨f0, f1, f2⟩ := HW2.out.frz (b := w.heap.size + 1) (by go_simp; done) (by go_simp; done) (by go_simp; done) (by go_simp; done)
    go_wp2_with fail
    refine bodyPost_ret (v := .tuple #[.agg #[.float .f64 r1, .float .f64 r2, .float .f64 r3], .bool true]) (by simp [results, go_sem, z0, z1, z2]) rfl ⟨_, rfl, ⟨_, _, _, rfl, h1.to (Sm.of_eq (fdiv_congr (Sm.refl _) HE.out.sm)), h2.to (Sm.of_eq (fdiv_congr (Sm.refl _) HE.out.sm)), h3.to (Sm.of_eq (fdiv_congr (Sm.refl _) HE.out.sm))⟩, ((((HW2.out.out2).setCell (by simp <;> omega) _).setCell (by simp <;> omega) _).setCell (by simp <;> omega) _)⟩
  case true.false =>
    go_enter Try.func24, Try.ntmps24
    go_wp2_with fail
    refine Calls.mono (HL.out _) ?_
    rintro e w1 ⟨v, rfl, ⟨r, rfl, hr⟩, hb⟩
    have hg := HP.out r hr
    have HN : Hid _ := number_any r
    rw [HQ.out r hr] at HN
    have HW : Hid (Cl ((w.alloc (.cells #[.float .f64 ax, .float .f64 ay, .float .f64 az] 24)).alloc (.cells #[.float .f64 0, .float .f64 0, .float .f64 0] 24)) (w1.alloc (.cells #[.float .f64 r] 22))) := Cl.alloc hb _
    clear hb hr HP HQ HL
    obtain ⟨z0, z1, z2⟩ := HW.out.three (b := w.heap.size + 1) (by go_simp; exact rfl) (by go_simp; exact rfl) (by go_simp; exact rfl) (by go_simp; done)
    obtain ⟨f0, f1, f2⟩ := HW.out.frz (b := w.heap.size + 1) (by go_simp; done) (by go_simp; done) (by go_simp; done) (by go_simp; done)
    go_wp2_with fail
    refine Calls.mono (HN.out _) ?_
    rintro e w' ⟨rfl, hw⟩
    obtain rfl := hw.symm
    go_wp2_with fail
    refine bodyPost_ret (v := .tuple #[.agg #[.float .f64 0, .float .f64 0, .float .f64 0], .bool false]) (by simp [results, go_sem, z0, z1, z2]) rfl ⟨_, rfl, ⟨_, _, _, rfl, Eqv.refl wd_zero, Eqv.refl wd_zero, Eqv.refl wd_zero⟩, ((((HW.out.out2).setCell (by simp <;> omega) _).setCell (by simp <;> omega) _).setCell (by simp <;> omega) _)⟩
  all_goals
    go_enter Try.func24, Try.ntmps24
    go_wp2_with fail
    refine Calls.mono (HL.out _) ?_
    rintro e w1 ⟨v, rfl, ⟨r, rfl, hr⟩, hb⟩
    have hg := HP.out r hr
    have HN : Hid _ := number_any r
    rw [HQ.out r hr] at HN
    have HW : Hid (Cl ((w.alloc (.cells #[.float .f64 ax, .float .f64 ay, .float .f64 az] 24)).alloc (.cells #[.float .f64 0, .float .f64 0, .float .f64 0] 24)) (w1.alloc (.cells #[.float .f64 r] 22))) := Cl.alloc hb _
    clear hb hr HP HQ HL
    obtain ⟨z0, z1, z2⟩ := HW.out.three (b := w.heap.size + 1) (by go_simp; exact rfl) (by go_simp; exact rfl) (by go_simp; exact rfl) (by go_simp; done)
    obtain ⟨f0, f1, f2⟩ := HW.out.frz (b := w.heap.size + 1) (by go_simp; done) (by go_simp; done) (by go_simp; done) (by go_simp; done)
    go_wp2_with fail
    refine bodyPost_ret (v := .tuple #[.agg #[.float .f64 0, .float .f64 0, .float .f64 0], .bool false]) (by simp [results, go_sem, z0, z1, z2]) rfl ⟨_, rfl, ⟨_, _, _, rfl, Eqv.refl wd_zero, Eqv.refl wd_zero, Eqv.refl wd_zero⟩, ((((HW.out.out2).setCell (by simp <;> omega) _).setCell (by simp <;> omega) _).setCell (by simp <;> omega) _)⟩

end Go.Proofs.Ytcpbehnjjnhcnaa
