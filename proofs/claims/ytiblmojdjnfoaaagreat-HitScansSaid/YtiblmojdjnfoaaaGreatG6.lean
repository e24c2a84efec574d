/- Add, Sub, Mul, Scale, Neg, Along. Len2, Len, Finite, Part. Unit. Package vec's outer product. The reference: Unit. The reference: Finite, Along, Cross, Unit. Vectors as three words, and what is reckoned with them; the contracts of package vec and of its reference, told so. The parts of a direction are numbers; products with 0; what is not below 0. -/
import Derived.Test.YtiblmojdjnfoaaaGreatG5
import Derived.Test.YtiblmojdjnfoaaaGreatG4
import Derived.Test.YtiblmojdjnfoaaaGreatG3
namespace Go.Proofs.YtiblmojdjnfoaaaGreat
open Go.RowKit Fl

set_option maxRecDepth 100000 in
set_option maxHeartbeats 1000000 in
theorem add_any (ax ay az bx bY bz : Nat) (w : World) : Ret Tryz.prog 83 #[.agg #[.float .f64 ax, .float .f64 ay, .float .f64 az], .agg #[.float .f64 bx, .float .f64 bY, .float .f64 bz]] w (isV (fadd ax bx) (fadd ay bY) (fadd az bz)) := by
  unfold Ret
  go_enter Tryz.func83, Tryz.ntmps83
  go_wp2_with fail
  refine Calls.mono (pairs_add _ _ _ _ _ _ _) ?_
  rintro e w' ⟨v, rfl, ⟨r1, r2, r3, rfl, h1, h2, h3⟩, hw'⟩
  have HW : Hid (Cl (((w.alloc (.cells #[.float .f64 ax, .float .f64 ay, .float .f64 az] 25)).alloc (.cells #[.float .f64 bx, .float .f64 bY, .float .f64 bz] 25)).alloc (.cells #[.float .f64 0, .float .f64 0, .float .f64 0] 25)) w') := hw'
  obtain ⟨z0, z1, z2⟩ := HW.out.three (b := w.heap.size + 1 + 1) (by go_simp; exact rfl) (by go_simp; exact rfl) (by go_simp; exact rfl) (by go_simp; done)
  obtain ⟨f0, f1, f2⟩ := HW.out.frz (b := w.heap.size + 1 + 1) (by go_simp; done) (by go_simp; done) (by go_simp; done) (by go_simp; done)
  clear hw'
  go_wp2_with fail
  refine bodyPost_ret (v := .agg #[.float .f64 r1, .float .f64 r2, .float .f64 r3]) (by simp [results, go_sem, z0, z1, z2]) rfl ⟨_, rfl, ⟨_, _, _, rfl, by assumption, by assumption, by assumption⟩, ((((HW.out.out3).setCell (by simp <;> omega) _).setCell (by simp <;> omega) _).setCell (by simp <;> omega) _)⟩

set_option maxRecDepth 100000 in
set_option maxHeartbeats 1000000 in
theorem sub_any (ax ay az bx bY bz : Nat) (w : World) : Ret Tryz.prog 92 #[.agg #[.float .f64 ax, .float .f64 ay, .float .f64 az], .agg #[.float .f64 bx, .float .f64 bY, .float .f64 bz]] w (isV (fsub ax bx) (fsub ay bY) (fsub az bz)) := by
  unfold Ret
  go_enter Tryz.func92, Tryz.ntmps92
  go_wp2_with fail
  refine Calls.mono (pairs_sub _ _ _ _ _ _ _) ?_
  rintro e w' ⟨v, rfl, ⟨r1, r2, r3, rfl, h1, h2, h3⟩, hw'⟩
  have HW : Hid (Cl (((w.alloc (.cells #[.float .f64 ax, .float .f64 ay, .float .f64 az] 25)).alloc (.cells #[.float .f64 bx, .float .f64 bY, .float .f64 bz] 25)).alloc (.cells #[.float .f64 0, .float .f64 0, .float .f64 0] 25)) w') := hw'
  obtain ⟨z0, z1, z2⟩ := HW.out.three (b := w.heap.size + 1 + 1) (by go_simp; exact rfl) (by go_simp; exact rfl) (by go_simp; exact rfl) (by go_simp; done)
  obtain ⟨f0, f1, f2⟩ := HW.out.frz (b := w.heap.size + 1 + 1) (by go_simp; done) (by go_simp; done) (by go_simp; done) (by go_simp; done)
  clear hw'
  go_wp2_with fail
  refine bodyPost_ret (v := .agg #[.float .f64 r1, .float .f64 r2, .float .f64 r3]) (by simp [results, go_sem, z0, z1, z2]) rfl ⟨_, rfl, ⟨_, _, _, rfl, by assumption, by assumption, by assumption⟩, ((((HW.out.out3).setCell (by simp <;> omega) _).setCell (by simp <;> omega) _).setCell (by simp <;> omega) _)⟩

set_option maxRecDepth 100000 in
set_option maxHeartbeats 1000000 in
theorem scale_any (ax ay az k : Nat) (w : World) : Ret Tryz.prog 82 #[.agg #[.float .f64 ax, .float .f64 ay, .float .f64 az], .float .f64 k] w (isV (fmul ax k) (fmul ay k) (fmul az k)) := by
  unfold Ret
  go_enter Tryz.func82, Tryz.ntmps82
  go_wp2_with fail
  refine Calls.mono (parts_scale _ _ _ k (w.heap.size + 1) _ (by go_simp; done) (by go_simp; done)) ?_
  rintro e w' ⟨v, rfl, ⟨r1, r2, r3, rfl, h1, h2, h3⟩, hw'⟩
  have HW : Hid (Cl (((w.alloc (.cells #[.float .f64 ax, .float .f64 ay, .float .f64 az] 25)).alloc (.cells #[.float .f64 k] 23)).alloc (.cells #[.float .f64 0, .float .f64 0, .float .f64 0] 25)) w') := hw'
  obtain ⟨z0, z1, z2⟩ := HW.out.three (b := w.heap.size + 1 + 1) (by go_simp; exact rfl) (by go_simp; exact rfl) (by go_simp; exact rfl) (by go_simp; done)
  obtain ⟨f0, f1, f2⟩ := HW.out.frz (b := w.heap.size + 1 + 1) (by go_simp; done) (by go_simp; done) (by go_simp; done) (by go_simp; done)
  clear hw'
  go_wp2_with fail
  refine bodyPost_ret (v := .agg #[.float .f64 r1, .float .f64 r2, .float .f64 r3]) (by simp [results, go_sem, z0, z1, z2]) rfl ⟨_, rfl, ⟨_, _, _, rfl, by assumption, by assumption, by assumption⟩, ((((HW.out.out3).setCell (by simp <;> omega) _).setCell (by simp <;> omega) _).setCell (by simp <;> omega) _)⟩

end Go.Proofs.YtiblmojdjnfoaaaGreat

namespace Go.Proofs.YtiblmojdjnfoaaaGreat
open Go.RowKit Fl

set_option maxRecDepth 100000 in
set_option maxHeartbeats 1000000 in
theorem finite_any (ax ay az : Nat) (w : World) : Ret Tryz.prog 84 #[.agg #[.float .f64 ax, .float .f64 ay, .float .f64 az]] w (fun v => v = .bool (numB ax && numB ay && numB az)) := by
  unfold Ret
  have HX : Hid _ := number_any ax
  have HY : Hid _ := number_any ay
  have HZ : Hid _ := number_any az
  generalize numB ax = p at HX ⊢
  generalize numB ay = q at HY ⊢
  generalize numB az = s at HZ ⊢
  cases p <;> cases q <;> cases s <;>
  · go_enter Tryz.func84, Tryz.ntmps84
    go_wp2_with fail
    refine Calls.mono (HX.out _) ?_
    rintro e w' ⟨rfl, hw⟩
    obtain rfl := hw.symm
    go_wp2_with fail
    try
      refine Calls.mono (HY.out _) ?_
      rintro e w' ⟨rfl, hw⟩
      obtain rfl := hw.symm
      go_wp2_with fail
    try
      refine Calls.mono (HZ.out _) ?_
      rintro e w' ⟨rfl, hw⟩
      obtain rfl := hw.symm
      go_wp2_with fail
    go_ret
    exact ⟨_, rfl, rfl, (Below.refl _ _).alloc (Nat.le_refl _) _⟩

/-- The part of an axis. -/
def partF (ax ay az : Nat) (i : Int) : Nat := if i = 0 then ax else if i = 1 then ay else az

set_option maxRecDepth 100000 in
set_option maxHeartbeats 1000000 in
theorem part_any (ax ay az : Nat) (i : Int) (hx : Wd ax) (hy : Wd ay) (hz : Wd az) (w : World) : Ret Tryz.prog 51 #[.agg #[.float .f64 ax, .float .f64 ay, .float .f64 az], .int .i64 i] w (isF (partF ax ay az i)) := by
  unfold Ret partF
  by_cases h0 : i = 0
  · subst h0
    go_enter Tryz.func51, Tryz.ntmps51
    go_wp2_with fail
    go_ret
    exact ⟨_, rfl, ⟨_, rfl, Eqv.refl hx⟩, (Below.refl _ _).alloc (Nat.le_refl _) _⟩
  · by_cases h1 : i = 1
    · subst h1
      go_enter Tryz.func51, Tryz.ntmps51
      go_wp2_with fail
      go_ret
      exact ⟨_, rfl, ⟨_, rfl, Eqv.refl hy⟩, (Below.refl _ _).alloc (Nat.le_refl _) _⟩
    · rw [if_neg h0, if_neg h1]
      have b0 : (i == 0) = false := by simpa using h0
      have b1 : (i == 1) = false := by simpa using h1
      clear h0 h1
      go_enter Tryz.func51, Tryz.ntmps51
      go_wp2_with fail
      go_ret
      exact ⟨_, rfl, ⟨_, rfl, Eqv.refl hz⟩, (Below.refl _ _).alloc (Nat.le_refl _) _⟩

end Go.Proofs.YtiblmojdjnfoaaaGreat

namespace Go.Proofs.YtiblmojdjnfoaaaGreat
open Go.RowKit Fl

def unitB (z : Nat) : Bool := ford z 0 == some .gt && numB z
abbrev lenF (ax ay az : Nat) : Nat := fsqrt (dotF ax ay az ax ay az)
theorem gt_congr {r z : Nat} (h : Eqv r z) : (FloatKind.f64.format.order r 0 == some .gt) = (ford z 0 == some .gt) := by
  rw [← ford_congr h.sm (Sm.refl 0)]; rfl

end Go.Proofs.YtiblmojdjnfoaaaGreat

namespace Go.Proofs.YtiblmojdjnfoaaaGreat
open Go.RowKit Fl

set_option maxRecDepth 100000 in
set_option maxHeartbeats 1000000 in
theorem cross_any (ax ay az bx bY bz : Nat) (w : World) : Ret Tryz.prog 110 #[.agg #[.float .f64 ax, .float .f64 ay, .float .f64 az], .agg #[.float .f64 bx, .float .f64 bY, .float .f64 bz]] w (isV (fsub (fmul ay bz) (fmul az bY)) (fsub (fmul az bx) (fmul ax bz)) (fsub (fmul ax bY) (fmul ay bx))) := by
  unfold Ret
  go_enter Tryz.func110, Tryz.ntmps110
  go_wp2_with fail
  refine wp_region_loose (Cl _) [none, none, none, none, some (isF (fmul ay bz)), none, none, none, none, some (isF (fmul az bY)), some (isF (fsub (fmul ay bz) (fmul az bY))), none, none, none, none, some (isF (fmul az bx)), none, none, none, none, some (isF (fmul ax bz)), some (isF (fsub (fmul az bx) (fmul ax bz))), none, none, none, none, some (isF (fmul ax bY)), none, none, none, none, some (isF (fmul ay bx)), some (isF (fsub (fmul ax bY) (fmul ay bx))), none] 34 (by kernel_rfl) (by kernel_rfl) (by kernel_rfl) (Cl.drew _) ?_
  have HA : Hid (∀ w', Cl (((w.alloc (.cells #[.float .f64 ax, .float .f64 ay, .float .f64 az] 25)).alloc (.cells #[.float .f64 bx, .float .f64 bY, .float .f64 bz] 25)).alloc (.cells #[.float .f64 0, .float .f64 0, .float .f64 0] 25)) w' → _) := fun w' h => h.three (b := w.heap.size) (by go_simp; exact rfl) (by go_simp; exact rfl) (by go_simp; exact rfl) (by go_simp; done)
  have HB : Hid (∀ w', Cl (((w.alloc (.cells #[.float .f64 ax, .float .f64 ay, .float .f64 az] 25)).alloc (.cells #[.float .f64 bx, .float .f64 bY, .float .f64 bz] 25)).alloc (.cells #[.float .f64 0, .float .f64 0, .float .f64 0] 25)) w' → _) := fun w' h => h.three (b := w.heap.size + 1) (by go_simp; exact rfl) (by go_simp; exact rfl) (by go_simp; exact rfl) (by go_simp; done)
  have HZ : Hid (∀ w', Cl (((w.alloc (.cells #[.float .f64 ax, .float .f64 ay, .float .f64 az] 25)).alloc (.cells #[.float .f64 bx, .float .f64 bY, .float .f64 bz] 25)).alloc (.cells #[.float .f64 0, .float .f64 0, .float .f64 0] 25)) w' → _) := fun w' h => h.three (b := w.heap.size + 1 + 1) (by go_simp; exact rfl) (by go_simp; exact rfl) (by go_simp; exact rfl) (by go_simp; done)
  have HY : Hid (∀ w', Cl (((w.alloc (.cells #[.float .f64 ax, .float .f64 ay, .float .f64 az] 25)).alloc (.cells #[.float .f64 bx, .float .f64 bY, .float .f64 bz] 25)).alloc (.cells #[.float .f64 0, .float .f64 0, .float .f64 0] 25)) w' → _) := fun w' h => h.frz (b := w.heap.size + 1 + 1) (by go_simp; done) (by go_simp; done) (by go_simp; done) (by go_simp; done)
  repeat (
    refine loose_one ?_ rfl (fun w hw => ?_) (fun K hK => ?_)
    rotate_left
    ·obtain ⟨a0, a1, a2⟩ := HA.out _ hw
     obtain ⟨b0, b1, b2⟩ := HB.out _ hw
     go_simp
     exact rfl
    go_simp
    refine hK _ ?_
    clear hK K)
  refine loose_any rfl (fun w hw => ?_) (fun K hK => ?_)
  · go_simp
    exact loose_ret (product_any _ _ _) hw
  rintro v ⟨r1a, rfl, h1a⟩
  go_simp
  refine hK _ ?_
  clear hK K
  repeat (
    refine loose_one ?_ rfl (fun w hw => ?_) (fun K hK => ?_)
    rotate_left
    ·obtain ⟨a0, a1, a2⟩ := HA.out _ hw
     obtain ⟨b0, b1, b2⟩ := HB.out _ hw
     go_simp
     exact rfl
    go_simp
    refine hK _ ?_
    clear hK K)
  refine loose_any rfl (fun w hw => ?_) (fun K hK => ?_)
  · go_simp
    exact loose_ret (product_any _ _ _) hw
  rintro v ⟨r1b, rfl, h1b⟩
  go_simp
  refine hK _ ?_
  clear hK K
  refine loose_any rfl (fun w hw => ?_) (fun K hK => ?_)
  · go_simp
    exact loose_sub (by first | exact Eqv.sm (by assumption) | exact Sm.refl _) (by first | exact Eqv.sm (by assumption) | exact Sm.refl _) (fun n => hw.drewN n)
  rintro v ⟨r1, rfl, h1⟩
  go_simp
  refine hK _ ?_
  clear hK K
  repeat (
    refine loose_one ?_ rfl (fun w hw => ?_) (fun K hK => ?_)
    rotate_left
    ·obtain ⟨a0, a1, a2⟩ := HA.out _ hw
     obtain ⟨b0, b1, b2⟩ := HB.out _ hw
     go_simp
     exact rfl
    go_simp
    refine hK _ ?_
    clear hK K)
  refine loose_any rfl (fun w hw => ?_) (fun K hK => ?_)
  · go_simp
    exact loose_ret (product_any _ _ _) hw
  rintro v ⟨r2a, rfl, h2a⟩
  go_simp
  refine hK _ ?_
  clear hK K
  repeat (
    refine loose_one ?_ rfl (fun w hw => ?_) (fun K hK => ?_)
    rotate_left
    ·obtain ⟨a0, a1, a2⟩ := HA.out _ hw
     obtain ⟨b0, b1, b2⟩ := HB.out _ hw
     go_simp
     exact rfl
    go_simp
    refine hK _ ?_
    clear hK K)
  refine loose_any rfl (fun w hw => ?_) (fun K hK => ?_)
  · go_simp
    exact loose_ret (product_any _ _ _) hw
  rintro v ⟨r2b, rfl, h2b⟩
  go_simp
  refine hK _ ?_
  clear hK K
  refine loose_any rfl (fun w hw => ?_) (fun K hK => ?_)
  · go_simp
    exact loose_sub (by first | exact Eqv.sm (by assumption) | exact Sm.refl _) (by first | exact Eqv.sm (by assumption) | exact Sm.refl _) (fun n => hw.drewN n)
  rintro v ⟨r2, rfl, h2⟩
  go_simp
  refine hK _ ?_
  clear hK K
  repeat (
    refine loose_one ?_ rfl (fun w hw => ?_) (fun K hK => ?_)
    rotate_left
    ·obtain ⟨a0, a1, a2⟩ := HA.out _ hw
     obtain ⟨b0, b1, b2⟩ := HB.out _ hw
     go_simp
     exact rfl
    go_simp
    refine hK _ ?_
    clear hK K)
  refine loose_any rfl (fun w hw => ?_) (fun K hK => ?_)
  · go_simp
    exact loose_ret (product_any _ _ _) hw
  rintro v ⟨r3a, rfl, h3a⟩
  go_simp
  refine hK _ ?_
  clear hK K
  repeat (
    refine loose_one ?_ rfl (fun w hw => ?_) (fun K hK => ?_)
    rotate_left
    ·obtain ⟨a0, a1, a2⟩ := HA.out _ hw
     obtain ⟨b0, b1, b2⟩ := HB.out _ hw
     go_simp
     exact rfl
    go_simp
    refine hK _ ?_
    clear hK K)
  refine loose_any rfl (fun w hw => ?_) (fun K hK => ?_)
  · go_simp
    exact loose_ret (product_any _ _ _) hw
  rintro v ⟨r3b, rfl, h3b⟩
  go_simp
  refine hK _ ?_
  clear hK K
  refine loose_any rfl (fun w hw => ?_) (fun K hK => ?_)
  · go_simp
    exact loose_sub (by first | exact Eqv.sm (by assumption) | exact Sm.refl _) (by first | exact Eqv.sm (by assumption) | exact Sm.refl _) (fun n => hw.drewN n)
  rintro v ⟨r3, rfl, h3⟩
  go_simp
  refine hK _ ?_
  clear hK K
  repeat (
    refine loose_one ?_ rfl (fun w hw => ?_) (fun K hK => ?_)
    rotate_left
    ·obtain ⟨a0, a1, a2⟩ := HA.out _ hw
     obtain ⟨b0, b1, b2⟩ := HB.out _ hw
     go_simp
     exact rfl
    go_simp
    refine hK _ ?_
    clear hK K)
  intro w' hw'
  obtain ⟨z0, z1, z2⟩ := HZ.out _ hw'
  obtain ⟨f0, f1, f2⟩ := HY.out _ hw'
  have HW : Hid (Cl (((w.alloc (.cells #[.float .f64 ax, .float .f64 ay, .float .f64 az] 25)).alloc (.cells #[.float .f64 bx, .float .f64 bY, .float .f64 bz] 25)).alloc (.cells #[.float .f64 0, .float .f64 0, .float .f64 0] 25)) w') := hw'
  clear hw'
  go_wp2_with fail
  refine bodyPost_ret (v := .agg #[.float .f64 r1, .float .f64 r2, .float .f64 r3]) (by simp [results, go_sem, z0, z1, z2]) rfl ⟨_, rfl, ⟨_, _, _, rfl, by assumption, by assumption, by assumption⟩, ((((HW.out.out3).setCell (by simp <;> omega) _).setCell (by simp <;> omega) _).setCell (by simp <;> omega) _)⟩
end Go.Proofs.YtiblmojdjnfoaaaGreat

namespace Go.Proofs.YtiblmojdjnfoaaaGreat
open Go.RowKit Fl

def unitR (z : Nat) : Bool := ford z 0 == some .gt && numB z
abbrev lenR (ax ay az : Nat) : Nat := fsqrt (dotR ax ay az ax ay az)
theorem gt_congrR {r z : Nat} (h : Eqv r z) : (FloatKind.f64.format.order r 0 == some .gt) = (ford z 0 == some .gt) := by
  rw [← ford_congr h.sm (Sm.refl 0)]; rfl
theorem wd_zeroR : Wd 0 := by unfold Wd; omega

end Go.Proofs.YtiblmojdjnfoaaaGreat

namespace Go.Proofs.YtiblmojdjnfoaaaGreat
open Go.RowKit Fl

set_option maxRecDepth 100000 in
set_option maxHeartbeats 1000000 in
theorem rfinite_any (ax ay az : Nat) (w : World) : Ret Tryz.prog 36 #[.agg #[.float .f64 ax, .float .f64 ay, .float .f64 az]] w (fun v => v = .bool (numB ax && numB ay && numB az)) := by
  unfold Ret
  have HX : Hid _ := rnumber_any ax
  have HY : Hid _ := rnumber_any ay
  have HZ : Hid _ := rnumber_any az
  generalize numB ax = p at HX ⊢
  generalize numB ay = q at HY ⊢
  generalize numB az = s at HZ ⊢
  cases p <;> cases q <;> cases s <;>
  · go_enter Tryz.func36, Tryz.ntmps36
    go_wp2_with fail
    refine Calls.mono (HX.out _) ?_
    rintro e w' ⟨rfl, n1, rfl⟩
    go_wp2_with fail
    try
      refine Calls.mono (HY.out _) ?_
      rintro e w' ⟨rfl, n2, rfl⟩
      go_wp2_with fail
    try
      refine Calls.mono (HZ.out _) ?_
      rintro e w' ⟨rfl, n3, rfl⟩
      go_wp2_with fail
    go_ret
    exact ⟨_, rfl, rfl, Cl.out1 (Cl.drewN (Below.refl _ _) _)⟩

set_option maxRecDepth 100000 in
set_option maxHeartbeats 1000000 in
theorem rcross_any (ax ay az bx bY bz : Nat) (w : World) : Ret Tryz.prog 48 #[.agg #[.float .f64 ax, .float .f64 ay, .float .f64 az], .agg #[.float .f64 bx, .float .f64 bY, .float .f64 bz]] w (isV (fsub (fmul ay bz) (fmul az bY)) (fsub (fmul az bx) (fmul ax bz)) (fsub (fmul ax bY) (fmul ay bx))) := by
  unfold Ret
  go_enter Tryz.func48, Tryz.ntmps48
  go_wp2_with fail
  refine wp_region_loose (Cl _) [none, none, none, none, none, none, none, none, some (isF (fsub (fmul ay bz) (fmul az bY))), none, none, none, none, none, none, none, none, some (isF (fsub (fmul az bx) (fmul ax bz))), none, none, none, none, none, none, none, none, some (isF (fsub (fmul ax bY) (fmul ay bx))), none] 28 (by kernel_rfl) (by kernel_rfl) (by kernel_rfl) (Cl.drew _) ?_
  have HA : Hid (∀ w', Cl (((w.alloc (.cells #[.float .f64 ax, .float .f64 ay, .float .f64 az] 25)).alloc (.cells #[.float .f64 bx, .float .f64 bY, .float .f64 bz] 25)).alloc (.cells #[.float .f64 0, .float .f64 0, .float .f64 0] 25)) w' → _) := fun w' h => h.three (b := w.heap.size) (by go_simp; exact rfl) (by go_simp; exact rfl) (by go_simp; exact rfl) (by go_simp; done)
  have HB : Hid (∀ w', Cl (((w.alloc (.cells #[.float .f64 ax, .float .f64 ay, .float .f64 az] 25)).alloc (.cells #[.float .f64 bx, .float .f64 bY, .float .f64 bz] 25)).alloc (.cells #[.float .f64 0, .float .f64 0, .float .f64 0] 25)) w' → _) := fun w' h => h.three (b := w.heap.size + 1) (by go_simp; exact rfl) (by go_simp; exact rfl) (by go_simp; exact rfl) (by go_simp; done)
  have HZ : Hid (∀ w', Cl (((w.alloc (.cells #[.float .f64 ax, .float .f64 ay, .float .f64 az] 25)).alloc (.cells #[.float .f64 bx, .float .f64 bY, .float .f64 bz] 25)).alloc (.cells #[.float .f64 0, .float .f64 0, .float .f64 0] 25)) w' → _) := fun w' h => h.three (b := w.heap.size + 1 + 1) (by go_simp; exact rfl) (by go_simp; exact rfl) (by go_simp; exact rfl) (by go_simp; done)
  have HY : Hid (∀ w', Cl (((w.alloc (.cells #[.float .f64 ax, .float .f64 ay, .float .f64 az] 25)).alloc (.cells #[.float .f64 bx, .float .f64 bY, .float .f64 bz] 25)).alloc (.cells #[.float .f64 0, .float .f64 0, .float .f64 0] 25)) w' → _) := fun w' h => h.frz (b := w.heap.size + 1 + 1) (by go_simp; done) (by go_simp; done) (by go_simp; done) (by go_simp; done)
  repeat (
    refine loose_one ?_ rfl (fun w hw => ?_) (fun K hK => ?_)
    rotate_left
    ·obtain ⟨a0, a1, a2⟩ := HA.out _ hw
     obtain ⟨b0, b1, b2⟩ := HB.out _ hw
     go_simp
     exact rfl
    go_simp
    refine hK _ ?_
    clear hK K)
  refine loose_any rfl (fun w hw => ?_) (fun K hK => ?_)
  · go_simp
    exact loose_ret (less_any _ _ _ _ _) hw
  rintro v ⟨r1, rfl, h1⟩
  go_simp
  refine hK _ ?_
  clear hK K
  repeat (
    refine loose_one ?_ rfl (fun w hw => ?_) (fun K hK => ?_)
    rotate_left
    ·obtain ⟨a0, a1, a2⟩ := HA.out _ hw
     obtain ⟨b0, b1, b2⟩ := HB.out _ hw
     go_simp
     exact rfl
    go_simp
    refine hK _ ?_
    clear hK K)
  refine loose_any rfl (fun w hw => ?_) (fun K hK => ?_)
  · go_simp
    exact loose_ret (less_any _ _ _ _ _) hw
  rintro v ⟨r2, rfl, h2⟩
  go_simp
  refine hK _ ?_
  clear hK K
  repeat (
    refine loose_one ?_ rfl (fun w hw => ?_) (fun K hK => ?_)
    rotate_left
    ·obtain ⟨a0, a1, a2⟩ := HA.out _ hw
     obtain ⟨b0, b1, b2⟩ := HB.out _ hw
     go_simp
     exact rfl
    go_simp
    refine hK _ ?_
    clear hK K)
  refine loose_any rfl (fun w hw => ?_) (fun K hK => ?_)
  · go_simp
    exact loose_ret (less_any _ _ _ _ _) hw
  rintro v ⟨r3, rfl, h3⟩
  go_simp
  refine hK _ ?_
  clear hK K
  repeat (
    refine loose_one ?_ rfl (fun w hw => ?_) (fun K hK => ?_)
    rotate_left
    ·obtain ⟨a0, a1, a2⟩ := HA.out _ hw
     obtain ⟨b0, b1, b2⟩ := HB.out _ hw
     go_simp
     exact rfl
    go_simp
    refine hK _ ?_
    clear hK K)
  intro w' hw'
  obtain ⟨z0, z1, z2⟩ := HZ.out _ hw'
  obtain ⟨f0, f1, f2⟩ := HY.out _ hw'
  have HW : Hid (Cl (((w.alloc (.cells #[.float .f64 ax, .float .f64 ay, .float .f64 az] 25)).alloc (.cells #[.float .f64 bx, .float .f64 bY, .float .f64 bz] 25)).alloc (.cells #[.float .f64 0, .float .f64 0, .float .f64 0] 25)) w') := hw'
  clear hw'
  go_wp2_with fail
  refine bodyPost_ret (v := .agg #[.float .f64 r1, .float .f64 r2, .float .f64 r3]) (by simp [results, go_sem, z0, z1, z2]) rfl ⟨_, rfl, ⟨_, _, _, rfl, by assumption, by assumption, by assumption⟩, ((((HW.out.out3).setCell (by simp <;> omega) _).setCell (by simp <;> omega) _).setCell (by simp <;> omega) _)⟩

end Go.Proofs.YtiblmojdjnfoaaaGreat

namespace Go.Proofs.YtiblmojdjnfoaaaGreat
open Go.RowKit Fl

/-- Three words. -/
structure V3 where
  x : Nat
  y : Nat
  z : Nat
def V3.sub (a b : V3) : V3 := ⟨fsub a.x b.x, fsub a.y b.y, fsub a.z b.z⟩
def V3.add (a b : V3) : V3 := ⟨fadd a.x b.x, fadd a.y b.y, fadd a.z b.z⟩
def V3.scale (a : V3) (k : Nat) : V3 := ⟨fmul a.x k, fmul a.y k, fmul a.z k⟩
def V3.cross (a b : V3) : V3 := ⟨fsub (fmul a.y b.z) (fmul a.z b.y), fsub (fmul a.z b.x) (fmul a.x b.z), fsub (fmul a.x b.y) (fmul a.y b.x)⟩
def V3.dot (a b : V3) : Nat := fadd (fadd (fmul a.x b.x) (fmul a.y b.y)) (fmul a.z b.z)
def V3.len (a : V3) : Nat := fsqrt (a.dot a)
def V3.ok (a : V3) : Bool := unitB a.len
def V3.unit (a : V3) : V3 := if a.ok then ⟨fdiv a.x a.len, fdiv a.y a.len, fdiv a.z a.len⟩ else ⟨0, 0, 0⟩
/-- The same numbers, or none in both, part by part. -/
structure S3 (x y z : Nat) (P : V3) : Prop where
  x : Sm x P.x
  y : Sm y P.y
  z : Sm z P.z
structure W3 (x y z : Nat) : Prop where
  x : Wd x
  y : Wd y
  z : Wd z
theorem S3.refl (x y z : Nat) : S3 x y z ⟨x, y, z⟩ := ⟨Sm.refl x, Sm.refl y, Sm.refl z⟩
/-- A vector, up to which NaN. -/
def isP (P : V3) (v : Value) : Prop := ∃ x y z, v = .agg #[.float .f64 x, .float .f64 y, .float .f64 z] ∧ S3 x y z P ∧ W3 x y z
theorem isP.of {P : V3} : ∀ v, isV P.x P.y P.z v → isP P v := fun _ ⟨a, b, c, e, h0, h1, h2⟩ => ⟨a, b, c, e, ⟨h0.sm, h1.sm, h2.sm⟩, ⟨h0.wd, h1.wd, h2.wd⟩⟩
theorem isF.sm {x y : Nat} (h : x = y) : ∀ v, isF x v → isF y v := fun _ k => h ▸ k

section
variable {ax ay az bx bY bz k K : Nat} {A B : V3}
theorem sub_w (ha : S3 ax ay az A) (hb : S3 bx bY bz B) : (⟨fsub ax bx, fsub ay bY, fsub az bz⟩ : V3) = A.sub B := by
  unfold V3.sub; rw [fsub_congr ha.x hb.x, fsub_congr ha.y hb.y, fsub_congr ha.z hb.z]
theorem add_w (ha : S3 ax ay az A) (hb : S3 bx bY bz B) : (⟨fadd ax bx, fadd ay bY, fadd az bz⟩ : V3) = A.add B := by
  unfold V3.add; rw [fadd_congr ha.x hb.x, fadd_congr ha.y hb.y, fadd_congr ha.z hb.z]
theorem scale_w (ha : S3 ax ay az A) (hk : Sm k K) : (⟨fmul ax k, fmul ay k, fmul az k⟩ : V3) = A.scale K := by
  unfold V3.scale; rw [fmul_congr ha.x hk, fmul_congr ha.y hk, fmul_congr ha.z hk]
theorem cross_w (ha : S3 ax ay az A) (hb : S3 bx bY bz B) : (⟨fsub (fmul ay bz) (fmul az bY), fsub (fmul az bx) (fmul ax bz), fsub (fmul ax bY) (fmul ay bx)⟩ : V3) = A.cross B := by
  unfold V3.cross
  rw [fmul_congr ha.y hb.z, fmul_congr ha.z hb.y, fmul_congr ha.z hb.x, fmul_congr ha.x hb.z, fmul_congr ha.x hb.y, fmul_congr ha.y hb.x]
theorem dot_w (ha : S3 ax ay az A) (hb : S3 bx bY bz B) : fadd (fadd (fmul ax bx) (fmul ay bY)) (fmul az bz) = A.dot B := by
  unfold V3.dot; rw [fmul_congr ha.x hb.x, fmul_congr ha.y hb.y, fmul_congr ha.z hb.z]
theorem len_w (ha : S3 ax ay az A) : lenF ax ay az = A.len := by
  unfold V3.len; rw [← dot_w ha ha]
theorem unit_w (ha : S3 ax ay az A) : (⟨if unitB (lenF ax ay az) then fdiv ax (lenF ax ay az) else 0, if unitB (lenF ax ay az) then fdiv ay (lenF ax ay az) else 0, if unitB (lenF ax ay az) then fdiv az (lenF ax ay az) else 0⟩ : V3) = A.unit := by
  unfold V3.unit V3.ok
  rw [len_w ha]
  cases unitB A.len
  · rfl
  · rw [fdiv_congr ha.x (Sm.refl _), fdiv_congr ha.y (Sm.refl _), fdiv_congr ha.z (Sm.refl _)]; rfl
theorem isV.toP {x y z : Nat} {P : V3} (h : (⟨x, y, z⟩ : V3) = P) : ∀ v, isV x y z v → isP P v := by subst h; exact fun v k => isP.of v k

variable (w : World)
theorem sub_c (ha : S3 ax ay az A) (hb : S3 bx bY bz B) : Ret Tryz.prog 92 #[.agg #[.float .f64 ax, .float .f64 ay, .float .f64 az], .agg #[.float .f64 bx, .float .f64 bY, .float .f64 bz]] w (isP (A.sub B)) :=
  (sub_any ax ay az bx bY bz w).mono (isV.toP (sub_w ha hb))

theorem rsub_c (ha : S3 ax ay az A) (hb : S3 bx bY bz B) : Ret Tryz.prog 47 #[.agg #[.float .f64 ax, .float .f64 ay, .float .f64 az], .agg #[.float .f64 bx, .float .f64 bY, .float .f64 bz]] w (isP (A.sub B)) :=
  (rsub_any ax ay az bx bY bz w).mono (isV.toP (sub_w ha hb))

theorem add_c (ha : S3 ax ay az A) (hb : S3 bx bY bz B) : Ret Tryz.prog 83 #[.agg #[.float .f64 ax, .float .f64 ay, .float .f64 az], .agg #[.float .f64 bx, .float .f64 bY, .float .f64 bz]] w (isP (A.add B)) :=
  (add_any ax ay az bx bY bz w).mono (isV.toP (add_w ha hb))

theorem scale_c (ha : S3 ax ay az A) (hk : Sm k K) : Ret Tryz.prog 82 #[.agg #[.float .f64 ax, .float .f64 ay, .float .f64 az], .float .f64 k] w (isP (A.scale K)) :=
  (scale_any ax ay az k w).mono (isV.toP (scale_w ha hk))

theorem cross_c (ha : S3 ax ay az A) (hb : S3 bx bY bz B) : Ret Tryz.prog 110 #[.agg #[.float .f64 ax, .float .f64 ay, .float .f64 az], .agg #[.float .f64 bx, .float .f64 bY, .float .f64 bz]] w (isP (A.cross B)) :=
  (cross_any ax ay az bx bY bz w).mono (isV.toP (cross_w ha hb))

theorem rcross_c (ha : S3 ax ay az A) (hb : S3 bx bY bz B) : Ret Tryz.prog 48 #[.agg #[.float .f64 ax, .float .f64 ay, .float .f64 az], .agg #[.float .f64 bx, .float .f64 bY, .float .f64 bz]] w (isP (A.cross B)) :=
  (rcross_any ax ay az bx bY bz w).mono (isV.toP (cross_w ha hb))

theorem dot_c (ha : S3 ax ay az A) (hb : S3 bx bY bz B) : Ret Tryz.prog 111 #[.agg #[.float .f64 ax, .float .f64 ay, .float .f64 az], .agg #[.float .f64 bx, .float .f64 bY, .float .f64 bz]] w (isF (A.dot B)) :=
  (dot_any ax ay az bx bY bz w).mono (isF.sm (dot_w ha hb))

theorem rdot_c (ha : S3 ax ay az A) (hb : S3 bx bY bz B) : Ret Tryz.prog 49 #[.agg #[.float .f64 ax, .float .f64 ay, .float .f64 az], .agg #[.float .f64 bx, .float .f64 bY, .float .f64 bz]] w (isF (A.dot B)) :=
  (rdot_any ax ay az bx bY bz w).mono (isF.sm (dot_w ha hb))

/-- A unit, and whether there is one. -/
def isU (P : V3) (v : Value) : Prop := ∃ x y z, v = .tuple #[.agg #[.float .f64 x, .float .f64 y, .float .f64 z], .bool P.ok] ∧ S3 x y z P.unit ∧ W3 x y z
theorem isU.of (ha : S3 ax ay az A) : ∀ v, (∃ a b c, v = .tuple #[.agg #[.float .f64 a, .float .f64 b, .float .f64 c], .bool (unitB (lenF ax ay az))] ∧
    Eqv a (if unitB (lenF ax ay az) then fdiv ax (lenF ax ay az) else 0) ∧ Eqv b (if unitB (lenF ax ay az) then fdiv ay (lenF ax ay az) else 0) ∧ Eqv c (if unitB (lenF ax ay az) then fdiv az (lenF ax ay az) else 0)) → isU A v := by
  rintro v ⟨a, b, c, rfl, h0, h1, h2⟩
  have e := unit_w ha
  have ek : unitB (lenF ax ay az) = A.ok := by unfold V3.ok; rw [len_w ha]
  refine ⟨a, b, c, by rw [ek], ?_, ⟨h0.wd, h1.wd, h2.wd⟩⟩
  rw [← e]
  exact ⟨h0.sm, h1.sm, h2.sm⟩
end
end Go.Proofs.YtiblmojdjnfoaaaGreat

namespace Go.Proofs.YtiblmojdjnfoaaaGreat
open Fl

/-- Powers of 2, out of sight. -/
def pw (n : Int) : Rat := 2 ^ n
theorem pw_pos (n : Int) : 0 < pw n := p2_pos n
theorem pw_add (a b : Int) : pw (a + b) = pw a * pw b := p2_add a b
theorem pw_le {a b : Int} (h : a ≤ b) : pw a ≤ pw b := p2_le h

theorem dval_pw (n : Int) : dval (.number false 1 n) = pw n := by
  rw [dval_number]
  show ((1 : Nat) : Rat) * 2 ^ n = pw n
  have e : ((1 : Nat) : Rat) = 1 := rfl
  rw [e, Rat.one_mul]; rfl
theorem n_pw {n : Int} (h1 : -1074 ≤ n) (h2 : n ≤ 971) : Num (F64.nearest false 1 n) ∧ val (F64.nearest false 1 n) = pw n := by
  obtain ⟨a, b⟩ := nearest_small (s := false) (m := 1) (e := n) (by decide) h1 h2
  exact ⟨a, by rw [b, dval_pw]⟩
theorem ord_low {e q : Nat} (h : F64.read e = .infinity true) (hq : Num q) : ford e q = some .lt := by
  obtain ⟨s, m, i, hq⟩ := hq
  unfold ford Ieee.Format.order
  rw [h, hq]
  rfl
/-- What is written of a number up to 2 to the 960 is a number. -/
theorem write_small {neg : Bool} {mag : Nat} {place : Int} (h : (mag : Rat) * 2 ^ place ≤ pw 960) : Num (F64.nearest neg mag place) := by
  obtain ⟨a, b⟩ := n_pw (n := 960) (by decide) (by decide)
  have r := mag_nonneg mag place
  rcases nearest_cases neg mag place with k | k
  · exact k
  · exfalso
    cases neg
    · have l := nearest_mono (n1 := false) (m1 := mag) (p1 := place) (n2 := false) (m2 := 1) (p2 := 960) (by rw [dval_pw, dval_number]; exact h)
      unfold leB at l
      rw [ord_inf k a] at l
      cases l
    · have hn : Num (F64.nearest true 1 960) := ⟨true, 4503599627370496, 908, by decide +kernel⟩
      have hd : dval (.number true 1 960) = - pw 960 := by
        have := dval_pw 960
        rw [dval_number] at *
        simp only [sg, if_true, Bool.false_eq_true, if_false] at *
        rw [this]
      have l := nearest_mono (n1 := true) (m1 := 1) (p1 := 960) (n2 := true) (m2 := mag) (p2 := place) (by
        rw [hd, dval_number]
        simp only [sg, if_true]
        grind)
      have : ford (F64.nearest true 1 960) (F64.nearest true mag place) = some .gt := by
        obtain ⟨s, m, i, hq⟩ := hn
        unfold ford Ieee.Format.order
        rw [k, hq]
        rfl
      unfold leB at l
      rw [this] at l
      cases l
theorem pw_1024 : (9007199254740991 : Rat) * pw 971 ≤ pw 1024 := by
  have : pw 1024 = pw 53 * pw 971 := by rw [← pw_add]; rfl
  rw [this]
  have e : pw 53 = 9007199254740992 := by decide +kernel
  rw [e]
  exact Rat.mul_le_mul_of_nonneg_right (by decide) (Rat.le_of_lt (pw_pos 971))
theorem val_top {x : Nat} (hx : Num x) : Ab (val x) (pw 1024) := by
  obtain ⟨s, m, e, hr⟩ := hx
  have hv : val x = sg s ((m : Rat) * 2 ^ e) := by unfold val; rw [hr, dval_number]
  obtain ⟨b1, b2⟩ := number_bounds hr
  have l1 : (m : Rat) ≤ 9007199254740991 := by exact_mod_cast b1
  have l2 := pw_le b2
  have l3 := pw_1024
  have l4 : (m : Rat) * 2 ^ e ≤ 9007199254740991 * pw 971 := by
    refine Rat.le_trans (Rat.mul_le_mul_of_nonneg_right l1 (Rat.le_of_lt (p2_pos e))) ?_
    exact Rat.mul_le_mul_of_nonneg_left l2 (by decide)
  have l5 := mag_nonneg m e
  rw [hv]
  cases s <;> simp only [sg, if_true, Bool.false_eq_true, if_false] <;> unfold Ab <;> constructor <;> grind
theorem val_low {x : Nat} (hx : Num x) (h : 0 < val x) : pw (-1074) ≤ val x := by
  obtain ⟨s, m, e, hr⟩ := hx
  have hv : val x = sg s ((m : Rat) * 2 ^ e) := by unfold val; rw [hr, dval_number]
  have b := pw_le (read_low hr)
  have l5 := mag_nonneg m e
  cases s
  · simp only [sg, Bool.false_eq_true, if_false] at hv
    have hm : m ≠ 0 := by
      rintro rfl
      have : ((0 : Nat) : Rat) * 2 ^ e = 0 := Rat.zero_mul _
      rw [this] at hv
      grind
    have l1 : (1 : Rat) ≤ m := by exact_mod_cast Nat.pos_of_ne_zero hm
    have l2 := Rat.mul_le_mul_of_nonneg_right l1 (Rat.le_of_lt (p2_pos e))
    have l3 : pw e = 2 ^ e := rfl
    rw [hv]
    grind
  · simp only [sg, if_true] at hv
    grind
theorem ev_half : ev ≤ 1 / 2 := by decide +kernel
theorem ev_pos : 0 ≤ ev := by decide +kernel
/-- The root of a number above 0. -/
theorem root_low {x : Nat} (hx : Num x) (h0 : 0 < val x) : Num (fsqrt x) ∧ pw (-538) ≤ val (fsqrt x) ∧ (pw 800 ≤ val x → pw 399 ≤ val (fsqrt x)) := by
  obtain ⟨mag, place, e, h1, h2, _⟩ := sqrt_near hx h0
  have hq := mag_nonneg mag place
  have hd : dval (.number false mag place) = (mag : Rat) * 2 ^ place := rfl
  generalize (mag : Rat) * 2 ^ place = q at *
  have t1 := (val_top hx).2
  have t2 := val_low hx h0
  have e1 := ev_half
  have e0 := ev_pos
  have z1 : val x * ev ≤ val x * (1 / 2) := Rat.mul_le_mul_of_nonneg_left e1 (Rat.le_of_lt h0)
  have up : q ≤ pw 513 := by
    refine sq_ge (Rat.le_of_lt (pw_pos _)) ?_
    have : pw 513 * pw 513 = pw 1024 * 4 := by rw [← pw_add, show (513 : Int) + 513 = 1024 + 2 from rfl, pw_add]; rfl
    rw [this]
    have := pw_pos 1024
    grind
  have hn : Num (F64.nearest false mag place) := write_small (by
    have := pw_le (show (513 : Int) ≤ 960 by decide)
    show (mag : Rat) * 2 ^ place ≤ _
    have e : dval (.number false mag place) = (mag : Rat) * 2 ^ place := rfl
    rw [← e, hd]
    grind)
  have low : ∀ n : Int, -1074 ≤ n → n ≤ 971 → pw n * pw n ≤ q * q → pw n ≤ val (fsqrt x) := by
    intro n n1 n2 hh
    have hh' : pw n ≤ q := sq_ge hq hh
    obtain ⟨a, b⟩ := n_pw n1 n2
    have := nearest_mono (n1 := false) (m1 := 1) (p1 := n) (n2 := false) (m2 := mag) (p2 := place) (by rw [dval_pw, hd]; exact hh')
    rw [leB_val a hn, b] at this
    rw [e]
    exact of_decide_eq_true this
  refine ⟨by rw [e]; exact hn, low _ (by decide) (by decide) ?_, fun h => low _ (by decide) (by decide) ?_⟩
  · have : pw (-538) * pw (-538) * 4 = pw (-1074) := by
      have e4 : (4 : Rat) = pw 2 := by decide +kernel
      rw [e4, ← pw_add, ← pw_add]; rfl
    have := pw_pos (-1074)
    grind
  · have : pw 399 * pw 399 * 4 = pw 800 := by
      have e4 : (4 : Rat) = pw 2 := by decide +kernel
      rw [e4, ← pw_add, ← pw_add]; rfl
    have := pw_pos 800
    grind
/-- A quotient whose size is known. -/
theorem quot_num {x y : Nat} (hx : Num x) (hy : Num y) {a c : Int} (hc : pw c ≤ val y) (ha : Ab (val x) (pw a)) (h : a + 1 - c ≤ 960) : Num (fdiv x y) := by
  have y0 : 0 < val y := by have := pw_pos c; grind
  obtain ⟨neg, mag, place, e, hh⟩ := div_near hx hy (by grind)
  obtain ⟨g1, g2⟩ := hh (pw a) ha.1 ha.2
  have e1 := ev_half
  have p := pw_pos a
  have z1 : pw a * ev ≤ pw a * (1 / 2) := Rat.mul_le_mul_of_nonneg_left e1 (Rat.le_of_lt p)
  rw [e]
  refine write_small ?_
  have hq := mag_nonneg mag place
  rw [dval_number] at g1 g2
  have k : (mag : Rat) * 2 ^ place * val y ≤ pw a * 2 := by
    unfold Ab at ha
    cases neg <;> simp only [sg, if_true, Bool.false_eq_true, if_false] at g1 g2 <;> grind
  generalize (mag : Rat) * 2 ^ place = q at *
  have k2 : q * pw c ≤ pw a * 2 := Rat.le_trans (Rat.mul_le_mul_of_nonneg_left hc hq) k
  have k3 : pw a * 2 = pw (a + 1 - c) * pw c := by
    rw [← pw_add, show a + 1 - c + c = a + 1 by omega, pw_add]; rfl
  rw [k3] at k2
  have k4 : q ≤ pw (a + 1 - c) := Rat.le_of_mul_le_mul_right k2 (pw_pos c)
  exact Rat.le_trans k4 (pw_le h)
theorem num_of_sqrt {x : Nat} (h : Num (fsqrt x)) : Num x ∧ 0 ≤ val x := by
  unfold fsqrt Ieee.Format.sqrt at h
  cases hr : F64.read x with
  | nan s f =>
    rw [hr] at h
    exact absurd h num_not_nan
  | infinity s =>
    rw [hr] at h
    cases s
    · exact absurd h num_not_inf
    · exact absurd h num_not_nan
  | number s m e =>
    have hn : Num x := ⟨_, _, _, hr⟩
    refine ⟨hn, ?_⟩
    have hv : val x = sg s ((m : Rat) * 2 ^ e) := by unfold val; rw [hr, dval_number]
    have l5 := mag_nonneg m e
    rw [hv]
    by_cases hm : m = 0
    · subst hm
      have : ((0 : Nat) : Rat) * 2 ^ e = 0 := Rat.zero_mul _
      rw [this]
      cases s <;> simp [sg]
    · cases s
      · simpa only [sg, Bool.false_eq_true, if_false] using l5
      · exfalso
        rw [hr] at h
        simp only [Ieee.Datum.root, if_neg hm, if_true] at h
        exact absurd h num_not_nan
theorem sqrt_zero {x : Nat} (hx : Num x) (h : val x = 0) : val (fsqrt x) = 0 := by
  have := sqrt_ab hx (by rw [h]; decide) (by rw [h]; decide)
  obtain ⟨s, m, i, hr⟩ := hx
  have hvx : val x = sg s ((m : Rat) * 2 ^ i) := by unfold val; rw [hr, dval_number]
  have hm : m = 0 := by
    refine Classical.byContradiction fun hm => ?_
    have h2 : (0 : Rat) < m := by exact_mod_cast Nat.pos_of_ne_zero hm
    have h3 := Rat.mul_pos h2 (p2_pos i)
    rw [h] at hvx
    cases s <;> simp only [sg, if_true, Bool.false_eq_true, if_false] at hvx <;> grind
  subst hm
  have e : fsqrt x = F64.nearest s 0 i := by
    unfold fsqrt Ieee.Format.sqrt
    rw [hr]
    simp only [Ieee.Datum.root, if_true, Option.map_some, Option.getD_some]
    rfl
  rw [e]
  exact (nearest_zero s i).2
/-- What is known of a vector that has a direction. -/
theorem square_lo {x : Nat} (hx : Num x) (hq : Num (fmul x x)) : 0 ≤ val (fmul x x) ∧ (Ab (val x) (pw 400) ∨ pw 800 ≤ val (fmul x x)) := by
  obtain ⟨neg, mag, place, e, v⟩ := mul_near hx hx
  have nn := sq_nonneg (val x)
  constructor
  · rcases nearest_nn (neg := neg) (m := mag) (p := place) (by rw [v]; exact nn) with ⟨_, k⟩ | k
    · rw [e]; exact k
    · exfalso
      rw [e] at hq
      obtain ⟨_, _, _, hq⟩ := hq
      rw [hq] at k; cases k
  · by_cases h : Ab (val x) (pw 400)
    · exact .inl h
    · right
      have hs : pw 400 * pw 400 ≤ val x * val x := by
        refine Classical.byContradiction fun hc => h (Ab.of_sq (Rat.le_of_lt (pw_pos _)) ?_)
        grind
      rw [← pw_add] at hs
      obtain ⟨a, b⟩ := n_pw (n := 800) (by decide) (by decide)
      have := nearest_mono (n1 := false) (m1 := 1) (p1 := 800) (n2 := neg) (m2 := mag) (p2 := place) (by rw [dval_pw, v]; exact hs)
      rw [← e, leB_val a hq, b] at this
      exact of_decide_eq_true this
theorem add_ge {x y : Nat} (hx : Num x) (hy : Num y) (hn : Num (fadd x y)) (x0 : 0 ≤ val x) (y0 : 0 ≤ val y) : val x ≤ val (fadd x y) ∧ val y ≤ val (fadd x y) := by
  have a := le_add hx hy y0
  rw [leB_val hx hn] at a
  refine ⟨of_decide_eq_true a, ?_⟩
  have b := le_add hy hx x0
  obtain ⟨n1, m1, p1, e1, v1⟩ := add_near hx hy
  obtain ⟨n2, m2, p2, e2, v2⟩ := add_near hy hx
  have c : leB (fadd y x) (fadd x y) = true := by
    rw [e1, e2]; exact nearest_mono (by rw [v1, v2]; grind)
  have d := leB_trans b c
  rw [leB_val hy hn] at d
  exact of_decide_eq_true d
structure NumV (A : V3) : Prop where
  x : Num A.x
  y : Num A.y
  z : Num A.z
theorem ok_len {A : V3} (h : A.ok = true) : Num A.len ∧ 0 < val A.len ∧ Num (A.dot A) ∧ 0 < val (A.dot A) := by
  unfold V3.ok unitB at h
  simp only [Bool.and_eq_true] at h
  have hn := num_of_fin h.2
  have h1 := h.1
  rw [gt_val hn num_zero, val_zero] at h1
  have h0 := of_decide_eq_true h1
  obtain ⟨a, b⟩ := num_of_sqrt (x := A.dot A) hn
  refine ⟨hn, h0, a, ?_⟩
  refine Classical.byContradiction fun hc => ?_
  have : val (A.dot A) = 0 := by grind
  have := sqrt_zero a this
  unfold V3.len at h0
  grind
/-- A DIRECTION'S PARTS ARE NUMBERS. -/
theorem unit_num (A : V3) : NumV A.unit := by
  unfold V3.unit
  cases hk : A.ok
  · exact ⟨num_zero, num_zero, num_zero⟩
  · obtain ⟨nl, l0, nd, d0⟩ := ok_len hk
    unfold V3.dot at nd
    obtain ⟨nxy, nzz⟩ := num_of_add nd
    obtain ⟨nxx, nyy⟩ := num_of_add nxy
    have nx := num_of_square nxx
    have ny := num_of_square nyy
    have nz := num_of_square nzz
    obtain ⟨qx, rx⟩ := square_lo nx nxx
    obtain ⟨qy, ry⟩ := square_lo ny nyy
    obtain ⟨qz, rz⟩ := square_lo nz nzz
    obtain ⟨s1, s2⟩ := add_ge nxx nyy nxy qx qy
    obtain ⟨s3, s4⟩ := add_ge nxy nzz nd (by grind) qz
    obtain ⟨_, r1, r2⟩ := root_low (x := A.dot A) (by exact nd) d0
    have hd : val (A.dot A) = val (fadd (fadd (fmul A.x A.x) (fmul A.y A.y)) (fmul A.z A.z)) := rfl
    have hl : A.len = fsqrt (A.dot A) := rfl
    rw [← hl] at r1 r2
    have part : ∀ x, Num x → (Ab (val x) (pw 400) ∨ pw 800 ≤ val (A.dot A)) → Num (fdiv x A.len) := by
      intro x hx hr
      rcases hr with hr | hr
      · exact quot_num hx nl r1 hr (by decide)
      · exact quot_num hx nl (r2 hr) (val_top hx) (by decide)
    simp only [if_true]
    refine ⟨part _ nx ?_, part _ ny ?_, part _ nz ?_⟩
    · rcases rx with k | k
      · exact .inl k
      · right; rw [hd]; grind
    · rcases ry with k | k
      · exact .inl k
      · right; rw [hd]; grind
    · rcases rz with k | k
      · exact .inl k
      · right; rw [hd]; grind
end Go.Proofs.YtiblmojdjnfoaaaGreat
