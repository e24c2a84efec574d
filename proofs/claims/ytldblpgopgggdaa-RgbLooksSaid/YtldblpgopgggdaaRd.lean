/- Package rgb: Most, Mean, Good, Black. -/
import Derived.Test.YtldblpgopgggdaaRows
import Derived.Test.YtldblpgopgggdaaRa
import Derived.Test.YtldblpgopgggdaaRc
namespace Go.Proofs.Ytldblpgopgggdaa
open Go.RowKit Fl

/-- A colour that may be. -/
def geF (x : Nat) : Bool := ford x 0 == some .gt || ford x 0 == some .eq
def gd (x : Nat) : Bool := numB x && geF x

set_option maxRecDepth 100000 in
set_option maxHeartbeats 1000000 in
theorem rgb_good1 (x : Nat) (w : World) : Calls Try.prog 32 #[.float .f64 x] w fun e w' => e = .returned (.bool (gd x)) ∧ w' = w := by
  unfold gd
  have HN : Hid _ := number_any x
  have hg : (FloatKind.f64.format.order x 0 == some .gt || FloatKind.f64.format.order x 0 == some .eq) = geF x := rfl
  generalize numB x = p at HN ⊢
  generalize geF x = g at hg ⊢
  cases p <;>
  · go_enter Try.func32, Try.ntmps32
    go_wp2_with fail
    refine Calls.mono (HN.out _) ?_
    rintro e w' ⟨rfl, hw⟩
    obtain rfl := hw.symm
    go_wp2_with fail
    go_ret
    exact ⟨rfl, rfl⟩

def three : Nat := 4613937818241073152
def mostF (x y z : Nat) : Nat := highF (highF x y) z
def meanF (x y z : Nat) : Nat := fdiv (fadd (fadd x y) z) three
def gdB (x y z : Nat) : Bool := gd x && gd y && gd z
def eqz (x : Nat) : Bool := ford x 0 == some .eq
def blB (x y z : Nat) : Bool := eqz x && eqz y && eqz z

set_option maxRecDepth 100000 in
set_option maxHeartbeats 1000000 in
theorem rgb_most (ax ay az : Nat) (w : World) : Ret Try.prog 16 #[.agg #[.float .f64 ax, .float .f64 ay, .float .f64 az]] w (fun v => v = .float .f64 (mostF ax ay az)) := by
  unfold Ret
  go_enter Try.func16, Try.ntmps16
  go_wp2_with fail
  refine Lp.settle (fun w' => Lp.Bk w' (w.heap.size) #[.float .f64 ax, .float .f64 ay, .float .f64 az] 24 ∧ Cl w w') ⟨(Lp.Bk.al _ _ _), (Below.refl _ _).alloc (by simp <;> omega) _⟩ ?_
  rintro v1 ⟨BA, HB⟩
  have kA := BA.cell
  apply Lp.wp_region_loose _ _ 9 (by kernel_rfl) (by kernel_rfl) (by kernel_rfl) (Below.refl _ _)
  apply Lp.facts
  · intro w1 hw
    exact (BA.cl hw).cell
  intro HF
  iterate 4 (
    apply Lp.one ?_ rfl
    · intro w hw
      have k0 := HF.out _ hw
      go_simp
      exact rfl
    intro K hK
    go_simp
    refine hK.out _ ?_
    clear hK K)
  apply Lp.any rfl
  · intro w hw
    go_simp
    exact Lp.ret (Ret.of_same (rgb_greater _ _ _))
  intro K hK
  rintro v rfl
  go_simp
  refine hK.out _ ?_
  clear hK K
  iterate 2 (
    apply Lp.one ?_ rfl
    · intro w hw
      have k0 := HF.out _ hw
      go_simp
      exact rfl
    intro K hK
    go_simp
    refine hK.out _ ?_
    clear hK K)
  apply Lp.any rfl
  · intro w hw
    go_simp
    exact Lp.ret (Ret.of_same (rgb_greater _ _ _))
  intro K hK
  rintro v rfl
  go_simp
  refine hK.out _ ?_
  clear hK K
  iterate 1 (
    apply Lp.one ?_ rfl
    · intro w hw
      have k0 := HF.out _ hw
      go_simp
      exact rfl
    intro K hK
    go_simp
    refine hK.out _ ?_
    clear hK K)
  rotate_left
  exact []
  intro v2 hm
  clear kA
  replace BA := BA.keep hm
  replace HB := HB.call hm
  clear hm
  have kA := BA.cell
  go_wp2_with fail
  go_ret
  exact ⟨_, rfl, rfl, HB⟩

set_option maxRecDepth 100000 in
set_option maxHeartbeats 1000000 in
theorem r5most (ax ay az : Nat) (w : World) : Ret Try.prog 17 #[.agg #[.float .f64 ax, .float .f64 ay, .float .f64 az]] w (fun v => v = .float .f64 (mostF ax ay az)) := by
  unfold Ret
  go_enter Try.func17, Try.ntmps17
  go_wp2_with fail
  refine Lp.settle (fun w' => Lp.Bk w' (w.heap.size) #[.float .f64 ax, .float .f64 ay, .float .f64 az] 24 ∧ Cl w w') ⟨(Lp.Bk.al _ _ _), (Below.refl _ _).alloc (by simp <;> omega) _⟩ ?_
  rintro v1 ⟨BA, HB⟩
  have kA := BA.cell
  apply Lp.wp_region_loose _ _ 9 (by kernel_rfl) (by kernel_rfl) (by kernel_rfl) (Below.refl _ _)
  apply Lp.facts
  · intro w1 hw
    exact (BA.cl hw).cell
  intro HF
  iterate 4 (
    apply Lp.one ?_ rfl
    · intro w hw
      have k0 := HF.out _ hw
      go_simp
      exact rfl
    intro K hK
    go_simp
    refine hK.out _ ?_
    clear hK K)
  apply Lp.any rfl
  · intro w hw
    go_simp
    exact Lp.ret (Ret.of_same (rhigh_rgb _ _ _))
  intro K hK
  rintro v rfl
  go_simp
  refine hK.out _ ?_
  clear hK K
  iterate 2 (
    apply Lp.one ?_ rfl
    · intro w hw
      have k0 := HF.out _ hw
      go_simp
      exact rfl
    intro K hK
    go_simp
    refine hK.out _ ?_
    clear hK K)
  apply Lp.any rfl
  · intro w hw
    go_simp
    exact Lp.ret (Ret.of_same (rhigh_rgb _ _ _))
  intro K hK
  rintro v rfl
  go_simp
  refine hK.out _ ?_
  clear hK K
  iterate 1 (
    apply Lp.one ?_ rfl
    · intro w hw
      have k0 := HF.out _ hw
      go_simp
      exact rfl
    intro K hK
    go_simp
    refine hK.out _ ?_
    clear hK K)
  rotate_left
  exact []
  intro v2 hm
  clear kA
  replace BA := BA.keep hm
  replace HB := HB.call hm
  clear hm
  have kA := BA.cell
  go_wp2_with fail
  go_ret
  exact ⟨_, rfl, rfl, HB⟩

set_option maxRecDepth 100000 in
set_option maxHeartbeats 1000000 in
theorem rgb_mean (ax ay az : Nat) (w : World) : Ret Try.prog 18 #[.agg #[.float .f64 ax, .float .f64 ay, .float .f64 az]] w (isF (meanF ax ay az)) := by
  unfold Ret
  go_enter Try.func18, Try.ntmps18
  go_wp2_with fail
  refine upon_add (Sm.refl _) (Sm.refl _) ?_
  intro r1 n1 h1
  go_wp2_with fail
  refine upon_add h1.sm (Sm.refl _) ?_
  intro r2 n2 h2
  go_wp2_with fail
  refine upon_div h2.sm (Sm.refl _) ?_
  intro r3 n3 h3
  go_wp2_with fail
  go_ret
  exact ⟨_, rfl, ⟨r3, rfl, h3⟩, (Cl.drewN (Below.refl _ _) _).out1⟩

set_option maxRecDepth 100000 in
set_option maxHeartbeats 1000000 in
theorem r5mean (ax ay az : Nat) (w : World) : Ret Try.prog 19 #[.agg #[.float .f64 ax, .float .f64 ay, .float .f64 az]] w (isF (meanF ax ay az)) := by
  unfold Ret
  go_enter Try.func19, Try.ntmps19
  go_wp2_with fail
  refine upon_add (Sm.refl _) (Sm.refl _) ?_
  intro r1 n1 h1
  go_wp2_with fail
  refine upon_add h1.sm (Sm.refl _) ?_
  intro r2 n2 h2
  go_wp2_with fail
  refine upon_div h2.sm (Sm.refl _) ?_
  intro r3 n3 h3
  go_wp2_with fail
  go_ret
  exact ⟨_, rfl, ⟨r3, rfl, h3⟩, (Cl.drewN (Below.refl _ _) _).out1⟩

set_option maxRecDepth 100000 in
set_option maxHeartbeats 1000000 in
theorem rgb_good (ax ay az : Nat) (w : World) : Ret Try.prog 20 #[.agg #[.float .f64 ax, .float .f64 ay, .float .f64 az]] w (fun v => v = .bool (gdB ax ay az)) := by
  unfold Ret
  unfold gdB
  have HX : Hid _ := rgb_good1 ax
  have HY : Hid _ := rgb_good1 ay
  have HZ : Hid _ := rgb_good1 az
  generalize gd ax = p at HX ⊢
  generalize gd ay = q at HY ⊢
  generalize gd az = r at HZ ⊢
  cases p
  · go_enter Try.func20, Try.ntmps20
    go_wp2_with fail
    refine Lp.settleC (fun w' => Lp.Bk w' (w.heap.size) #[.float .f64 ax, .float .f64 ay, .float .f64 az] 24 ∧ Cl w w') ⟨(Lp.Bk.al _ _ _), (Below.refl _ _).alloc (by simp <;> omega) _⟩ ?_
    rintro v1 ⟨BA, HB⟩
    have kA := BA.cell
    refine Calls.mono (Ret.of_same (HX.out _)) ?_
    rintro e v2 ⟨v, rfl, rfl, hm⟩
    clear kA
    replace BA := BA.keep hm
    replace HB := HB.call hm
    clear hm
    have kA := BA.cell
    go_wp2_with fail
    go_ret
    exact ⟨_, rfl, rfl, HB⟩
  · cases q
    · go_enter Try.func20, Try.ntmps20
      go_wp2_with fail
      refine Lp.settleC (fun w' => Lp.Bk w' (w.heap.size) #[.float .f64 ax, .float .f64 ay, .float .f64 az] 24 ∧ Cl w w') ⟨(Lp.Bk.al _ _ _), (Below.refl _ _).alloc (by simp <;> omega) _⟩ ?_
      rintro v1 ⟨BA, HB⟩
      have kA := BA.cell
      refine Calls.mono (Ret.of_same (HX.out _)) ?_
      rintro e v2 ⟨v, rfl, rfl, hm⟩
      clear kA
      replace BA := BA.keep hm
      replace HB := HB.call hm
      clear hm
      have kA := BA.cell
      go_wp2_with fail
      refine Calls.mono (Ret.of_same (HY.out _)) ?_
      rintro e v3 ⟨v, rfl, rfl, hm⟩
      clear kA
      replace BA := BA.keep hm
      replace HB := HB.call hm
      clear hm
      have kA := BA.cell
      go_wp2_with fail
      go_ret
      exact ⟨_, rfl, rfl, HB⟩
    · go_enter Try.func20, Try.ntmps20
      go_wp2_with fail
      refine Lp.settleC (fun w' => Lp.Bk w' (w.heap.size) #[.float .f64 ax, .float .f64 ay, .float .f64 az] 24 ∧ Cl w w') ⟨(Lp.Bk.al _ _ _), (Below.refl _ _).alloc (by simp <;> omega) _⟩ ?_
      rintro v1 ⟨BA, HB⟩
      have kA := BA.cell
      refine Calls.mono (Ret.of_same (HX.out _)) ?_
      rintro e v2 ⟨v, rfl, rfl, hm⟩
      clear kA
      replace BA := BA.keep hm
      replace HB := HB.call hm
      clear hm
      have kA := BA.cell
      go_wp2_with fail
      refine Calls.mono (Ret.of_same (HY.out _)) ?_
      rintro e v3 ⟨v, rfl, rfl, hm⟩
      clear kA
      replace BA := BA.keep hm
      replace HB := HB.call hm
      clear hm
      have kA := BA.cell
      go_wp2_with fail
      refine Calls.mono (Ret.of_same (HZ.out _)) ?_
      rintro e v4 ⟨v, rfl, rfl, hm⟩
      clear kA
      replace BA := BA.keep hm
      replace HB := HB.call hm
      clear hm
      have kA := BA.cell
      go_wp2_with fail
      go_ret
      exact ⟨_, rfl, rfl, HB⟩

set_option maxRecDepth 100000 in
set_option maxHeartbeats 1000000 in
theorem rgb_black (ax ay az : Nat) (w : World) : Ret Try.prog 22 #[.agg #[.float .f64 ax, .float .f64 ay, .float .f64 az]] w (fun v => v = .bool (blB ax ay az)) := by
  unfold Ret
  unfold blB
  have ep : Op.floatEq .f64 ax 0 = eqz ax := rfl
  have eq : Op.floatEq .f64 ay 0 = eqz ay := rfl
  have er : Op.floatEq .f64 az 0 = eqz az := rfl
  generalize eqz ax = p at ep ⊢
  generalize eqz ay = q at eq ⊢
  generalize eqz az = r at er ⊢
  cases p <;> cases q <;> cases r <;>
  · go_enter Try.func22, Try.ntmps22
    go_wp2_with fail
    go_ret
    exact ⟨_, rfl, rfl, (Below.refl _ _).alloc (Nat.le_refl _) _⟩

theorem rnum_ret (x : Nat) (w : World) : Ret Try.prog 34 #[.float .f64 x] w (fun v => v = .bool (numB x)) :=
  (rnumber_any x w).mono fun _ _ ⟨he, n, hw⟩ => ⟨_, he, rfl, by rw [hw]; exact below_dr (Below.refl _ _) n⟩

set_option maxRecDepth 100000 in
set_option maxHeartbeats 1000000 in
theorem r5good (ax ay az : Nat) (w : World) : Ret Try.prog 21 #[.agg #[.float .f64 ax, .float .f64 ay, .float .f64 az]] w (fun v => v = .bool (gdB ax ay az)) := by
  unfold Ret
  unfold gdB gd
  have HX : Hid _ := rnum_ret ax
  have HY : Hid _ := rnum_ret ay
  have HZ : Hid _ := rnum_ret az
  have gp : (FloatKind.f64.format.order ax 0 == some .gt || FloatKind.f64.format.order ax 0 == some .eq) = geF ax := rfl
  have gq : (FloatKind.f64.format.order ay 0 == some .gt || FloatKind.f64.format.order ay 0 == some .eq) = geF ay := rfl
  have gr : (FloatKind.f64.format.order az 0 == some .gt || FloatKind.f64.format.order az 0 == some .eq) = geF az := rfl
  generalize numB ax = p at HX ⊢
  generalize numB ay = q at HY ⊢
  generalize numB az = r at HZ ⊢
  generalize geF ax = s at gp ⊢
  generalize geF ay = t at gq ⊢
  generalize geF az = u at gr ⊢
  cases p
  · go_enter Try.func21, Try.ntmps21
    go_wp2_with fail
    refine Lp.settleC (fun w' => Lp.Bk w' (w.heap.size) #[.float .f64 ax, .float .f64 ay, .float .f64 az] 24 ∧ Cl w w') ⟨(Lp.Bk.al _ _ _), (Below.refl _ _).alloc (by simp <;> omega) _⟩ ?_
    rintro v1 ⟨BA, HB⟩
    have kA := BA.cell
    refine Calls.mono (HX.out _) ?_
    rintro e v2 ⟨v, rfl, rfl, hm⟩
    clear kA
    replace BA := BA.keep hm
    replace HB := HB.call hm
    clear hm
    have kA := BA.cell
    go_wp2_with fail
    go_ret
    exact ⟨_, rfl, rfl, HB⟩
  · cases q
    · go_enter Try.func21, Try.ntmps21
      go_wp2_with fail
      refine Lp.settleC (fun w' => Lp.Bk w' (w.heap.size) #[.float .f64 ax, .float .f64 ay, .float .f64 az] 24 ∧ Cl w w') ⟨(Lp.Bk.al _ _ _), (Below.refl _ _).alloc (by simp <;> omega) _⟩ ?_
      rintro v1 ⟨BA, HB⟩
      have kA := BA.cell
      refine Calls.mono (HX.out _) ?_
      rintro e v2 ⟨v, rfl, rfl, hm⟩
      clear kA
      replace BA := BA.keep hm
      replace HB := HB.call hm
      clear hm
      have kA := BA.cell
      go_wp2_with fail
      refine Calls.mono (HY.out _) ?_
      rintro e v3 ⟨v, rfl, rfl, hm⟩
      clear kA
      replace BA := BA.keep hm
      replace HB := HB.call hm
      clear hm
      have kA := BA.cell
      go_wp2_with fail
      go_ret
      exact ⟨_, rfl, by cases s <;> rfl, HB⟩
    · cases r
      · go_enter Try.func21, Try.ntmps21
        go_wp2_with fail
        refine Lp.settleC (fun w' => Lp.Bk w' (w.heap.size) #[.float .f64 ax, .float .f64 ay, .float .f64 az] 24 ∧ Cl w w') ⟨(Lp.Bk.al _ _ _), (Below.refl _ _).alloc (by simp <;> omega) _⟩ ?_
        rintro v1 ⟨BA, HB⟩
        have kA := BA.cell
        refine Calls.mono (HX.out _) ?_
        rintro e v2 ⟨v, rfl, rfl, hm⟩
        clear kA
        replace BA := BA.keep hm
        replace HB := HB.call hm
        clear hm
        have kA := BA.cell
        go_wp2_with fail
        refine Calls.mono (HY.out _) ?_
        rintro e v3 ⟨v, rfl, rfl, hm⟩
        clear kA
        replace BA := BA.keep hm
        replace HB := HB.call hm
        clear hm
        have kA := BA.cell
        go_wp2_with fail
        refine Calls.mono (HZ.out _) ?_
        rintro e v4 ⟨v, rfl, rfl, hm⟩
        clear kA
        replace BA := BA.keep hm
        replace HB := HB.call hm
        clear hm
        have kA := BA.cell
        go_wp2_with fail
        go_ret
        exact ⟨_, rfl, by cases s <;> cases t <;> rfl, HB⟩
      · cases s <;> cases t <;> cases u <;>
        · go_enter Try.func21, Try.ntmps21
          go_wp2_with fail
          refine Lp.settleC (fun w' => Lp.Bk w' (w.heap.size) #[.float .f64 ax, .float .f64 ay, .float .f64 az] 24 ∧ Cl w w') ⟨(Lp.Bk.al _ _ _), (Below.refl _ _).alloc (by simp <;> omega) _⟩ ?_
          rintro v1 ⟨BA, HB⟩
          have kA := BA.cell
          refine Calls.mono (HX.out _) ?_
          rintro e v2 ⟨v, rfl, rfl, hm⟩
          clear kA
          replace BA := BA.keep hm
          replace HB := HB.call hm
          clear hm
          have kA := BA.cell
          go_wp2_with fail
          refine Calls.mono (HY.out _) ?_
          rintro e v3 ⟨v, rfl, rfl, hm⟩
          clear kA
          replace BA := BA.keep hm
          replace HB := HB.call hm
          clear hm
          have kA := BA.cell
          go_wp2_with fail
          refine Calls.mono (HZ.out _) ?_
          rintro e v4 ⟨v, rfl, rfl, hm⟩
          clear kA
          replace BA := BA.keep hm
          replace HB := HB.call hm
          clear hm
          have kA := BA.cell
          go_wp2_with fail
          go_ret
          exact ⟨_, rfl, rfl, HB⟩

end Go.Proofs.Ytldblpgopgggdaa
