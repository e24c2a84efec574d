/- Package pcg: State, Skip; awake. -/
import Derived.Deep.LoopGhost
import Derived.Test.YtjjjehghjhdceaaRows
import Derived.Test.YtjjjehghjhdceaaPb
namespace Go.Proofs.Ytjjjehghjhdceaa
open Go.RowKit Fl

set_option maxRecDepth 100000 in
set_option maxHeartbeats 1000000 in
theorem state_nil (w : World) : Calls Try.prog 11 #[.pointer none] w fun e w' => e = .returned (.tuple #[.int .u64 0, .int .u64 0]) ∧ w' = w := by
  go_enter Try.func11, Try.ntmps11
  go_wp2_with fail
  go_ret2
  exact ⟨rfl, rfl⟩

set_option maxRecDepth 100000 in
set_option maxHeartbeats 1000000 in
theorem skip_nil (w : World) : Calls Try.prog 9 #[.pointer none, .int .i64 3] w fun e w' => e = .returned (.tuple #[]) ∧ w' = w := by
  go_enter Try.func9, Try.ntmps9
  go_wp2_with fail
  refine bodyPost_ret (results_none rfl _ _ _) rfl ?_
  exact ⟨rfl, rfl⟩

set_option maxRecDepth 100000 in
set_option maxHeartbeats 1000000 in
theorem state_any (s c : Int) (B : Nat) (w : World) (BG : Gn w B s c) : Ret Try.prog 11 #[.pointer (some ⟨B, 0, none⟩)] w (fun v => v = .tuple #[.int .u64 s, .int .u64 c]) := by
  unfold Ret
  have kG := Lp.Bk.cell BG
  go_enter Try.func11, Try.ntmps11
  go_wp2_with fail
  apply Lp.wp_region_loose _ _ 10 (by kernel_rfl) (by kernel_rfl) (by kernel_rfl) (Below.refl _ _)
  apply Lp.facts
  · intro w1 hw
    exact (Lp.Bk.cl BG hw).cell
  intro HF
  iterate 10 (
    apply Lp.one ?_ rfl
    · intro w hw
      have k0 := HF.out _ hw
      go_simp
      exact rfl
    intro K hK
    go_simp
    refine hK.out _ ?_
    clear hK K)
  rotate_left
  exact []
  intro v1 hm
  go_wp2_with fail
  go_ret2
  exact ⟨_, rfl, rfl, hm⟩

/-- The state behind n steps. -/
def stepsF (s c : Int) : Nat → Int
  | 0 => s
  | n + 1 => stepF (stepsF s c n) c
theorem steps_range {s c : Int} (h0 : 0 ≤ s) (h1 : s < 18446744073709551616) (n : Nat) : 0 ≤ stepsF s c n ∧ stepsF s c n < 18446744073709551616 := by
  cases n with
  | zero => exact ⟨h0, h1⟩
  | succ n => exact step_range _ _

set_option maxRecDepth 100000 in
set_option maxHeartbeats 1000000 in
theorem skip_any (s c n : Int) (B : Nat) (w : World) (BG : Gn w B s c) : Calls Try.prog 9 #[.pointer (some ⟨B, 0, none⟩), .int .i64 n] w fun e w' => e = .returned (.tuple #[]) ∧ Gn w' B (stepsF s c (min n 1048576).toNat) c ∧ But B w w' := by
  have HS : Hid _ := fun a B w => step_any a c B w
  obtain ⟨N, hN⟩ : ∃ N : Nat, (min n 1048576).toNat = N := ⟨_, rfl⟩
  rw [hN]
  by_cases h : 1048576 < n
  · have hN2 : N = 1048576 := by omega
    go_enter Try.func9, Try.ntmps9
    go_wp2_with fail
    subst hN2
    clear hN
    go_loopg [8] 1048576 (fun k i wr => ∃ j : Nat, k + j = 1048576 ∧ i = .int .i64 (j : Int) ∧ Gn wr B (stepsF s c j) c ∧ But B w wr)
    case atStart => exact ⟨0, by omega, rfl, BG, But.refl _ _⟩
    case round =>
      clear BG
      obtain ⟨j, hk, rfl, BG, HB⟩ := hrel
      have HK : Aside _ := hk
      clear hk
      by_cases hj : (j : Int) < 1048576
      · have hd : ((j : Int) < 1048576) = True := eq_true hj
        go_wp2_with fail
        refine Calls.mono (HS.out _ _ _ BG) ?_
        clear BG
        rintro e w1 ⟨rfl, hG, hB⟩
        replace HB := HB.trans hB
        clear hB
        go_wp2_with fail
        go_roundg (gk - 1)
        case measure => have := HK.out; omega
        case rel => exact ⟨j + 1, by have := HK.out; omega, by go_num, hG, HB⟩
      · have hd : ((j : Int) < 1048576) = False := eq_false hj
        go_wp2_with fail
        have hjn : j = 1048576 := by have := HK.out; omega
        rw [hjn] at BG
        go_end0
        exact ⟨rfl, BG, HB⟩
  · have hN2 : N = n.toNat := by omega
    go_enter Try.func9, Try.ntmps9
    go_wp2_with fail
    subst hN2
    clear hN
    go_loopg [8] n.toNat (fun k i wr => ∃ j : Nat, k + j = n.toNat ∧ i = .int .i64 (j : Int) ∧ Gn wr B (stepsF s c j) c ∧ But B w wr)
    case atStart => exact ⟨0, by omega, rfl, BG, But.refl _ _⟩
    case round =>
      clear BG
      obtain ⟨j, hk, rfl, BG, HB⟩ := hrel
      have HK : Aside _ := hk
      clear hk
      by_cases hj : (j : Int) < n
      · have hd : ((j : Int) < n) = True := eq_true hj
        go_wp2_with fail
        refine Calls.mono (HS.out _ _ _ BG) ?_
        clear BG
        rintro e w1 ⟨rfl, hG, hB⟩
        replace HB := HB.trans hB
        clear hB
        go_wp2_with fail
        go_roundg (gk - 1)
        case measure => have := HK.out; omega
        case rel => exact ⟨j + 1, by have := HK.out; omega, by go_num, hG, HB⟩
      · have hd : ((j : Int) < n) = False := eq_false hj
        go_wp2_with fail
        have hjn : j = n.toNat := by have := HK.out; omega
        rw [hjn] at BG
        go_end0
        exact ⟨rfl, BG, HB⟩

theorem aw_new : newF 42 54 = 1753877967969059832 ∧ strF 54 = 109 := by decide +kernel
theorem aw_num0 : numF 1753877967969059832 = 2707161783 := by decide +kernel
theorem aw_st0 : stepF 1753877967969059832 109 = 3118741472915405573 := by decide +kernel
theorem aw_num1 : numF 3118741472915405573 = 2068313097 := by decide +kernel
theorem aw_st1 : stepF 3118741472915405573 109 = 10030406343644371790 := by decide +kernel
theorem aw_num2 : numF 10030406343644371790 = 3122475824 := by decide +kernel
theorem aw_st2 : stepF 10030406343644371790 109 = 17800363335834976035 := by decide +kernel

set_option maxRecDepth 100000 in
set_option maxHeartbeats 1000000 in
theorem awake_any (w : World) : Ret Try.prog 8 #[] w (fun v => v = .bool true) := by
  unfold Ret
  have HN : Hid _ := fun w => new_any 42 54 w
  rw [aw_new.1, aw_new.2] at HN
  have HX0 : Hid _ := fun B w => next_any 1753877967969059832 109 B w (by decide) (by decide)
  rw [aw_num0, aw_st0] at HX0
  have HX1 : Hid _ := fun B w => next_any 3118741472915405573 109 B w (by decide) (by decide)
  rw [aw_num1, aw_st1] at HX1
  have HX2 : Hid _ := fun B w => next_any 10030406343644371790 109 B w (by decide) (by decide)
  rw [aw_num2, aw_st2] at HX2
  go_enter Try.func8, Try.ntmps8
  go_wp2_with fail
  refine Calls.mono (HN.out _) ?_
  rintro e w1 ⟨B, rfl, hs, hG, HB⟩
  have HZ : Aside _ := hs
  clear hs
  go_wp2_with fail
  refine Calls.mono (HX0.out B _ hG) ?_
  clear hG
  rintro e w2 ⟨rfl, hG, hB⟩
  replace HB := hB.below HB HZ.out HB.size
  clear hB
  go_wp2_with fail
  refine Calls.mono (HX1.out B _ hG) ?_
  clear hG
  rintro e w2 ⟨rfl, hG, hB⟩
  replace HB := hB.below HB HZ.out HB.size
  clear hB
  go_wp2_with fail
  refine Calls.mono (HX2.out B _ hG) ?_
  clear hG
  rintro e w2 ⟨rfl, hG, hB⟩
  replace HB := hB.below HB HZ.out HB.size
  clear hB
  go_wp2_with fail
  go_ret
  exact ⟨_, rfl, rfl, HB⟩

end Go.Proofs.Ytjjjehghjhdceaa
