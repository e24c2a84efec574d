/- Package pcg: Fill. -/
import Derived.Deep.LoopGhost
import Derived.Laws.MakeOwn
import Derived.Test.YtjjjehghjhdceaaRows
import Derived.Test.YtjjjehghjhdceaaPg
namespace Go.Proofs.Ytjjjehghjhdceaa
open Go.RowKit Fl

theorem made_floats (n : Nat) (w : World) (h : n ≤ 4194304) : (Instr.makeSlice 40 (.int .i64 (n : Int)) (.int .i64 (n : Int))).run Try.prog w = .ok (.slice (some ⟨w.heap.size, 0, none⟩) n n) (w.alloc (.cells (madeCells #[.float .f64 0] n) 44)) := by
  have hh : (Try.prog.info? 44).map (fun i => (i.zero, i.size, i.bytes)) = some (some (.float .f64 0), 1, 8) := by kernel_rfl
  obtain ⟨i, hi, hz⟩ := Option.map_eq_some_iff.1 hh
  simp only [Prod.mk.injEq] at hz
  obtain ⟨z0, z1, z2⟩ := hz
  have hu : Try.prog.underlying 40 = some (.slice 44) := by kernel_rfl
  have := run_make (P := Try.prog) w 40 44 i (.float .f64 0) hu hi z0 .i64 .i64 (n : Int) (n : Int) (by omega) (Int.le_refl _) (by rw [z2]; omega) (by omega)
  rw [this, z1, Nat.mul_one]
  rfl

set_option maxRecDepth 100000 in
set_option maxHeartbeats 1000000 in
theorem fill_bad (s c n : Int) (w : World) (h : n < 0 ∨ 4194304 < n) : Ret Try.prog 15 #[.int .u64 s, .int .u64 c, .int .i64 n] w (fun v => v = .tuple #[.slice none 0 0, .int .i64 3]) := by
  unfold Ret
  by_cases h0 : n < 0
  · have hd : (n < 0) = True := eq_true h0
    go_enter Try.func15, Try.ntmps15
    go_wp2_with fail
    go_ret2
    exact ⟨_, rfl, rfl, Below.refl _ _⟩
  · have hd : (n < 0) = False := eq_false h0
    have hd2 : (4194304 < n) = True := eq_true (by omega)
    go_enter Try.func15, Try.ntmps15
    go_wp2_with fail
    go_ret2
    exact ⟨_, rfl, rfl, Below.refl _ _⟩

theorem fill_more {A : Array Value} {F : Nat → Nat} {j z : Nat} (h : ∀ i, i < j → A[i]? = some (.float .f64 (F i))) (hz : z = F j) (hj : j < A.size) : ∀ i, i < j + 1 → (A.setIfInBounds j (.float .f64 z))[i]? = some (.float .f64 (F i)) := by
  intro i hi
  subst hz
  rcases Nat.lt_or_eq_of_le (Nat.le_of_lt_succ hi) with h1 | h1
  · rw [Array.getElem?_setIfInBounds_ne (by omega)]; exact h i h1
  · subst h1; rw [Array.getElem?_setIfInBounds_self_of_lt hj]

set_option maxRecDepth 100000 in
set_option maxHeartbeats 2000000 in
theorem fill_any (s c : Int) (n : Nat) (w : World) (h : n ≤ 4194304) : Calls Try.prog 15 #[.int .u64 s, .int .u64 c, .int .i64 (n : Int)] w fun e w' => ∃ (D : Nat) (A : Array Value), e = .returned (.tuple #[.slice (some ⟨D, 0, none⟩) n n, .int .i64 0]) ∧ w.heap.size ≤ D ∧ Lp.Bk w' D A 44 ∧ A.size = n ∧ (∀ j, j < n → A[j]? = some (.float .f64 (drawF (numF (stepsF (newF s c) (strF c) j))))) ∧ Below w.heap.size w w' := by
  have HN : Hid _ := fun w => new_any s c w
  have HR0 : Aside _ := step_range (IntKind.u64.wrap (stepF 0 (strF c) + s)) (strF c)
  have hnew : stepF (IntKind.u64.wrap (stepF 0 (strF c) + s)) (strF c) = newF s c := rfl
  rw [hnew] at HR0
  clear hnew
  generalize newF s c = S at *
  generalize strF c = C at *
  have HF : Hid _ := fun G w => fraction_any G w
  have HS : Hid _ := fun k G D w => fraction1_any (stepsF S C k) C G D w (steps_range HR0.out.1 HR0.out.2 k)
  have HM : ∀ w, _ := fun w => made_floats n w h
  have hd1 : ((n : Int) < 0) = False := eq_false (by omega)
  have hd2 : (4194304 < (n : Int)) = False := eq_false (by omega)
  have HE : Hid (∀ j, stepF (stepsF S C j) C = stepsF S C (j + 1)) := fun j => rfl
  go_enter Try.func15, Try.ntmps15
  go_wp2_with fail
  refine Calls.mono (HN.out _) ?_
  rintro e w1 ⟨G, rfl, hG0, hG, HB⟩
  have HG0 : Aside _ := hG0
  clear hG0
  go_wp2_with fail
  refine Calls.mono (HF.out _ _) ?_
  rintro e w2 ⟨rfl, hw⟩
  obtain rfl := hw
  go_wp2_with fail
  have hlt := Lp.Bk.lt hG
  have HGD : Aside (G ≠ w1.heap.size ∧ G ≠ w1.heap.size + 1) := by show _ ∧ _; omega
  have HDL : Aside (w.heap.size ≤ w1.heap.size) := HB.size
  clear hlt
  replace hG := (hG.alo (.cells #[.func (.func 12) #[.pointer (some ⟨G, 0, none⟩)] #[]] 35)).alo (.cells (madeCells #[.float .f64 0] n) 44)
  have hD := (Lp.Bk.al w1 #[.func (.func 12) #[.pointer (some ⟨G, 0, none⟩)] #[]] 35).alo (.cells (madeCells #[.float .f64 0] n) 44)
  have hL := Lp.Bk.al1 w1 (.cells #[.func (.func 12) #[.pointer (some ⟨G, 0, none⟩)] #[]] 35) (madeCells #[.float .f64 0] n) 44
  replace HB := (HB.alloc HB.size (.cells #[.func (.func 12) #[.pointer (some ⟨G, 0, none⟩)] #[]] 35)).alloc (by simp; exact Nat.le_succ_of_le HB.size) (.cells (madeCells #[.float .f64 0] n) 44)
  generalize hd : w1.heap.size = D at *
  generalize hl : D + 1 = L at *
  have HLD : Aside (L ≠ D) := by show _ ≠ _; omega
  have HWL : Aside (w.heap.size ≤ L) := by have := HDL.out; show _ ≤ _; omega
  clear hl
  go_loopg [26] n (fun k i wr => ∃ (j : Nat) (A : Array Value), k + j = n ∧ i = .int .i64 (j : Int) ∧ Gn wr G (stepsF S C j) C ∧ Lp.Bk wr D #[.func (.func 12) #[.pointer (some ⟨G, 0, none⟩)] #[]] 35 ∧ Lp.Bk wr L A 44 ∧ A.size = n ∧ (∀ i, i < j → A[i]? = some (.float .f64 (drawF (numF (stepsF S C i))))) ∧ Below w.heap.size w wr)
  case atStart => exact ⟨0, _, by omega, rfl, hG, hD, hL, size_madeCells _ _, fun i hi => absurd hi (Nat.not_lt_zero i), HB⟩
  case round =>
    clear hG hD hL HB hd
    obtain ⟨j, A, hk, rfl, hG, hD, hL, hA, hF, HB⟩ := hrel
    have HK : Aside _ := hk
    have HA : Aside _ := hA
    have HAF : Aside _ := hF
    clear hk hA hF
    by_cases hj : j < n
    · have hd : ((j : Int) < (n : Int)) = True := eq_true (by omega)
      go_wp2_with fail
      refine Calls.mono (HS.out j G D _ hG hD) ?_
      rintro e w2 ⟨rfl, hG2, hb⟩
      clear hG
      have hG := hG2
      clear hG2
      rw [HE.out] at hG
      replace hD := hb.keep hD HGD.out.1.symm
      replace hL := hb.keep hL HGD.out.2.symm
      replace HB := hb.below HB HG0.out HB.size
      clear hb
      generalize hz : drawF (numF (stepsF S C j)) = z at *
      have HZ : Aside _ := hz
      clear hz
      have kL := Lp.Bk.cell hL
      have zL := Lp.Bk.frz hL
      obtain ⟨u, hu⟩ : ∃ u, A[j]? = some u := ⟨A[j]'(by rw [HA.out]; exact hj), by simp [HA.out, hj]⟩
      go_wp2_with fail
      go_roundg (gk - 1)
      case measure => have := HK.out; omega
      case rel => exact ⟨j + 1, _, by have := HK.out; omega, by go_num, Lp.Bk.seto hG HGD.out.2 _, hD.seto HLD.out.symm _, hL.set j _, by rw [Array.size_setIfInBounds]; exact HA.out, fill_more HAF.out HZ.out.symm (by rw [HA.out]; exact hj), HB.setCell HWL.out _⟩
    · have hd : ((j : Int) < (n : Int)) = False := eq_false (by omega)
      have hjn : j = n := by have := HK.out; omega
      subst hjn
      go_wp2_with fail
      go_ret2
      exact ⟨L, A, rfl, HWL.out, hL, HA.out, HAF.out, HB⟩
end Go.Proofs.Ytjjjehghjhdceaa
