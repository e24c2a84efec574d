/- Package warp: place, Angle, Density. -/
import Derived.Test.YtnhilikcgfhkbaaZl
import Derived.Test.YtnhilikcgfhkbaaZb
namespace Go.Proofs.Ytnhilikcgfhkbaa
open Go.RowKit Fl

theorem nan_abs {x : Nat} (h : isN (fabs x) = false) : isN x = false := by
  cases k : isN x
  · rfl
  · have := (abs_nan k).1
    rw [h] at this
    exact absurd this (by decide)
theorem num_abs {x : Nat} (h : Num (fabs x)) : Num x := by
  rcases num_or_inf (nan_abs (not_nan_num h)) with k | ⟨s, k⟩
  · exact k
  · exfalso
    have i := (abs_inf k).1
    obtain ⟨_, _, _, r⟩ := h
    rw [r] at i
    cases i

set_option maxRecDepth 100000 in
set_option maxHeartbeats 2000000 in
theorem place_nan {x y : Nat} (h : ford (fabs x) (fabs y) = none) (w : World) : Calls Try.prog 30 #[.float .f64 x, .float .f64 y] w fun e w' => e = .returned (.float .f64 0) ∧ Below w.heap.size w w' := by
  have HX := hid (abs_any x)
  have HY := hid (abs_any y)
  have HM := hid (fun w => run_max_nan (P := Try.prog) #[22, 22] 22 h w)
  have HN := hid number_any
  clear h
  generalize fabs x = a at *
  generalize fabs y = b at *
  go_enter Try.func30, Try.ntmps30
  go_wp2_with fail
  refine Calls.mono (HX.out _) ?_
  rintro e w' ⟨rfl, hw⟩
  obtain rfl := hw.symm
  clear hw
  go_wp2_with fail
  refine Calls.mono (HY.out _) ?_
  rintro e w' ⟨rfl, hw⟩
  obtain rfl := hw.symm
  clear hw
  go_wp2_with fail
  obtain ⟨r, n, e, hr⟩ := HM.out w
  rw [e]
  clear e
  have ht : (FloatKind.f64.format.order r 0 == some .eq) = false := by
    have := ord_nan_left hr 0
    unfold ford at this
    rw [this]; rfl
  go_wp2_with fail
  refine Calls.mono (HN.out _ _) ?_
  rintro e w' ⟨rfl, hw⟩
  obtain rfl := hw.symm
  clear hw
  have hb : numB r = false := by unfold numB; rw [hr]; rfl
  rw [hb]
  go_wp2_with fail
  go_ret
  exact ⟨rfl, below_dr (Below.refl _ _) _⟩

set_option maxRecDepth 100000 in
set_option maxHeartbeats 2000000 in
theorem place_any (x y : Nat) (w : World) : Calls Try.prog 30 #[.float .f64 x, .float .f64 y] w fun e w' => e = .returned (.float .f64 (shareF (fabs x) (fabs y))) ∧ Below w.heap.size w w' := by
  cases ho : ford (fabs x) (fabs y) with
  | none =>
    have e : shareF (fabs x) (fabs y) = 0 := by
      unfold shareF
      rcases ord_none ho with h | h
      · rw [not_fin_nan h, Bool.false_and, Bool.false_and]; rfl
      · rw [not_fin_nan h, Bool.and_false, Bool.false_and]; rfl
    rw [e]
    exact place_nan ho w
  | some o =>
    have nx : isN (fabs x) = false := by
      cases k : isN (fabs x)
      · rfl
      · rw [ord_nan_left k] at ho; cases ho
    have ny : isN (fabs y) = false := by
      cases k : isN (fabs y)
      · rfl
      · rw [ord_nan_right k] at ho; cases ho
    have HX := hid (abs_any x)
    have HY := hid (abs_any y)
    have HM : ∀ w, _ := fun w => run_max_ord (P := Try.prog) #[22, 22] 22 ho w
    have HI : ∀ w, _ := fun w => run_min_ord (P := Try.prog) #[22, 22] 22 ho w
    have HN := hid (number_any (maxF (fabs x) (fabs y)))
    have hf := max_fin (nan_abs nx) (nan_abs ny)
    have hz : (FloatKind.f64.format.order (maxF (fabs x) (fabs y)) 0 == some .eq) = (ford (maxF (fabs x) (fabs y)) 0 == some .eq) := rfl
    have hq : (numB (fabs x) && numB (fabs y)) = true → (ford (maxF (fabs x) (fabs y)) 0 == some .eq) = false → ∀ w, (binOp .quo 22 (.float .f64 (minF (fabs x) (fabs y))) (.float .f64 (maxF (fabs x) (fabs y)))).run Try.prog w = .ok (.float .f64 (fdiv (minF (fabs x) (fabs y)) (maxF (fabs x) (fabs y)))) w := by
      intro h k w
      rw [Bool.and_eq_true] at h
      obtain ⟨g1, g2, g3, _, _⟩ := share_good (num_abs (num_of_fin h.1)) (num_abs (num_of_fin h.2)) (by intro e; rw [e] at k; exact absurd k (by decide))
      exact run_quo_num w 22 g2 g1 (by grind)
    have hs : shareF (fabs x) (fabs y) = if (numB (fabs x) && numB (fabs y)) && !(ford (maxF (fabs x) (fabs y)) 0 == some .eq) then fdiv (minF (fabs x) (fabs y)) (maxF (fabs x) (fabs y)) else 0 := rfl
    rw [hs]
    rw [← hf] at hq ⊢
    clear hs hf nx ny ho
    generalize fdiv (minF (fabs x) (fabs y)) (maxF (fabs x) (fabs y)) = q at *
    generalize minF (fabs x) (fabs y) = l at *
    generalize maxF (fabs x) (fabs y) = m at *
    generalize fabs x = a at *
    generalize fabs y = b at *
    generalize (ford m 0 == some .eq) = z at *
    generalize numB m = f at *
    cases z
    · cases f
      · clear hq
        go_enter Try.func30, Try.ntmps30
        go_wp2_with fail
        refine Calls.mono (HX.out _) ?_
        rintro e w' ⟨rfl, hw⟩
        obtain rfl := hw.symm
        clear hw
        go_wp2_with fail
        refine Calls.mono (HY.out _) ?_
        rintro e w' ⟨rfl, hw⟩
        obtain rfl := hw.symm
        clear hw
        go_wp2_with fail
        refine Calls.mono (HN.out _) ?_
        rintro e w' ⟨rfl, hw⟩
        obtain rfl := hw.symm
        clear hw
        go_wp2_with fail
        go_ret
        exact ⟨rfl, Below.refl _ _⟩
      · replace hq := hq rfl rfl
        go_enter Try.func30, Try.ntmps30
        go_wp2_with fail
        refine Calls.mono (HX.out _) ?_
        rintro e w' ⟨rfl, hw⟩
        obtain rfl := hw.symm
        clear hw
        go_wp2_with fail
        refine Calls.mono (HY.out _) ?_
        rintro e w' ⟨rfl, hw⟩
        obtain rfl := hw.symm
        clear hw
        go_wp2_with fail
        refine Calls.mono (HN.out _) ?_
        rintro e w' ⟨rfl, hw⟩
        obtain rfl := hw.symm
        clear hw
        go_wp2_with fail
        go_ret
        exact ⟨rfl, Below.refl _ _⟩
    · clear hq
      have e0 : (if (f && !true) = true then q else 0) = 0 := by cases f <;> rfl
      rw [e0]
      go_enter Try.func30, Try.ntmps30
      go_wp2_with fail
      refine Calls.mono (HX.out _) ?_
      rintro e w' ⟨rfl, hw⟩
      obtain rfl := hw.symm
      clear hw
      go_wp2_with fail
      refine Calls.mono (HY.out _) ?_
      rintro e w' ⟨rfl, hw⟩
      obtain rfl := hw.symm
      clear hw
      go_wp2_with fail
      go_ret
      exact ⟨rfl, Below.refl _ _⟩

set_option maxRecDepth 100000 in
set_option maxHeartbeats 1000000 in
theorem angle_any (x y : Nat) (w : World) : Calls Try.prog 22 #[.float .f64 x, .float .f64 y] w fun e w' => e = .returned (.tuple #[.int .i64 (sideN x y), .float .f64 (shareF (fabs x) (fabs y))]) ∧ Below w.heap.size w w' := by
  have HS := hid (side_any x y)
  have HP := hid (fun w => place_any x y w)
  generalize shareF (fabs x) (fabs y) = f at *
  generalize sideN x y = k at *
  go_enter Try.func22, Try.ntmps22
  go_wp2_with fail
  refine Calls.mono (HS.out _) ?_
  rintro e w' ⟨rfl, hw⟩
  obtain rfl := hw.symm
  clear hw
  go_wp2_with fail
  refine Calls.mono (HP.out _) ?_
  rintro e w1 ⟨rfl, hb⟩
  have HB := hid hb
  clear hb
  go_wp2_with fail
  exact bodyPost_ret (v := .tuple #[.int .i64 k, .float .f64 f]) (by simp [results, go_sem]) rfl ⟨rfl, HB.out⟩

set_option maxRecDepth 100000 in
set_option maxHeartbeats 1000000 in
theorem densi_any (x y : Nat) (w : World) : Calls Try.prog 24 #[.float .f64 x, .float .f64 y] w fun e w' => e = .returned (.float .f64 (densF (shareF (fabs x) (fabs y)))) ∧ Below w.heap.size w w' := by
  have HP := hid (fun w => place_any x y w)
  obtain ⟨n, _, f0, f1, _⟩ := share_same x y
  obtain ⟨a, b, _⟩ := dens_same n n f0 f1 rfl
  have HD := hid (density_num n a b)
  clear n f0 f1 a b
  generalize densF (shareF (fabs x) (fabs y)) = d at *
  generalize shareF (fabs x) (fabs y) = f at *
  go_enter Try.func24, Try.ntmps24
  go_wp2_with fail
  refine Calls.mono (HP.out _) ?_
  rintro e w1 ⟨rfl, hb⟩
  have HB := hid hb
  clear hb
  go_wp2_with fail
  refine Calls.mono (HD.out _) ?_
  rintro e w' ⟨rfl, hw⟩
  obtain rfl := hw.symm
  clear hw
  go_wp2_with fail
  go_ret
  exact ⟨rfl, HB.out⟩
end Go.Proofs.Ytnhilikcgfhkbaa
