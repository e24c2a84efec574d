/- The reference's Angle. -/
import Derived.Test.YtnhilikcgfhkbaaZm
import Derived.Test.YtnhilikcgfhkbaaZi
namespace Go.Proofs.Ytnhilikcgfhkbaa
open Go.RowKit Fl

/-- The order's answers, of two that are no NaN. -/
theorem ord_parts {x y : Nat} (hx : isN x = false) (hy : isN y = false) : (ford x y == some .gt || ford x y == some .eq) = !(ford x y == some .lt) := by
  rcases ford_three hx hy with h | h | h <;> rw [h] <;> rfl
theorem lt_zero {x : Nat} (hx : isN x = false) : (ford x 0 == some .lt) = !geZ x := by
  unfold geZ
  rw [ord_parts hx isN_zero, Bool.not_not]
theorem nan_parts {x y : Nat} (h : isN x = true ∨ isN y = true) : (ford x y == some .gt || ford x y == some .eq) = false ∧ (ford x y == some .lt) = false := by
  have e : ford x y = none := by
    rcases h with h | h
    · exact ord_nan_left h y
    · exact ord_nan_right h x
  rw [e]
  exact ⟨rfl, rfl⟩
theorem nan_shareR {a b : Nat} (h : isN a = true ∨ isN b = true) : (numB a && numB b) = false := by
  rcases h with h | h
  · rw [not_fin_nan h, Bool.false_and]
  · rw [not_fin_nan h, Bool.and_false]
/-- The quotient that the reference takes. -/
def quoR (a b : Nat) : Nat := if ford a b == some .lt then fdiv a b else fdiv b a
theorem quo_run {x y : Nat} (h : (numB (absR x) && numB (absR y)) = true) (hz : (ford (absR x) 0 == some .eq && ford (absR y) 0 == some .eq) = false) : ((ford (absR x) (absR y) == some .lt) = true → ∀ w, (binOp .quo 22 (.float .f64 (absR x)) (.float .f64 (absR y))).run Try.prog w = .ok (.float .f64 (fdiv (absR x) (absR y))) w) ∧ ((ford (absR x) (absR y) == some .lt) = false → ∀ w, (binOp .quo 22 (.float .f64 (absR y)) (.float .f64 (absR x))).run Try.prog w = .ok (.float .f64 (fdiv (absR y) (absR x))) w) := by
  rw [Bool.and_eq_true] at h
  have na := num_of_fin h.1
  have nb := num_of_fin h.2
  have fin : ∀ z, Num (absR z) → Num z := by
    intro z hz
    cases k : isN z
    · rcases num_or_inf k with n | ⟨s, i⟩
      · exact n
      · exfalso
        have := (abs_inf i).2
        obtain ⟨_, _, _, r⟩ := hz
        rw [r] at this
        cases this
    · have := not_nan_num hz
      rw [(abs_nan k).2] at this
      cases this
  obtain ⟨_, _, a3, a4, _⟩ := abs_num (fin x na)
  obtain ⟨_, _, b3, b4, _⟩ := abs_num (fin y nb)
  rw [a3] at a4
  rw [b3] at b4
  have l := lt_val na nb
  refine ⟨fun hl w => ?_, fun hl w => ?_⟩
  · rw [hl] at l
    have := of_decide_eq_true l.symm
    exact run_quo_num w 22 na nb (by grind)
  · rw [hl] at l
    have hle := of_decide_eq_false l.symm
    refine run_quo_num w 22 nb na fun z => ?_
    rw [ord_eq na num_zero (by rw [val_zero, z]), ord_eq nb num_zero (by rw [val_zero]; grind)] at hz
    cases hz

set_option maxRecDepth 100000 in
set_option maxHeartbeats 8000000 in
theorem rangle_num {x y : Nat} (nx : isN x = false) (ny : isN y = false) (w : World) : Calls Try.prog 23 #[.float .f64 x, .float .f64 y] w fun e w' => e = .returned (.tuple #[.int .i64 (sideN x y), .float .f64 (shareR (absR x) (absR y))]) ∧ Below w.heap.size w w' := by
  have HX := hid (rabs_any x)
  have HY := hid (rabs_any y)
  have HNX := hid (fun w => rnumber_any (absR x) w)
  have HNY := hid (fun w => rnumber_any (absR y) w)
  have hgx : (FloatKind.f64.format.order x 0 == some .gt || FloatKind.f64.format.order x 0 == some .eq) = geZ x := rfl
  have hgy : (FloatKind.f64.format.order y 0 == some .gt || FloatKind.f64.format.order y 0 == some .eq) = geZ y := rfl
  have hlx : (FloatKind.f64.format.order x 0 == some .lt) = !geZ x := lt_zero nx
  have hly : (FloatKind.f64.format.order y 0 == some .lt) = !geZ y := lt_zero ny
  have ho := ord_abs nx ny
  have hla : (FloatKind.f64.format.order (absR x) (absR y) == some .lt) = steepB x y := by
    show (ford (absR x) (absR y) == some .lt) = _
    rw [ho]; rfl
  have px : isN (absR x) = false := by
    rcases num_or_inf nx with h | ⟨s, h⟩
    · exact not_nan_num (abs_num h).2.1
    · exact not_nan_inf (abs_inf h).2
  have py : isN (absR y) = false := by
    rcases num_or_inf ny with h | ⟨s, h⟩
    · exact not_nan_num (abs_num h).2.1
    · exact not_nan_inf (abs_inf h).2
  have hga : (FloatKind.f64.format.order (absR x) (absR y) == some .gt || FloatKind.f64.format.order (absR x) (absR y) == some .eq) = !steepB x y := by
    show (ford (absR x) (absR y) == some .gt || ford (absR x) (absR y) == some .eq) = _
    rw [ord_parts px py, ho]; rfl
  have hza : (FloatKind.f64.format.order (absR x) 0 == some .eq) = (ford (absR x) 0 == some .eq) := rfl
  have hzb : (FloatKind.f64.format.order (absR y) 0 == some .eq) = (ford (absR y) 0 == some .eq) := rfl
  have hq : (numB (absR x) && numB (absR y)) = true → (ford (absR x) 0 == some .eq && ford (absR y) 0 == some .eq) = false → _ := fun h k => quo_run h k
  have hl : (ford (absR x) (absR y) == some .lt) = steepB x y := hla
  have hs : shareR (absR x) (absR y) = if (numB (absR x) && numB (absR y)) && !(ford (absR x) 0 == some .eq && ford (absR y) 0 == some .eq) then (if steepB x y then fdiv (absR x) (absR y) else fdiv (absR y) (absR x)) else 0 := by rw [← hl]; rfl
  rw [hs]
  rw [hl] at hq
  obtain ⟨K, hK⟩ : ∃ K, K = sideN x y := ⟨_, rfl⟩
  rw [← hK]
  unfold sideN at hK
  have hlx2 : (ford x 0 == some .lt) = !geZ x := hlx
  rw [nx, ny, hlx2] at hK
  clear hs hl hlx2 ho px py nx ny
  generalize fdiv (absR x) (absR y) = q1 at *
  generalize fdiv (absR y) (absR x) = q2 at *
  generalize (ford (absR x) 0 == some .eq) = za at *
  generalize (ford (absR y) 0 == some .eq) = zb at *
  generalize numB (absR x) = na at *
  generalize numB (absR y) = nb at *
  generalize absR x = a at *
  generalize absR y = b at *
  generalize geZ x = gx at *
  generalize geZ y = gy at *
  generalize steepB x y = la at *
  cases gx <;> cases gy <;> cases la
  all_goals
    simp only [Bool.or_false, Bool.and_self, Bool.and_true, Bool.and_false, Bool.not_true, Bool.not_false, Bool.false_eq_true, if_true, if_false] at *
    subst hK
    go_enter Try.func23, Try.ntmps23
    go_wp2_with fail
    refine Calls.mono (HX.out _) ?_
    rintro e w' ⟨rfl, hw⟩
    obtain rfl := hw.symm
    clear hw
    go_wp2_with fail
    refine Calls.mono (HY.out _) ?_
    rintro e w' ⟨rfl, hw⟩
    obtain rfl := hw.symm
    clear hw
    go_wp2_with fail
    refine Calls.mono (HNX.out _) ?_
    rintro e w1 ⟨rfl, hb⟩
    have HB := hid hb
    clear hb
    cases na
    · clear hq
      go_wp2_with fail
      exact bodyPost_ret (v := _) (by simp [results, go_sem]) rfl ⟨rfl, HB.out⟩
    · go_wp2_with fail
      refine Calls.mono (HNY.out _) ?_
      rintro e w2 ⟨rfl, hb⟩
      have HB2 := hid (HB.out.trans (hb.mono HB.out.size))
      clear hb HB
      cases nb
      · clear hq
        go_wp2_with fail
        exact bodyPost_ret (v := _) (by simp [results, go_sem]) rfl ⟨rfl, HB2.out⟩
      · cases za
        · replace hq := hq rfl
          go_wp2_with fail
          exact bodyPost_ret (v := _) (by simp [results, go_sem]) rfl ⟨rfl, HB2.out⟩
        · cases zb
          · replace hq := hq rfl
            go_wp2_with fail
            exact bodyPost_ret (v := _) (by simp [results, go_sem]) rfl ⟨rfl, HB2.out⟩
          · clear hq
            go_wp2_with fail
            exact bodyPost_ret (v := _) (by simp [results, go_sem]) rfl ⟨rfl, HB2.out⟩

set_option maxRecDepth 100000 in
set_option maxHeartbeats 4000000 in
theorem rangle_nx {x y : Nat} (nx : isN x = true) (w : World) : Calls Try.prog 23 #[.float .f64 x, .float .f64 y] w fun e w' => e = .returned (.tuple #[.int .i64 (sideN x y), .float .f64 (shareR (absR x) (absR y))]) ∧ Below w.heap.size w w' := by
  have HX := hid (rabs_any x)
  have HY := hid (rabs_any y)
  have HNX := hid (fun w => rnumber_any (absR x) w)
  obtain ⟨hgx, hlx⟩ := nan_parts (x := x) (y := 0) (.inl nx)
  replace hgx : (FloatKind.f64.format.order x 0 == some .gt || FloatKind.f64.format.order x 0 == some .eq) = false := hgx
  replace hlx : (FloatKind.f64.format.order x 0 == some .lt) = false := hlx
  have hs : shareR (absR x) (absR y) = 0 := by
    unfold shareR
    rw [nan_shareR (.inl (abs_nan nx).2), Bool.false_and]; rfl
  have hk : sideN x y = 7 := by unfold sideN; rw [nx]; rfl
  rw [not_fin_nan (abs_nan nx).2] at HNX
  rw [hs, hk]
  clear nx hs hk
  generalize absR x = a at *
  generalize absR y = b at *
  · go_enter Try.func23, Try.ntmps23
    go_wp2_with fail
    refine Calls.mono (HX.out _) ?_
    rintro e w' ⟨rfl, hw⟩
    obtain rfl := hw.symm
    clear hw
    go_wp2_with fail
    refine Calls.mono (HY.out _) ?_
    rintro e w' ⟨rfl, hw⟩
    obtain rfl := hw.symm
    clear hw
    go_wp2_with fail
    refine Calls.mono (HNX.out _) ?_
    rintro e w1 ⟨rfl, hb⟩
    have HB := hid hb
    clear hb
    go_wp2_with fail
    exact bodyPost_ret (v := _) (by simp [results, go_sem]) rfl ⟨rfl, HB.out⟩

set_option maxRecDepth 100000 in
set_option maxHeartbeats 4000000 in
theorem rangle_ny {x y : Nat} (nx : isN x = false) (ny : isN y = true) (w : World) : Calls Try.prog 23 #[.float .f64 x, .float .f64 y] w fun e w' => e = .returned (.tuple #[.int .i64 (sideN x y), .float .f64 (shareR (absR x) (absR y))]) ∧ Below w.heap.size w w' := by
  have HX := hid (rabs_any x)
  have HY := hid (rabs_any y)
  have HNX := hid (fun w => rnumber_any (absR x) w)
  have HNY := hid (fun w => rnumber_any (absR y) w)
  obtain ⟨hgy, hly⟩ := nan_parts (x := y) (y := 0) (.inl ny)
  replace hgy : (FloatKind.f64.format.order y 0 == some .gt || FloatKind.f64.format.order y 0 == some .eq) = false := hgy
  replace hly : (FloatKind.f64.format.order y 0 == some .lt) = false := hly
  have hgx : (FloatKind.f64.format.order x 0 == some .gt || FloatKind.f64.format.order x 0 == some .eq) = geZ x := rfl
  have hlx : (FloatKind.f64.format.order x 0 == some .lt) = !geZ x := lt_zero nx
  have hs : shareR (absR x) (absR y) = 0 := by
    unfold shareR
    rw [nan_shareR (.inr (abs_nan ny).2), Bool.false_and]; rfl
  have hk : sideN x y = 7 := by unfold sideN; rw [ny, Bool.or_true]; rfl
  rw [not_fin_nan (abs_nan ny).2] at HNY
  rw [hs, hk]
  clear nx ny hs hk
  generalize numB (absR x) = na at *
  generalize absR x = a at *
  generalize absR y = b at *
  generalize geZ x = gx at *
  cases gx
  all_goals
    try replace hlx : _ = true := hlx
    try replace hlx : _ = false := hlx
    go_enter Try.func23, Try.ntmps23
    go_wp2_with fail
    refine Calls.mono (HX.out _) ?_
    rintro e w' ⟨rfl, hw⟩
    obtain rfl := hw.symm
    clear hw
    go_wp2_with fail
    refine Calls.mono (HY.out _) ?_
    rintro e w' ⟨rfl, hw⟩
    obtain rfl := hw.symm
    clear hw
    go_wp2_with fail
    refine Calls.mono (HNX.out _) ?_
    rintro e w1 ⟨rfl, hb⟩
    have HB := hid hb
    clear hb
    cases na
    · go_wp2_with fail
      exact bodyPost_ret (v := _) (by simp [results, go_sem]) rfl ⟨rfl, HB.out⟩
    · go_wp2_with fail
      refine Calls.mono (HNY.out _) ?_
      rintro e w2 ⟨rfl, hb⟩
      have HB2 := hid (HB.out.trans (hb.mono HB.out.size))
      clear hb HB
      go_wp2_with fail
      exact bodyPost_ret (v := _) (by simp [results, go_sem]) rfl ⟨rfl, HB2.out⟩

theorem rangle_any (x y : Nat) (w : World) : Calls Try.prog 23 #[.float .f64 x, .float .f64 y] w fun e w' => e = .returned (.tuple #[.int .i64 (sideN x y), .float .f64 (shareR (absR x) (absR y))]) ∧ Below w.heap.size w w' := by
  cases nx : isN x
  · cases ny : isN y
    · exact rangle_num nx ny w
    · exact rangle_ny nx ny w
  · exact rangle_nx nx w
end Go.Proofs.Ytnhilikcgfhkbaa
