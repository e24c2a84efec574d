/- The reference's Angle. The reference of layer 14: Density, Eval; colours by the reference of layer 5. Comparisons of floats, as the walk shows them. What must come at any rate. The reference's Disk, Ball, Tent, Dot; near. -/
import Derived.Test.YtagehemimlakpaaG5
import Derived.Test.YtagehemimlakpaaG9
import Derived.Test.YtagehemimlakpaaRows
import Derived.Test.YtagehemimlakpaaG6
import Derived.Test.YtagehemimlakpaaG2
import Derived.Test.YtagehemimlakpaaG7
namespace Go.Proofs.Ytagehemimlakpaa
open Go.RowKit Fl

/-- The order's answers, of two that are no NaN. -/
theorem ord_parts {x y : Nat} (hx : isN x = false) (hy : isN y = false) : (ford x y == some .gt || ford x y == some .eq) = !(ford x y == some .lt) := by
  rcases ford_three hx hy with h | h | h <;> rw [h] <;> rfl
theorem lt_zero {x : Nat} (hx : isN x = false) : (ford x 0 == some .lt) = !geZ x := by
  unfold geZ
  rw [ord_parts hx isN_zero, Bool.not_not]
theorem nan_parts {x y : Nat} (h : isN x = true ∨ isN y = true) : (ford x y == some .gt || ford x y == some .eq) = false ∧ (ford x y == some .lt) = false := by
  have e : ford x y = none := by
    rcases h with h | h
    · exact ord_nan_left h y
    · exact ord_nan_right h x
  rw [e]
  exact ⟨rfl, rfl⟩
theorem nan_shareR {a b : Nat} (h : isN a = true ∨ isN b = true) : (numB a && numB b) = false := by
  rcases h with h | h
  · rw [not_fin_nan h, Bool.false_and]
  · rw [not_fin_nan h, Bool.and_false]
/-- The quotient that the reference takes. -/
def quoR (a b : Nat) : Nat := if ford a b == some .lt then fdiv a b else fdiv b a
theorem quo_run {x y : Nat} (h : (numB (absR x) && numB (absR y)) = true) (hz : (ford (absR x) 0 == some .eq && ford (absR y) 0 == some .eq) = false) : ((ford (absR x) (absR y) == some .lt) = true → ∀ w, (binOp .quo 22 (.float .f64 (absR x)) (.float .f64 (absR y))).run Try.prog w = .ok (.float .f64 (fdiv (absR x) (absR y))) w) ∧ ((ford (absR x) (absR y) == some .lt) = false → ∀ w, (binOp .quo 22 (.float .f64 (absR y)) (.float .f64 (absR x))).run Try.prog w = .ok (.float .f64 (fdiv (absR y) (absR x))) w) := by
  rw [Bool.and_eq_true] at h
  have na := num_of_fin h.1
  have nb := num_of_fin h.2
  have fin : ∀ z, Num (absR z) → Num z := by
    intro z hz
    cases k : isN z
    · rcases num_or_inf k with n | ⟨s, i⟩
      · exact n
      · exfalso
        have := (abs_inf i).2
        obtain ⟨_, _, _, r⟩ := hz
        rw [r] at this
        cases this
    · have := not_nan_num hz
      rw [(abs_nan k).2] at this
      cases this
  obtain ⟨_, _, a3, a4, _⟩ := abs_num (fin x na)
  obtain ⟨_, _, b3, b4, _⟩ := abs_num (fin y nb)
  rw [a3] at a4
  rw [b3] at b4
  have l := lt_val na nb
  refine ⟨fun hl w => ?_, fun hl w => ?_⟩
  · rw [hl] at l
    have := of_decide_eq_true l.symm
    exact run_quo_num w 22 na nb (by grind)
  · rw [hl] at l
    have hle := of_decide_eq_false l.symm
    refine run_quo_num w 22 nb na fun z => ?_
    rw [ord_eq na num_zero (by rw [val_zero, z]), ord_eq nb num_zero (by rw [val_zero]; grind)] at hz
    cases hz

set_option maxRecDepth 100000 in
set_option maxHeartbeats 8000000 in
theorem rangle_num {x y : Nat} (nx : isN x = false) (ny : isN y = false) (w : World) : Calls Try.prog 24 #[.float .f64 x, .float .f64 y] w fun e w' => e = .returned (.tuple #[.int .i64 (sideN x y), .float .f64 (shareR (absR x) (absR y))]) ∧ Below w.heap.size w w' := by
  have HX := hid (rabs_any x)
  have HY := hid (rabs_any y)
  have HNX := hid (fun w => rnumber_z (absR x) w)
  have HNY := hid (fun w => rnumber_z (absR y) w)
  have hgx : (FloatKind.f64.format.order x 0 == some .gt || FloatKind.f64.format.order x 0 == some .eq) = geZ x := rfl
  have hgy : (FloatKind.f64.format.order y 0 == some .gt || FloatKind.f64.format.order y 0 == some .eq) = geZ y := rfl
  have hlx : (FloatKind.f64.format.order x 0 == some .lt) = !geZ x := lt_zero nx
  have hly : (FloatKind.f64.format.order y 0 == some .lt) = !geZ y := lt_zero ny
  have ho := ord_abs nx ny
  have hla : (FloatKind.f64.format.order (absR x) (absR y) == some .lt) = steepB x y := by
    show (ford (absR x) (absR y) == some .lt) = _
    rw [ho]; rfl
  have px : isN (absR x) = false := by
    rcases num_or_inf nx with h | ⟨s, h⟩
    · exact not_nan_num (abs_num h).2.1
    · exact not_nan_inf (abs_inf h).2
  have py : isN (absR y) = false := by
    rcases num_or_inf ny with h | ⟨s, h⟩
    · exact not_nan_num (abs_num h).2.1
    · exact not_nan_inf (abs_inf h).2
  have hga : (FloatKind.f64.format.order (absR x) (absR y) == some .gt || FloatKind.f64.format.order (absR x) (absR y) == some .eq) = !steepB x y := by
    show (ford (absR x) (absR y) == some .gt || ford (absR x) (absR y) == some .eq) = _
    rw [ord_parts px py, ho]; rfl
  have hza : (FloatKind.f64.format.order (absR x) 0 == some .eq) = (ford (absR x) 0 == some .eq) := rfl
  have hzb : (FloatKind.f64.format.order (absR y) 0 == some .eq) = (ford (absR y) 0 == some .eq) := rfl
  have hq : (numB (absR x) && numB (absR y)) = true → (ford (absR x) 0 == some .eq && ford (absR y) 0 == some .eq) = false → _ := fun h k => quo_run h k
  have hl : (ford (absR x) (absR y) == some .lt) = steepB x y := hla
  have hs : shareR (absR x) (absR y) = if (numB (absR x) && numB (absR y)) && !(ford (absR x) 0 == some .eq && ford (absR y) 0 == some .eq) then (if steepB x y then fdiv (absR x) (absR y) else fdiv (absR y) (absR x)) else 0 := by rw [← hl]; rfl
  rw [hs]
  rw [hl] at hq
  obtain ⟨K, hK⟩ : ∃ K, K = sideN x y := ⟨_, rfl⟩
  rw [← hK]
  unfold sideN at hK
  have hlx2 : (ford x 0 == some .lt) = !geZ x := hlx
  rw [nx, ny, hlx2] at hK
  clear hs hl hlx2 ho px py nx ny
  generalize fdiv (absR x) (absR y) = q1 at *
  generalize fdiv (absR y) (absR x) = q2 at *
  generalize (ford (absR x) 0 == some .eq) = za at *
  generalize (ford (absR y) 0 == some .eq) = zb at *
  generalize numB (absR x) = na at *
  generalize numB (absR y) = nb at *
  generalize absR x = a at *
  generalize absR y = b at *
  generalize geZ x = gx at *
  generalize geZ y = gy at *
  generalize steepB x y = la at *
  cases gx <;> cases gy <;> cases la
  all_goals
    simp only [Bool.or_false, Bool.and_self, Bool.and_true, Bool.and_false, Bool.not_true, Bool.not_false, Bool.false_eq_true, if_true, if_false] at *
    subst hK
    go_enter Try.func24, Try.ntmps24
    go_wp2_with fail
    refine Calls.mono (HX.out _) ?_
    rintro e w' ⟨rfl, hw⟩
    obtain rfl := hw.symm
    clear hw
    go_wp2_with fail
    refine Calls.mono (HY.out _) ?_
    rintro e w' ⟨rfl, hw⟩
    obtain rfl := hw.symm
    clear hw
    go_wp2_with fail
    refine Calls.mono (HNX.out _) ?_
    rintro e w1 ⟨rfl, hb⟩
    have HB := hid hb
    clear hb
    cases na
    · clear hq
      go_wp2_with fail
      exact bodyPost_ret (v := _) (by simp [results, go_sem]) rfl ⟨rfl, HB.out⟩
    · go_wp2_with fail
      refine Calls.mono (HNY.out _) ?_
      rintro e w2 ⟨rfl, hb⟩
      have HB2 := hid (HB.out.trans (hb.mono HB.out.size))
      clear hb HB
      cases nb
      · clear hq
        go_wp2_with fail
        exact bodyPost_ret (v := _) (by simp [results, go_sem]) rfl ⟨rfl, HB2.out⟩
      · cases za
        · replace hq := hq rfl
          go_wp2_with fail
          exact bodyPost_ret (v := _) (by simp [results, go_sem]) rfl ⟨rfl, HB2.out⟩
        · cases zb
          · replace hq := hq rfl
            go_wp2_with fail
            exact bodyPost_ret (v := _) (by simp [results, go_sem]) rfl ⟨rfl, HB2.out⟩
          · clear hq
            go_wp2_with fail
            exact bodyPost_ret (v := _) (by simp [results, go_sem]) rfl ⟨rfl, HB2.out⟩

set_option maxRecDepth 100000 in
set_option maxHeartbeats 4000000 in
theorem rangle_nx {x y : Nat} (nx : isN x = true) (w : World) : Calls Try.prog 24 #[.float .f64 x, .float .f64 y] w fun e w' => e = .returned (.tuple #[.int .i64 (sideN x y), .float .f64 (shareR (absR x) (absR y))]) ∧ Below w.heap.size w w' := by
  have HX := hid (rabs_any x)
  have HY := hid (rabs_any y)
  have HNX := hid (fun w => rnumber_z (absR x) w)
  obtain ⟨hgx, hlx⟩ := nan_parts (x := x) (y := 0) (.inl nx)
  replace hgx : (FloatKind.f64.format.order x 0 == some .gt || FloatKind.f64.format.order x 0 == some .eq) = false := hgx
  replace hlx : (FloatKind.f64.format.order x 0 == some .lt) = false := hlx
  have hs : shareR (absR x) (absR y) = 0 := by
    unfold shareR
    rw [nan_shareR (.inl (abs_nan nx).2), Bool.false_and]; rfl
  have hk : sideN x y = 7 := by unfold sideN; rw [nx]; rfl
  rw [not_fin_nan (abs_nan nx).2] at HNX
  rw [hs, hk]
  clear nx hs hk
  generalize absR x = a at *
  generalize absR y = b at *
  · go_enter Try.func24, Try.ntmps24
    go_wp2_with fail
    refine Calls.mono (HX.out _) ?_
    rintro e w' ⟨rfl, hw⟩
    obtain rfl := hw.symm
    clear hw
    go_wp2_with fail
    refine Calls.mono (HY.out _) ?_
    rintro e w' ⟨rfl, hw⟩
    obtain rfl := hw.symm
    clear hw
    go_wp2_with fail
    refine Calls.mono (HNX.out _) ?_
    rintro e w1 ⟨rfl, hb⟩
    have HB := hid hb
    clear hb
    go_wp2_with fail
    exact bodyPost_ret (v := _) (by simp [results, go_sem]) rfl ⟨rfl, HB.out⟩

set_option maxRecDepth 100000 in
set_option maxHeartbeats 4000000 in
theorem rangle_ny {x y : Nat} (nx : isN x = false) (ny : isN y = true) (w : World) : Calls Try.prog 24 #[.float .f64 x, .float .f64 y] w fun e w' => e = .returned (.tuple #[.int .i64 (sideN x y), .float .f64 (shareR (absR x) (absR y))]) ∧ Below w.heap.size w w' := by
  have HX := hid (rabs_any x)
  have HY := hid (rabs_any y)
  have HNX := hid (fun w => rnumber_z (absR x) w)
  have HNY := hid (fun w => rnumber_z (absR y) w)
  obtain ⟨hgy, hly⟩ := nan_parts (x := y) (y := 0) (.inl ny)
  replace hgy : (FloatKind.f64.format.order y 0 == some .gt || FloatKind.f64.format.order y 0 == some .eq) = false := hgy
  replace hly : (FloatKind.f64.format.order y 0 == some .lt) = false := hly
  have hgx : (FloatKind.f64.format.order x 0 == some .gt || FloatKind.f64.format.order x 0 == some .eq) = geZ x := rfl
  have hlx : (FloatKind.f64.format.order x 0 == some .lt) = !geZ x := lt_zero nx
  have hs : shareR (absR x) (absR y) = 0 := by
    unfold shareR
    rw [nan_shareR (.inr (abs_nan ny).2), Bool.false_and]; rfl
  have hk : sideN x y = 7 := by unfold sideN; rw [ny, Bool.or_true]; rfl
  rw [not_fin_nan (abs_nan ny).2] at HNY
  rw [hs, hk]
  clear nx ny hs hk
  generalize numB (absR x) = na at *
  generalize absR x = a at *
  generalize absR y = b at *
  generalize geZ x = gx at *
  cases gx
  all_goals
    try replace hlx : _ = true := hlx
    try replace hlx : _ = false := hlx
    go_enter Try.func24, Try.ntmps24
    go_wp2_with fail
    refine Calls.mono (HX.out _) ?_
    rintro e w' ⟨rfl, hw⟩
    obtain rfl := hw.symm
    clear hw
    go_wp2_with fail
    refine Calls.mono (HY.out _) ?_
    rintro e w' ⟨rfl, hw⟩
    obtain rfl := hw.symm
    clear hw
    go_wp2_with fail
    refine Calls.mono (HNX.out _) ?_
    rintro e w1 ⟨rfl, hb⟩
    have HB := hid hb
    clear hb
    cases na
    · go_wp2_with fail
      exact bodyPost_ret (v := _) (by simp [results, go_sem]) rfl ⟨rfl, HB.out⟩
    · go_wp2_with fail
      refine Calls.mono (HNY.out _) ?_
      rintro e w2 ⟨rfl, hb⟩
      have HB2 := hid (HB.out.trans (hb.mono HB.out.size))
      clear hb HB
      go_wp2_with fail
      exact bodyPost_ret (v := _) (by simp [results, go_sem]) rfl ⟨rfl, HB2.out⟩

theorem rangle_any (x y : Nat) (w : World) : Calls Try.prog 24 #[.float .f64 x, .float .f64 y] w fun e w' => e = .returned (.tuple #[.int .i64 (sideN x y), .float .f64 (shareR (absR x) (absR y))]) ∧ Below w.heap.size w w' := by
  cases nx : isN x
  · cases ny : isN y
    · exact rangle_num nx ny w
    · exact rangle_ny nx ny w
  · exact rangle_nx nx w
end Go.Proofs.Ytagehemimlakpaa

namespace Go.Proofs.Ytagehemimlakpaa
open Go.RowKit Fl

theorem r5scale_c {ax ay az k K : Nat} {A : V3} (w : World) (ha : S3 ax ay az A) (hk : Sm k K) : Ret Try.prog 17 #[.agg #[.float .f64 ax, .float .f64 ay, .float .f64 az], .float .f64 k] w (isP (A.scale K)) :=
  (r5scale ax ay az k w).mono (isV.toP (scale_w ha hk))

theorem is5_c {x y z p q r : Nat} {P : V3} (h : S3 x y z P) (k : S3 p q r P) (w : World) : Ret Try.prog 8 #[.agg #[.float .f64 x, .float .f64 y, .float .f64 z], .agg #[.float .f64 p, .float .f64 q, .float .f64 r]] w (fun v => v = .bool true) :=
  is5_true (h.x.trans k.x.symm) (h.y.trans k.y.symm) (h.z.trans k.z.symm) w

theorem rang_c (x y : Nat) (w : World) : Ret Try.prog 24 #[.float .f64 x, .float .f64 y] w (fun v => v = .tuple #[.int .i64 (sideN x y), .float .f64 (shareR (absR x) (absR y))]) :=
  (rangle_any x y w).mono fun _ _ ⟨he, hb⟩ => ⟨_, he, rfl, hb⟩

theorem rnum_c (x : Nat) (w : World) : Ret Try.prog 25 #[.float .f64 x] w (fun v => v = .bool (numB x)) :=
  (rnumber_z x w).mono fun _ _ ⟨he, hb⟩ => ⟨_, he, rfl, hb⟩

set_option maxRecDepth 100000 in
set_option maxHeartbeats 1000000 in
theorem rden_any (ox oy oz x y z : Nat) (w : World) : Ret Try.prog 11 #[.agg #[.float .f64 ox, .float .f64 oy, .float .f64 oz], .agg #[.float .f64 x, .float .f64 y, .float .f64 z]] w (fun v => v = .float .f64 (denL oz x y z)) := by
  unfold Ret
  have HA := hid (fun w => rang_c x y w)
  have HN := hid (fun r (h : Eqv r (denP x y z)) => numB_congr h.sm)
  have HE := hid (fun (hb : numB (denP x y z) = true) r (h : Eqv r (denP x y z)) => show r = denP x y z from (h.sm.symm.eq (not_nan_num (num_of_fin hb))).symm)
  have HP := hid (den_ref x y z)
  obtain ⟨nf, ng, f0, f1, ev⟩ := share_same x y
  obtain ⟨_, _, _, ngg, nq, dg, _⟩ := dens_same nf ng f0 f1 ev
  have m1 : ∀ w, _ := fun w => run_mul_num (P := Try.prog) w 22 ng ng
  have m2 : ∀ w, (binOp .add 22 (.float .f64 4607182418800017408) (.float .f64 (fmul (shareR (absR x) (absR y)) (shareR (absR x) (absR y))))).run Try.prog w = .ok (.float .f64 (secQ (shareR (absR x) (absR y)))) w := fun w => run_add_num w 22 num_w1 ngg
  have m3 : ∀ w, (binOp .mul 22 (.float .f64 (secQ (shareR (absR x) (absR y)))) (.float .f64 4593671619917905920)).run Try.prog w = .ok (.float .f64 (densF (shareR (absR x) (absR y)))) w := fun w => run_mul_num w 22 nq num_eighth
  have m4 : ∀ w, (binOp .mul 22 (.float .f64 4611686018427387904) (.float .f64 (densF (shareR (absR x) (absR y))))).run Try.prog w = .ok (.float .f64 (fmul two1 (densF (shareR (absR x) (absR y))))) w := fun w => run_mul_num w 22 num_two1 dg
  have g1 : (FloatKind.f64.format.order oz 0 == some .gt) = (ford oz 0 == some .gt) := rfl
  have g2 : (FloatKind.f64.format.order z 0 == some .gt) = (ford z 0 == some .gt) := rfl
  clear nf ng f0 f1 ev ngg nq dg
  unfold denL upperB
  generalize denP x y z = P at *
  generalize fmul two1 (densF (shareR (absR x) (absR y))) = D2 at *
  generalize densF (shareR (absR x) (absR y)) = D at *
  generalize secQ (shareR (absR x) (absR y)) = q at *
  generalize shareR (absR x) (absR y) = f at *
  generalize fmul f f = ff at *
  generalize sideN x y = k at *
  generalize numB P = b at *
  generalize (ford oz 0 == some .gt) = p1 at *
  generalize (ford z 0 == some .gt) = p2 at *
  cases p1
  · go_enter Try.func11, Try.ntmps11
    go_wp2_with fail
    go_ret
    exact ⟨_, rfl, rfl, ((Below.refl _ _).alloc (Nat.le_refl _) _).alloc (by simp) _⟩
  · cases p2
    · go_enter Try.func11, Try.ntmps11
      go_wp2_with fail
      go_ret
      exact ⟨_, rfl, rfl, ((Below.refl _ _).alloc (Nat.le_refl _) _).alloc (by simp) _⟩
    · cases b
      · go_enter Try.func11, Try.ntmps11
        go_wp2_with fail
        refine Lp.settleC (fun w' => Lp.Bk w' (w.heap.size) #[.float .f64 ox, .float .f64 oy, .float .f64 oz] 26 ∧ Lp.Bk w' (w.heap.size + 1) #[.float .f64 x, .float .f64 y, .float .f64 z] 26 ∧ Cl w w') ⟨((Lp.Bk.al _ _ _).alo _), (Lp.Bk.al1 _ _ _ _), ((Below.refl _ _).alloc (by simp <;> omega) _).alloc (by simp <;> omega) _⟩ ?_
        rintro v1 ⟨BO, BI, HB⟩
        have kO := BO.cell
        have kI := BI.cell
        have nO0 : (w.heap.size = v1.heap.size) = False := eq_false (by have := BO.lt; omega)
        have mO0 : w.heap.size < v1.heap.size := by have := BO.lt; omega
        have nO1 : (w.heap.size = v1.heap.size + 1) = False := eq_false (by have := BO.lt; omega)
        have mO1 : w.heap.size < v1.heap.size + 1 := by have := BO.lt; omega
        have nI0 : (w.heap.size + 1 = v1.heap.size) = False := eq_false (by have := BI.lt; omega)
        have mI0 : w.heap.size + 1 < v1.heap.size := by have := BI.lt; omega
        have nI1 : (w.heap.size = v1.heap.size) = False := eq_false (by have := BI.lt; omega)
        have mI1 : w.heap.size < v1.heap.size := by have := BI.lt; omega
        refine Calls.mono (HA.out _) ?_
        rintro e v2 ⟨v, rfl, rfl, hm⟩
        clear kO kI nO0 mO0 nO1 mO1 nI0 mI0 nI1 mI1
        replace BO := BO.keep hm
        replace BI := BI.keep hm
        replace HB := HB.call hm
        clear hm
        have kO := BO.cell
        have kI := BI.cell
        have nO0 : (w.heap.size = v2.heap.size) = False := eq_false (by have := BO.lt; omega)
        have mO0 : w.heap.size < v2.heap.size := by have := BO.lt; omega
        have nO1 : (w.heap.size = v2.heap.size + 1) = False := eq_false (by have := BO.lt; omega)
        have mO1 : w.heap.size < v2.heap.size + 1 := by have := BO.lt; omega
        have nI0 : (w.heap.size + 1 = v2.heap.size) = False := eq_false (by have := BI.lt; omega)
        have mI0 : w.heap.size + 1 < v2.heap.size := by have := BI.lt; omega
        have nI1 : (w.heap.size = v2.heap.size) = False := eq_false (by have := BI.lt; omega)
        have mI1 : w.heap.size < v2.heap.size := by have := BI.lt; omega
        go_wp2_with fail
        refine upon_mul (Sm.refl _) (Sm.refl _) ?_
        intro r n hr
        rw [HP.out] at hr
        have hn := HN.out r hr
        have HR := hid (fun w => rnum_c r w)
        rw [hn] at HR
        clear hn
        go_wp2_with fail
        refine Lp.settleC (fun w' => Lp.Bk w' (w.heap.size) #[.float .f64 ox, .float .f64 oy, .float .f64 oz] 26 ∧ Lp.Bk w' (w.heap.size + 1) #[.float .f64 x, .float .f64 y, .float .f64 z] 26 ∧ Cl w w') ⟨BO.dr _, BI.dr _, HB.drewN _⟩ ?_
        clear kO kI nO0 mO0 nO1 mO1 nI0 mI0 nI1 mI1
        clear BO BI HB
        rintro v3 ⟨BO, BI, HB⟩
        have kO := BO.cell
        have kI := BI.cell
        have nO0 : (w.heap.size = v3.heap.size) = False := eq_false (by have := BO.lt; omega)
        have mO0 : w.heap.size < v3.heap.size := by have := BO.lt; omega
        have nO1 : (w.heap.size = v3.heap.size + 1) = False := eq_false (by have := BO.lt; omega)
        have mO1 : w.heap.size < v3.heap.size + 1 := by have := BO.lt; omega
        have nI0 : (w.heap.size + 1 = v3.heap.size) = False := eq_false (by have := BI.lt; omega)
        have mI0 : w.heap.size + 1 < v3.heap.size := by have := BI.lt; omega
        have nI1 : (w.heap.size = v3.heap.size) = False := eq_false (by have := BI.lt; omega)
        have mI1 : w.heap.size < v3.heap.size := by have := BI.lt; omega
        refine Calls.mono (HR.out _) ?_
        rintro e v4 ⟨v, rfl, rfl, hm⟩
        clear kO kI nO0 mO0 nO1 mO1 nI0 mI0 nI1 mI1
        replace BO := BO.keep hm
        replace BI := BI.keep hm
        replace HB := HB.call hm
        clear hm
        have kO := BO.cell
        have kI := BI.cell
        have nO0 : (w.heap.size = v4.heap.size) = False := eq_false (by have := BO.lt; omega)
        have mO0 : w.heap.size < v4.heap.size := by have := BO.lt; omega
        have nO1 : (w.heap.size = v4.heap.size + 1) = False := eq_false (by have := BO.lt; omega)
        have mO1 : w.heap.size < v4.heap.size + 1 := by have := BO.lt; omega
        have nI0 : (w.heap.size + 1 = v4.heap.size) = False := eq_false (by have := BI.lt; omega)
        have mI0 : w.heap.size + 1 < v4.heap.size := by have := BI.lt; omega
        have nI1 : (w.heap.size = v4.heap.size) = False := eq_false (by have := BI.lt; omega)
        have mI1 : w.heap.size < v4.heap.size := by have := BI.lt; omega
        go_wp2_with fail
        go_ret
        exact ⟨_, rfl, rfl, HB⟩
      · go_enter Try.func11, Try.ntmps11
        go_wp2_with fail
        refine Lp.settleC (fun w' => Lp.Bk w' (w.heap.size) #[.float .f64 ox, .float .f64 oy, .float .f64 oz] 26 ∧ Lp.Bk w' (w.heap.size + 1) #[.float .f64 x, .float .f64 y, .float .f64 z] 26 ∧ Cl w w') ⟨((Lp.Bk.al _ _ _).alo _), (Lp.Bk.al1 _ _ _ _), ((Below.refl _ _).alloc (by simp <;> omega) _).alloc (by simp <;> omega) _⟩ ?_
        rintro v1 ⟨BO, BI, HB⟩
        have kO := BO.cell
        have kI := BI.cell
        have nO0 : (w.heap.size = v1.heap.size) = False := eq_false (by have := BO.lt; omega)
        have mO0 : w.heap.size < v1.heap.size := by have := BO.lt; omega
        have nO1 : (w.heap.size = v1.heap.size + 1) = False := eq_false (by have := BO.lt; omega)
        have mO1 : w.heap.size < v1.heap.size + 1 := by have := BO.lt; omega
        have nI0 : (w.heap.size + 1 = v1.heap.size) = False := eq_false (by have := BI.lt; omega)
        have mI0 : w.heap.size + 1 < v1.heap.size := by have := BI.lt; omega
        have nI1 : (w.heap.size = v1.heap.size) = False := eq_false (by have := BI.lt; omega)
        have mI1 : w.heap.size < v1.heap.size := by have := BI.lt; omega
        refine Calls.mono (HA.out _) ?_
        rintro e v2 ⟨v, rfl, rfl, hm⟩
        clear kO kI nO0 mO0 nO1 mO1 nI0 mI0 nI1 mI1
        replace BO := BO.keep hm
        replace BI := BI.keep hm
        replace HB := HB.call hm
        clear hm
        have kO := BO.cell
        have kI := BI.cell
        have nO0 : (w.heap.size = v2.heap.size) = False := eq_false (by have := BO.lt; omega)
        have mO0 : w.heap.size < v2.heap.size := by have := BO.lt; omega
        have nO1 : (w.heap.size = v2.heap.size + 1) = False := eq_false (by have := BO.lt; omega)
        have mO1 : w.heap.size < v2.heap.size + 1 := by have := BO.lt; omega
        have nI0 : (w.heap.size + 1 = v2.heap.size) = False := eq_false (by have := BI.lt; omega)
        have mI0 : w.heap.size + 1 < v2.heap.size := by have := BI.lt; omega
        have nI1 : (w.heap.size = v2.heap.size) = False := eq_false (by have := BI.lt; omega)
        have mI1 : w.heap.size < v2.heap.size := by have := BI.lt; omega
        go_wp2_with fail
        refine upon_mul (Sm.refl _) (Sm.refl _) ?_
        intro r n hr
        rw [HP.out] at hr
        have hn := HN.out r hr
        have he := HE.out (by first | rfl | trivial) r hr
        have HR := hid (fun w => rnum_c r w)
        rw [hn] at HR
        clear hn
        have HF := hid he
        clear he
        go_wp2_with fail
        refine Lp.settleC (fun w' => Lp.Bk w' (w.heap.size) #[.float .f64 ox, .float .f64 oy, .float .f64 oz] 26 ∧ Lp.Bk w' (w.heap.size + 1) #[.float .f64 x, .float .f64 y, .float .f64 z] 26 ∧ Cl w w') ⟨BO.dr _, BI.dr _, HB.drewN _⟩ ?_
        clear kO kI nO0 mO0 nO1 mO1 nI0 mI0 nI1 mI1
        clear BO BI HB
        rintro v3 ⟨BO, BI, HB⟩
        have kO := BO.cell
        have kI := BI.cell
        have nO0 : (w.heap.size = v3.heap.size) = False := eq_false (by have := BO.lt; omega)
        have mO0 : w.heap.size < v3.heap.size := by have := BO.lt; omega
        have nO1 : (w.heap.size = v3.heap.size + 1) = False := eq_false (by have := BO.lt; omega)
        have mO1 : w.heap.size < v3.heap.size + 1 := by have := BO.lt; omega
        have nI0 : (w.heap.size + 1 = v3.heap.size) = False := eq_false (by have := BI.lt; omega)
        have mI0 : w.heap.size + 1 < v3.heap.size := by have := BI.lt; omega
        have nI1 : (w.heap.size = v3.heap.size) = False := eq_false (by have := BI.lt; omega)
        have mI1 : w.heap.size < v3.heap.size := by have := BI.lt; omega
        refine Calls.mono (HR.out _) ?_
        rintro e v4 ⟨v, rfl, rfl, hm⟩
        clear kO kI nO0 mO0 nO1 mO1 nI0 mI0 nI1 mI1
        replace BO := BO.keep hm
        replace BI := BI.keep hm
        replace HB := HB.call hm
        clear hm
        have kO := BO.cell
        have kI := BI.cell
        have nO0 : (w.heap.size = v4.heap.size) = False := eq_false (by have := BO.lt; omega)
        have mO0 : w.heap.size < v4.heap.size := by have := BO.lt; omega
        have nO1 : (w.heap.size = v4.heap.size + 1) = False := eq_false (by have := BO.lt; omega)
        have mO1 : w.heap.size < v4.heap.size + 1 := by have := BO.lt; omega
        have nI0 : (w.heap.size + 1 = v4.heap.size) = False := eq_false (by have := BI.lt; omega)
        have mI0 : w.heap.size + 1 < v4.heap.size := by have := BI.lt; omega
        have nI1 : (w.heap.size = v4.heap.size) = False := eq_false (by have := BI.lt; omega)
        have mI1 : w.heap.size < v4.heap.size := by have := BI.lt; omega
        go_wp2_with fail
        have he := HF.out
        subst he
        go_ret
        exact ⟨_, rfl, rfl, HB⟩

set_option maxRecDepth 100000 in
set_option maxHeartbeats 1000000 in
theorem rev_any (k0 k1 k2 ox oy oz x y z : Nat) (w : World) : Ret Try.prog 10 #[.agg #[.float .f64 k0, .float .f64 k1, .float .f64 k2], .agg #[.float .f64 ox, .float .f64 oy, .float .f64 oz], .agg #[.float .f64 x, .float .f64 y, .float .f64 z]] w (isP (evV (upperB oz z) ⟨k0, k1, k2⟩)) := by
  unfold Ret
  have g1 : (FloatKind.f64.format.order oz 0 == some .gt) = (ford oz 0 == some .gt) := rfl
  have g2 : (FloatKind.f64.format.order z 0 == some .gt) = (ford z 0 == some .gt) := rfl
  unfold upperB
  generalize (ford oz 0 == some .gt) = p1 at *
  generalize (ford z 0 == some .gt) = p2 at *
  cases p1
  · go_enter Try.func10, Try.ntmps10
    go_wp2_with fail
    refine bodyPost_ret (v := .agg #[.float .f64 0, .float .f64 0, .float .f64 0]) (by simp [results, go_sem]) rfl ⟨_, rfl, ⟨0, 0, 0, rfl, ⟨Sm.refl _, Sm.refl _, Sm.refl _⟩, ⟨wd_none, wd_none, wd_none⟩⟩, ?_⟩
    repeat (refine Below.setCell ?_ (by simp <;> omega) _)
    exact ((((Below.refl _ _).alloc (by simp <;> omega) _).alloc (by simp <;> omega) _).alloc (by simp <;> omega) _).alloc (by simp <;> omega) _
  · cases p2
    · go_enter Try.func10, Try.ntmps10
      go_wp2_with fail
      refine bodyPost_ret (v := .agg #[.float .f64 0, .float .f64 0, .float .f64 0]) (by simp [results, go_sem]) rfl ⟨_, rfl, ⟨0, 0, 0, rfl, ⟨Sm.refl _, Sm.refl _, Sm.refl _⟩, ⟨wd_none, wd_none, wd_none⟩⟩, ?_⟩
      repeat (refine Below.setCell ?_ (by simp <;> omega) _)
      exact ((((Below.refl _ _).alloc (by simp <;> omega) _).alloc (by simp <;> omega) _).alloc (by simp <;> omega) _).alloc (by simp <;> omega) _
    · go_enter Try.func10, Try.ntmps10
      go_wp2_with fail
      refine upon_div (Sm.refl _) (Sm.refl _) ?_
      intro r1 n1 h1
      go_wp2_with fail
      refine upon_div (Sm.refl _) (Sm.refl _) ?_
      intro r2 n2 h2
      go_wp2_with fail
      refine upon_div (Sm.refl _) (Sm.refl _) ?_
      intro r3 n3 h3
      go_wp2_with fail
      refine bodyPost_ret (v := .agg #[.float .f64 r1, .float .f64 r2, .float .f64 r3]) (by simp [results, go_sem]) rfl ⟨_, rfl, ⟨r1, r2, r3, rfl, ⟨h1.sm, h2.sm, h3.sm⟩, ⟨h1.wd, h2.wd, h3.wd⟩⟩, ?_⟩
      repeat (refine Below.setCell ?_ (by simp <;> omega) _)
      repeat (refine below_dr ?_ _)
      exact ((((Below.refl _ _).alloc (by simp <;> omega) _).alloc (by simp <;> omega) _).alloc (by simp <;> omega) _).alloc (by simp <;> omega) _

end Go.Proofs.Ytagehemimlakpaa

namespace Go.Proofs.Ytagehemimlakpaa
open Go.RowKit Fl

theorem high_sm {a b b' : Nat} (h : Sm b b') : highF a b = highF a b' := by
  cases k : isN b
  · rw [h.eq k]
  · rw [high_nan k, high_nan (h.isN ▸ k)]
theorem low_sm {a b b' : Nat} (h : Sm b b') : lowF a b = lowF a b' := by
  cases k : isN b
  · rw [h.eq k]
  · rw [low_nan k, low_nan (h.isN ▸ k)]
theorem ordf (x y : Nat) : FloatKind.f64.format.order x y = ford x y := rfl
theorem leB_iff (x y : Nat) : leB x y = true ↔ ford x y = some .lt ∨ ford x y = some .eq := by
  unfold leB
  cases ford x y with
  | none => simp
  | some o => cases o <;> simp
theorem leB_off {x y : Nat} (h : ¬(FloatKind.f64.format.order x y = some .lt ∨ FloatKind.f64.format.order x y = some .eq)) : leB x y = false := by
  cases k : leB x y
  · rfl
  · exact absurd ((leB_iff x y).1 k) h
theorem leB_on {x y : Nat} (h : FloatKind.f64.format.order x y = some .lt ∨ FloatKind.f64.format.order x y = some .eq) : leB x y = true := (leB_iff x y).2 h
theorem leB_offB {x y : Nat} (h : (!FloatKind.f64.format.order x y == some .lt) = true ∧ (!FloatKind.f64.format.order x y == some .eq) = true) : leB x y = false := by
  refine leB_off fun k => ?_
  rcases k with k | k <;> rw [k] at h
  · exact absurd h.1 (by decide)
  · exact absurd h.2 (by decide)
theorem leB_onB {x y : Nat} (h : (!FloatKind.f64.format.order x y == some .lt) = false ∨ (!FloatKind.f64.format.order x y == some .eq) = false) : leB x y = true := by
  refine leB_on ?_
  rcases h with k | k
  · exact .inl (by simpa using k)
  · exact .inr (by simpa using k)
theorem leB_onC {x y : Nat} (h : (FloatKind.f64.format.order x y == some .lt) = true ∨ (FloatKind.f64.format.order x y == some .eq) = true) : leB x y = true := by
  unfold leB; rw [Bool.or_eq_true]; exact h
theorem leB_offC {x y : Nat} (h : (FloatKind.f64.format.order x y == some .lt) = false ∧ (FloatKind.f64.format.order x y == some .eq) = false) : leB x y = false := by
  unfold leB; rw [Bool.or_eq_false_iff]; exact h
theorem ne_off {x y : Nat} (h : (FloatKind.f64.format.order x y == some .eq) = true) : (ford x y != some .eq) = false := by
  rw [ordf] at h; unfold bne; rw [h]; rfl
theorem ne_on {x y : Nat} (h : (FloatKind.f64.format.order x y == some .eq) = false) : (ford x y != some .eq) = true := by
  rw [ordf] at h; unfold bne; rw [h]; rfl
theorem le2_off {x y x' y' : Nat} (h : (!FloatKind.f64.format.order x y == some .lt) = true ∧ (!FloatKind.f64.format.order x y == some .eq) = true ∨ (!FloatKind.f64.format.order x' y' == some .lt) = true ∧ (!FloatKind.f64.format.order x' y' == some .eq) = true) : (leB x y && leB x' y') = false := by
  rcases h with h | h
  · rw [leB_offB h]; rfl
  · rw [leB_offB h]; exact Bool.and_false _
theorem le2_off1 {x y x' y' : Nat} (h : ¬(FloatKind.f64.format.order x y = some .lt ∨ FloatKind.f64.format.order x y = some .eq)) : (leB x y && leB x' y') = false := by
  rw [leB_off h]; rfl
theorem le2_on {x y x' y' : Nat} (h : ((!FloatKind.f64.format.order x y == some .lt) = false ∨ (!FloatKind.f64.format.order x y == some .eq) = false) ∧ ((!FloatKind.f64.format.order x' y' == some .lt) = false ∨ (!FloatKind.f64.format.order x' y' == some .eq) = false)) : (leB x y && leB x' y') = true := by
  rw [leB_onB h.1, leB_onB h.2]; rfl
end Go.Proofs.Ytagehemimlakpaa

namespace Go.Proofs.Ytagehemimlakpaa
open Go.RowKit Fl

theorem exactly3 {x y z : Nat} {P : V3} (h : S3 x y z P) (hx : isN P.x = false) (hy : isN P.y = false) (hz : isN P.z = false) : x = P.x ∧ y = P.y ∧ z = P.z := ⟨(h.x.symm.eq hx).symm, (h.y.symm.eq hy).symm, (h.z.symm.eq hz).symm⟩
theorem fself {x : Nat} (h : isN x = false) : Op.floatEq .f64 x x = true := by
  show (ford x x == some .eq) = true
  rw [ford_refl h]; rfl
theorem aw_x : drX 0 0 = 0 := by decide +kernel
theorem aw_y : drY 0 0 = 0 := by decide +kernel
theorem aw_z : drZ 0 = 4607182418800017408 := by decide +kernel
theorem aw_u : upperB 4607182418800017408 4607182418800017408 = true := by decide +kernel
theorem aw_d : denL 4607182418800017408 0 0 4607182418800017408 = 4598175219545276416 := by decide +kernel
theorem aw_o : denL 4607182418800017408 0 0 13830554455654793216 = 0 := by decide +kernel
theorem aw_v : fdiv 4607182418800017408 piW = 4599405781057128579 := by decide +kernel
theorem aw_w : fdiv 0 piW = 0 := by decide +kernel
theorem aw_n : isN 4599405781057128579 = false ∧ isN 0 = false ∧ isN 4607182418800017408 = false := by decide +kernel
theorem aw_1 : (FloatKind.f64.format.order 4598175219545276416 4598175219545276416 == some .eq) = true := by decide +kernel
theorem aw_2 : (FloatKind.f64.format.order 4599405781057128579 4599400198643921191 == some .gt) = true := by decide +kernel
theorem aw_3 : (FloatKind.f64.format.order 4599405781057128579 4599418213042430673 == some .lt) = true := by decide +kernel
theorem aw_4 : (FloatKind.f64.format.order 0 0 == some .eq) = true := by decide +kernel
theorem aw_sam (w : World) : Ret Try.prog 12 #[.agg #[.float .f64 0, .float .f64 0, .float .f64 4607182418800017408], .float .f64 0, .float .f64 0] w (fun v => v = .tuple #[.agg #[.float .f64 0, .float .f64 0, .float .f64 4607182418800017408], .bool true]) :=
  (lsam_any 0 0 4607182418800017408 0 0 w).mono fun v e => by rw [e, aw_x, aw_y, aw_z, aw_u]; rfl

theorem aw_den (w : World) : Ret Try.prog 6 #[.agg #[.float .f64 0, .float .f64 0, .float .f64 4607182418800017408], .agg #[.float .f64 0, .float .f64 0, .float .f64 4607182418800017408]] w (fun v => v = .float .f64 4598175219545276416) :=
  (lden_any 0 0 4607182418800017408 0 0 4607182418800017408 w).mono fun v e => by rw [e, aw_d]

theorem aw_off (w : World) : Ret Try.prog 6 #[.agg #[.float .f64 0, .float .f64 0, .float .f64 4607182418800017408], .agg #[.float .f64 0, .float .f64 0, .float .f64 13830554455654793216]] w (fun v => v = .float .f64 0) :=
  (lden_any 0 0 4607182418800017408 0 0 13830554455654793216 w).mono fun v e => by rw [e, aw_o]

theorem aw_ev (w : World) : Ret Try.prog 9 #[.agg #[.float .f64 4607182418800017408, .float .f64 0, .float .f64 0], .agg #[.float .f64 0, .float .f64 0, .float .f64 4607182418800017408], .agg #[.float .f64 0, .float .f64 0, .float .f64 4607182418800017408]] w (fun v => v = .agg #[.float .f64 4599405781057128579, .float .f64 0, .float .f64 0]) :=
  (lev_any 4607182418800017408 0 0 0 0 4607182418800017408 0 0 4607182418800017408 w).mono fun v ⟨x, y, z, e, hs, _⟩ => by
    have hs' : S3 x y z ⟨4599405781057128579, 0, 0⟩ := by rw [aw_u] at hs; unfold evV at hs; simp only [cond_true, aw_v, aw_w] at hs; exact hs
    obtain ⟨e1, e2, e3⟩ := exactly3 hs' aw_n.1 aw_n.2.1 aw_n.2.1
    rw [e, e1, e2, e3]

set_option maxRecDepth 100000 in
set_option maxHeartbeats 1000000 in
theorem awake_any  (w : World) : Ret Try.prog 7 #[] w (fun v => v = .bool true) := by
  unfold Ret
  have HB : Cl w w := Below.refl _ _
  have q1 := aw_1
  have q2 := aw_2
  have q3 := aw_3
  have q4 := aw_4
  have o0 := fself aw_n.2.1
  have o1 := fself aw_n.2.2
  go_enter Try.func7, Try.ntmps7
  go_wp2_with fail
  refine Lp.settleC (fun w' => Lp.Bk w' (w.heap.size) #[.float .f64 0, .float .f64 0, .float .f64 4607182418800017408] 26 ∧ Cl w w') ⟨Lp.Bk.al _ _ _, (HB).alloc _⟩ ?_
  clear HB
  rintro v1 ⟨BU, HB⟩
  have kU := BU.cell
  have nU0 : (w.heap.size = v1.heap.size) = False := eq_false (by have := BU.lt; omega)
  have mU0 : w.heap.size < v1.heap.size := by have := BU.lt; omega
  have nU1 : (w.heap.size = v1.heap.size + 1) = False := eq_false (by have := BU.lt; omega)
  have mU1 : w.heap.size < v1.heap.size + 1 := by have := BU.lt; omega
  refine Calls.mono (aw_sam _) ?_
  rintro e v2 ⟨v, rfl, rfl, hm⟩
  clear kU nU0 mU0 nU1 mU1
  replace BU := BU.keep hm
  replace HB := HB.call hm
  clear hm
  have kU := BU.cell
  have nU0 : (w.heap.size = v2.heap.size) = False := eq_false (by have := BU.lt; omega)
  have mU0 : w.heap.size < v2.heap.size := by have := BU.lt; omega
  have nU1 : (w.heap.size = v2.heap.size + 1) = False := eq_false (by have := BU.lt; omega)
  have mU1 : w.heap.size < v2.heap.size + 1 := by have := BU.lt; omega
  go_wp2_with fail
  refine Lp.settleC (fun w' => Lp.Bk w' (w.heap.size) #[.float .f64 0, .float .f64 0, .float .f64 4607182418800017408] 26 ∧ Lp.Bk w' (v2.heap.size) #[.float .f64 0, .float .f64 0, .float .f64 4607182418800017408] 26 ∧ Cl w w') ⟨(BU).alo _, Lp.Bk.al _ _ _, (HB).alloc _⟩ ?_
  clear kU nU0 mU0 nU1 mU1
  clear BU HB
  rintro v3 ⟨BU, BI, HB⟩
  have kU := BU.cell
  have kI := BI.cell
  have nU0 : (w.heap.size = v3.heap.size) = False := eq_false (by have := BU.lt; omega)
  have mU0 : w.heap.size < v3.heap.size := by have := BU.lt; omega
  have nU1 : (w.heap.size = v3.heap.size + 1) = False := eq_false (by have := BU.lt; omega)
  have mU1 : w.heap.size < v3.heap.size + 1 := by have := BU.lt; omega
  have nI0 : (v2.heap.size = v3.heap.size) = False := eq_false (by have := BI.lt; omega)
  have mI0 : v2.heap.size < v3.heap.size := by have := BI.lt; omega
  have nI1 : (v2.heap.size = v3.heap.size + 1) = False := eq_false (by have := BI.lt; omega)
  have mI1 : v2.heap.size < v3.heap.size + 1 := by have := BI.lt; omega
  refine Calls.mono (aw_ev _) ?_
  rintro e v4 ⟨v, rfl, rfl, hm⟩
  clear kU kI nU0 mU0 nU1 mU1 nI0 mI0 nI1 mI1
  replace BU := BU.keep hm
  replace BI := BI.keep hm
  replace HB := HB.call hm
  clear hm
  have kU := BU.cell
  have kI := BI.cell
  have nU0 : (w.heap.size = v4.heap.size) = False := eq_false (by have := BU.lt; omega)
  have mU0 : w.heap.size < v4.heap.size := by have := BU.lt; omega
  have nU1 : (w.heap.size = v4.heap.size + 1) = False := eq_false (by have := BU.lt; omega)
  have mU1 : w.heap.size < v4.heap.size + 1 := by have := BU.lt; omega
  have nI0 : (v2.heap.size = v4.heap.size) = False := eq_false (by have := BI.lt; omega)
  have mI0 : v2.heap.size < v4.heap.size := by have := BI.lt; omega
  have nI1 : (v2.heap.size = v4.heap.size + 1) = False := eq_false (by have := BI.lt; omega)
  have mI1 : v2.heap.size < v4.heap.size + 1 := by have := BI.lt; omega
  go_wp2_with fail
  refine Lp.settleC (fun w' => Lp.Bk w' (w.heap.size) #[.float .f64 0, .float .f64 0, .float .f64 4607182418800017408] 26 ∧ Lp.Bk w' (v2.heap.size) #[.float .f64 0, .float .f64 0, .float .f64 4607182418800017408] 26 ∧ Lp.Bk w' (v4.heap.size) #[.float .f64 4599405781057128579, .float .f64 0, .float .f64 0] 24 ∧ Cl w w') ⟨(BU).alo _, (BI).alo _, Lp.Bk.al _ _ _, (HB).alloc _⟩ ?_
  clear kU kI nU0 mU0 nU1 mU1 nI0 mI0 nI1 mI1
  clear BU BI HB
  rintro v5 ⟨BU, BI, BE, HB⟩
  have kU := BU.cell
  have kI := BI.cell
  have kE := BE.cell
  have nU0 : (w.heap.size = v5.heap.size) = False := eq_false (by have := BU.lt; omega)
  have mU0 : w.heap.size < v5.heap.size := by have := BU.lt; omega
  have nU1 : (w.heap.size = v5.heap.size + 1) = False := eq_false (by have := BU.lt; omega)
  have mU1 : w.heap.size < v5.heap.size + 1 := by have := BU.lt; omega
  have nI0 : (v2.heap.size = v5.heap.size) = False := eq_false (by have := BI.lt; omega)
  have mI0 : v2.heap.size < v5.heap.size := by have := BI.lt; omega
  have nI1 : (v2.heap.size = v5.heap.size + 1) = False := eq_false (by have := BI.lt; omega)
  have mI1 : v2.heap.size < v5.heap.size + 1 := by have := BI.lt; omega
  have nE0 : (v4.heap.size = v5.heap.size) = False := eq_false (by have := BE.lt; omega)
  have mE0 : v4.heap.size < v5.heap.size := by have := BE.lt; omega
  have nE1 : (v4.heap.size = v5.heap.size + 1) = False := eq_false (by have := BE.lt; omega)
  have mE1 : v4.heap.size < v5.heap.size + 1 := by have := BE.lt; omega
  refine Calls.mono (aw_den _) ?_
  rintro e v6 ⟨v, rfl, rfl, hm⟩
  clear kU kI kE nU0 mU0 nU1 mU1 nI0 mI0 nI1 mI1 nE0 mE0 nE1 mE1
  replace BU := BU.keep hm
  replace BI := BI.keep hm
  replace BE := BE.keep hm
  replace HB := HB.call hm
  clear hm
  have kU := BU.cell
  have kI := BI.cell
  have kE := BE.cell
  have nU0 : (w.heap.size = v6.heap.size) = False := eq_false (by have := BU.lt; omega)
  have mU0 : w.heap.size < v6.heap.size := by have := BU.lt; omega
  have nU1 : (w.heap.size = v6.heap.size + 1) = False := eq_false (by have := BU.lt; omega)
  have mU1 : w.heap.size < v6.heap.size + 1 := by have := BU.lt; omega
  have nI0 : (v2.heap.size = v6.heap.size) = False := eq_false (by have := BI.lt; omega)
  have mI0 : v2.heap.size < v6.heap.size := by have := BI.lt; omega
  have nI1 : (v2.heap.size = v6.heap.size + 1) = False := eq_false (by have := BI.lt; omega)
  have mI1 : v2.heap.size < v6.heap.size + 1 := by have := BI.lt; omega
  have nE0 : (v4.heap.size = v6.heap.size) = False := eq_false (by have := BE.lt; omega)
  have mE0 : v4.heap.size < v6.heap.size := by have := BE.lt; omega
  have nE1 : (v4.heap.size = v6.heap.size + 1) = False := eq_false (by have := BE.lt; omega)
  have mE1 : v4.heap.size < v6.heap.size + 1 := by have := BE.lt; omega
  go_wp2_with fail
  refine Calls.mono (aw_off _) ?_
  rintro e v7 ⟨v, rfl, rfl, hm⟩
  clear kU kI kE nU0 mU0 nU1 mU1 nI0 mI0 nI1 mI1 nE0 mE0 nE1 mE1
  replace BU := BU.keep hm
  replace BI := BI.keep hm
  replace BE := BE.keep hm
  replace HB := HB.call hm
  clear hm
  have kU := BU.cell
  have kI := BI.cell
  have kE := BE.cell
  have nU0 : (w.heap.size = v7.heap.size) = False := eq_false (by have := BU.lt; omega)
  have mU0 : w.heap.size < v7.heap.size := by have := BU.lt; omega
  have nU1 : (w.heap.size = v7.heap.size + 1) = False := eq_false (by have := BU.lt; omega)
  have mU1 : w.heap.size < v7.heap.size + 1 := by have := BU.lt; omega
  have nI0 : (v2.heap.size = v7.heap.size) = False := eq_false (by have := BI.lt; omega)
  have mI0 : v2.heap.size < v7.heap.size := by have := BI.lt; omega
  have nI1 : (v2.heap.size = v7.heap.size + 1) = False := eq_false (by have := BI.lt; omega)
  have mI1 : v2.heap.size < v7.heap.size + 1 := by have := BI.lt; omega
  have nE0 : (v4.heap.size = v7.heap.size) = False := eq_false (by have := BE.lt; omega)
  have mE0 : v4.heap.size < v7.heap.size := by have := BE.lt; omega
  have nE1 : (v4.heap.size = v7.heap.size + 1) = False := eq_false (by have := BE.lt; omega)
  have mE1 : v4.heap.size < v7.heap.size + 1 := by have := BE.lt; omega
  go_wp2_with fail
  go_ret
  exact ⟨_, rfl, rfl, HB⟩

end Go.Proofs.Ytagehemimlakpaa

namespace Go.Proofs.Ytagehemimlakpaa
open Go.RowKit Fl

theorem eqv_num {r z : Nat} (h : Eqv r z) (hz : Num z) : r = z := Sm.eq h.sm (by rw [h.sm.isN]; exact not_nan_num hz)
set_option maxRecDepth 100000 in
set_option maxHeartbeats 1000000 in
theorem rdisk_any (u v : Nat) (w : World) : Calls Try.prog 13 #[.float .f64 u, .float .f64 v] w fun e w' => e = .returned (.tuple #[.float .f64 (fmul (secX (cleanF v)) (fsqrt (cleanF u))), .float .f64 (fmul (secY (cleanF v)) (fsqrt (cleanF u))), .float .f64 (fmul two1 (densF (secF (cleanF v))))]) ∧ w' = w := by
  have HA := hid (fun w => rsector_any v w)
  have U := (sect_u v).unit
  have HC := hid (rclean_any u)
  obtain ⟨nc, c0, c1⟩ := clean_num u
  obtain ⟨nr, _, _⟩ := root_c nc c0 c1
  have HR := hid (root_num nc c0)
  have np := (sect_u v).np.1
  have hx : ∀ w, _ := fun w => run_mul_num (P := Try.prog) w 22 U.nx nr
  have hy : ∀ w, _ := fun w => run_mul_num (P := Try.prog) w 22 U.ny nr
  have hp : ∀ w, (binOp .mul 22 (.float .f64 (densF (secF (cleanF v)))) (.float .f64 4611686018427387904)).run Try.prog w = .ok (.float .f64 (fmul two1 (densF (secF (cleanF v))))) w := fun w => by rw [fmul_comm num_two1 np]; exact run_mul_num w 22 np num_two1
  clear U nc c0 c1 nr np
  generalize densF (secF (cleanF v)) = p at *
  generalize secX (cleanF v) = X at *
  generalize secY (cleanF v) = Y at *
  generalize cleanF u = c at *
  generalize fsqrt c = r at *
  generalize fmul X r = X1 at *
  generalize fmul Y r = Y1 at *
  generalize fmul two1 p = q at *
  go_enter Try.func13, Try.ntmps13
  go_wp2_with fail
  refine Calls.mono (HC.out _) ?_
  rintro e w' ⟨rfl, hw⟩
  obtain rfl := hw.symm
  clear hw
  go_wp2_with fail
  refine Calls.mono (HR.out _) ?_
  rintro e w' ⟨rfl, hw⟩
  obtain rfl := hw.symm
  clear hw
  go_wp2_with fail
  refine Calls.mono (HA.out _) ?_
  rintro e w' ⟨rfl, hw⟩
  obtain rfl := hw.symm
  clear hw
  go_wp2_with fail
  exact bodyPost_ret (v := .tuple #[.float .f64 X1, .float .f64 Y1, .float .f64 q]) (by simp [results, go_sem]) rfl ⟨rfl, rfl⟩

end Go.Proofs.Ytagehemimlakpaa
