/- The walk of LambertDraws. A vector that comes in, opened and shut. -/
import Derived.ProofKit
import Derived.Lib.SmallJoins
import Derived.Test.YtagehemimlakpaaRows
import Derived.Test.YtagehemimlakpaaG10
import Derived.Test.YtagehemimlakpaaG4
namespace Go.Proofs.Ytagehemimlakpaa
open Go.RowKit Fl

theorem rdisk_e (u v : Nat) (w : World) : Calls Try.prog 13 #[.float .f64 u, .float .f64 v] w fun e w' => e = .returned (.tuple #[.float .f64 (drX u v), .float .f64 (drY u v), .float .f64 (drQ v)]) ∧ w' = w := rdisk_any u v w

theorem draws_near (o u v : Nat) (h1 : (ford o 0 == some .gt) = true) (h2 : (ford (drZ u) 0 == some .gt) = true) (he : (ford (cleanF u) 0 == some .eq) = false) :
    (FloatKind.f64.format.order (fsub (denL o (drX u v) (drY u v) (drZ u)) (fmul (drQ v) (drZ u))) 4427038433705197568 == some .lt || FloatKind.f64.format.order (fsub (denL o (drX u v) (drY u v) (drZ u)) (fmul (drQ v) (drZ u))) 4427038433705197568 == some .eq) = true ∧
    (FloatKind.f64.format.order (fsub (denL o (drX u v) (drY u v) (drZ u)) (fmul (drQ v) (drZ u))) 13650410470559973376 == some .gt || FloatKind.f64.format.order (fsub (denL o (drX u v) (drY u v) (drZ u)) (fmul (drQ v) (drZ u))) 13650410470559973376 == some .eq) = true := by
  obtain ⟨nc, c0, c1⟩ := clean_num u
  have hc : 0 < val (cleanF u) := by
    rcases Rat.le_iff_lt_or_eq.1 c0 with k | k
    · exact k
    · rw [ord_eq nc num_zero (by rw [val_zero]; exact k.symm)] at he
      cases he
  obtain ⟨n, a⟩ := drawn_near u v hc
  have e : denL o (drX u v) (drY u v) (drZ u) = denP (drX u v) (drY u v) (drZ u) := by
    unfold denL upperB
    rw [h1, h2, num_fin n]; rfl
  rw [e]
  obtain ⟨k1, k2⟩ := near40 n (drawn_num u v).2.2.2 a
  rw [← geB_eq] at k2
  exact ⟨k1, k2⟩
set_option maxRecDepth 100000 in
set_option maxHeartbeats 2000000 in
theorem draws_walk (ox oy oz u v : Nat) (w : World) : Ret Try.prog 4 #[.agg #[.float .f64 ox, .float .f64 oy, .float .f64 oz], .float .f64 u, .float .f64 v] w (fun v => v = .bool true) := by
  unfold Ret
  have HS := hid (fun w => lsam_any ox oy oz u v w)
  have HK := hid (fun w => rdisk_e u v w)
  have HC := hid (fun w => rclean_any u w)
  have HD := hid (fun w => lden_any ox oy oz (drX u v) (drY u v) (drZ u) w)
  obtain ⟨nc, c0, c1⟩ := clean_num u
  obtain ⟨nd, d0, _⟩ := unit_sub nc c0 (by grind)
  have HR : Hid (∀ w, Calls Try.prog 14 #[.float .f64 (fsub Fl.w1 (cleanF u))] w fun e w' => e = .returned (.float .f64 (drZ u)) ∧ w' = w) := root_num nd d0
  obtain ⟨nx, ny, nq, nqz⟩ := drawn_num u v
  obtain ⟨nz, _, _⟩ := height u
  have hs : ∀ w, (binOp .sub 22 (.float .f64 4607182418800017408) (.float .f64 (cleanF u))).run Try.prog w = .ok (.float .f64 (fsub Fl.w1 (cleanF u))) w := fun w => run_sub_num w 22 num_w1 nc
  have hm : ∀ w, _ := fun w => run_mul_num (P := Try.prog) w 22 nq nz
  have hd : ∀ w, _ := fun w => run_sub_num (P := Try.prog) w 22 (num_of_fin (den_num oz (drX u v) (drY u v) (drZ u))) nqz
  have f1 := fself (not_nan_num nx)
  have f2 := fself (not_nan_num ny)
  have f3 := fself (not_nan_num nz)
  have f0 := fself aw_n.2.1
  have HN := hid (draws_near oz u v)
  have g1 : (FloatKind.f64.format.order oz 0 == some .gt) = (ford oz 0 == some .gt) := rfl
  have g2 : (FloatKind.f64.format.order (drZ u) 0 == some .gt) = (ford (drZ u) 0 == some .gt) := rfl
  have g3 : (FloatKind.f64.format.order (cleanF u) 0 == some .eq) = (ford (cleanF u) 0 == some .eq) := rfl
  clear nc c0 c1 nd d0 nx ny nq nqz nz
  unfold upperB at HS
  generalize fsub (denL oz (drX u v) (drY u v) (drZ u)) (fmul (drQ v) (drZ u)) = d at *
  generalize denL oz (drX u v) (drY u v) (drZ u) = P at *
  generalize (ford oz 0 == some .gt) = b1 at *
  generalize (ford (drZ u) 0 == some .gt) = b2 at *
  generalize (ford (cleanF u) 0 == some .eq) = b3 at *
  generalize fmul (drQ v) (drZ u) = qz at *
  generalize drQ v = q at *
  generalize drX u v = x at *
  generalize drY u v = y at *
  generalize drZ u = z at *
  generalize cleanF u = c at *
  generalize fsub Fl.w1 c = k at *
  cases b1
  · replace HS : Hid (∀ w, Ret Try.prog 12 #[.agg #[.float .f64 ox, .float .f64 oy, .float .f64 oz], .float .f64 u, .float .f64 v] w (fun e => e = .tuple #[.agg #[.float .f64 0, .float .f64 0, .float .f64 0], .bool false])) := HS
    clear HN
    go_enter Try.func4, Try.ntmps4
    go_wp2_with fail
    refine Lp.settleC (fun w' => Lp.Bk w' (w.heap.size) #[.float .f64 ox, .float .f64 oy, .float .f64 oz] 26 ∧ Cl w w') ⟨(Lp.Bk.al _ _ _), (Below.refl _ _).alloc (by simp <;> omega) _⟩ ?_
    rintro v1 ⟨BO, HB⟩
    have kO := BO.cell
    have nO0 : (w.heap.size = v1.heap.size) = False := eq_false (by have := BO.lt; omega)
    have mO0 : w.heap.size < v1.heap.size := by have := BO.lt; omega
    have nO1 : (w.heap.size = v1.heap.size + 1) = False := eq_false (by have := BO.lt; omega)
    have mO1 : w.heap.size < v1.heap.size + 1 := by have := BO.lt; omega
    refine Calls.mono (HS.out _) ?_
    rintro e v2 ⟨v, rfl, rfl, hm⟩
    clear kO nO0 mO0 nO1 mO1
    replace BO := BO.keep hm
    replace HB := HB.call hm
    clear hm
    have kO := BO.cell
    have nO0 : (w.heap.size = v2.heap.size) = False := eq_false (by have := BO.lt; omega)
    have mO0 : w.heap.size < v2.heap.size := by have := BO.lt; omega
    have nO1 : (w.heap.size = v2.heap.size + 1) = False := eq_false (by have := BO.lt; omega)
    have mO1 : w.heap.size < v2.heap.size + 1 := by have := BO.lt; omega
    go_wp2_with fail
    refine Lp.settleC (fun w' => Lp.Bk w' (w.heap.size) #[.float .f64 ox, .float .f64 oy, .float .f64 oz] 26 ∧ Lp.Bk w' (v2.heap.size) #[.float .f64 0, .float .f64 0, .float .f64 0] 26 ∧ Cl w w') ⟨(BO).alo _, Lp.Bk.al _ _ _, (HB).alloc _⟩ ?_
    clear kO nO0 mO0 nO1 mO1
    clear BO HB
    rintro v3 ⟨BO, BI, HB⟩
    have kO := BO.cell
    have kI := BI.cell
    have nO0 : (w.heap.size = v3.heap.size) = False := eq_false (by have := BO.lt; omega)
    have mO0 : w.heap.size < v3.heap.size := by have := BO.lt; omega
    have nO1 : (w.heap.size = v3.heap.size + 1) = False := eq_false (by have := BO.lt; omega)
    have mO1 : w.heap.size < v3.heap.size + 1 := by have := BO.lt; omega
    have nI0 : (v2.heap.size = v3.heap.size) = False := eq_false (by have := BI.lt; omega)
    have mI0 : v2.heap.size < v3.heap.size := by have := BI.lt; omega
    have nI1 : (v2.heap.size = v3.heap.size + 1) = False := eq_false (by have := BI.lt; omega)
    have mI1 : v2.heap.size < v3.heap.size + 1 := by have := BI.lt; omega
    refine Calls.mono (HK.out _) ?_
    rintro e w' ⟨rfl, hw⟩
    obtain rfl := hw.symm
    clear hw
    go_wp2_with fail
    refine Calls.mono (HC.out _) ?_
    rintro e w' ⟨rfl, hw⟩
    obtain rfl := hw.symm
    clear hw
    go_wp2_with fail
    refine Calls.mono (HR.out _) ?_
    rintro e w' ⟨rfl, hw⟩
    obtain rfl := hw.symm
    clear hw
    go_wp2_with fail
    refine Calls.mono (awake_any _) ?_
    rintro e v4 ⟨v, rfl, rfl, hm⟩
    clear kO kI nO0 mO0 nO1 mO1 nI0 mI0 nI1 mI1
    replace BO := BO.keep hm
    replace BI := BI.keep hm
    replace HB := HB.call hm
    clear hm
    have kO := BO.cell
    have kI := BI.cell
    have nO0 : (w.heap.size = v4.heap.size) = False := eq_false (by have := BO.lt; omega)
    have mO0 : w.heap.size < v4.heap.size := by have := BO.lt; omega
    have nO1 : (w.heap.size = v4.heap.size + 1) = False := eq_false (by have := BO.lt; omega)
    have mO1 : w.heap.size < v4.heap.size + 1 := by have := BO.lt; omega
    have nI0 : (v2.heap.size = v4.heap.size) = False := eq_false (by have := BI.lt; omega)
    have mI0 : v2.heap.size < v4.heap.size := by have := BI.lt; omega
    have nI1 : (v2.heap.size = v4.heap.size + 1) = False := eq_false (by have := BI.lt; omega)
    have mI1 : v2.heap.size < v4.heap.size + 1 := by have := BI.lt; omega
    go_wp2_with fail
    go_ret
    exact ⟨_, rfl, rfl, HB⟩
  · cases b2
    · replace HS : Hid (∀ w, Ret Try.prog 12 #[.agg #[.float .f64 ox, .float .f64 oy, .float .f64 oz], .float .f64 u, .float .f64 v] w (fun e => e = .tuple #[.agg #[.float .f64 0, .float .f64 0, .float .f64 0], .bool false])) := HS
      clear HN
      go_enter Try.func4, Try.ntmps4
      go_wp2_with fail
      refine Lp.settleC (fun w' => Lp.Bk w' (w.heap.size) #[.float .f64 ox, .float .f64 oy, .float .f64 oz] 26 ∧ Cl w w') ⟨(Lp.Bk.al _ _ _), (Below.refl _ _).alloc (by simp <;> omega) _⟩ ?_
      rintro v1 ⟨BO, HB⟩
      have kO := BO.cell
      have nO0 : (w.heap.size = v1.heap.size) = False := eq_false (by have := BO.lt; omega)
      have mO0 : w.heap.size < v1.heap.size := by have := BO.lt; omega
      have nO1 : (w.heap.size = v1.heap.size + 1) = False := eq_false (by have := BO.lt; omega)
      have mO1 : w.heap.size < v1.heap.size + 1 := by have := BO.lt; omega
      refine Calls.mono (HS.out _) ?_
      rintro e v2 ⟨v, rfl, rfl, hm⟩
      clear kO nO0 mO0 nO1 mO1
      replace BO := BO.keep hm
      replace HB := HB.call hm
      clear hm
      have kO := BO.cell
      have nO0 : (w.heap.size = v2.heap.size) = False := eq_false (by have := BO.lt; omega)
      have mO0 : w.heap.size < v2.heap.size := by have := BO.lt; omega
      have nO1 : (w.heap.size = v2.heap.size + 1) = False := eq_false (by have := BO.lt; omega)
      have mO1 : w.heap.size < v2.heap.size + 1 := by have := BO.lt; omega
      go_wp2_with fail
      refine Lp.settleC (fun w' => Lp.Bk w' (w.heap.size) #[.float .f64 ox, .float .f64 oy, .float .f64 oz] 26 ∧ Lp.Bk w' (v2.heap.size) #[.float .f64 0, .float .f64 0, .float .f64 0] 26 ∧ Cl w w') ⟨(BO).alo _, Lp.Bk.al _ _ _, (HB).alloc _⟩ ?_
      clear kO nO0 mO0 nO1 mO1
      clear BO HB
      rintro v3 ⟨BO, BI, HB⟩
      have kO := BO.cell
      have kI := BI.cell
      have nO0 : (w.heap.size = v3.heap.size) = False := eq_false (by have := BO.lt; omega)
      have mO0 : w.heap.size < v3.heap.size := by have := BO.lt; omega
      have nO1 : (w.heap.size = v3.heap.size + 1) = False := eq_false (by have := BO.lt; omega)
      have mO1 : w.heap.size < v3.heap.size + 1 := by have := BO.lt; omega
      have nI0 : (v2.heap.size = v3.heap.size) = False := eq_false (by have := BI.lt; omega)
      have mI0 : v2.heap.size < v3.heap.size := by have := BI.lt; omega
      have nI1 : (v2.heap.size = v3.heap.size + 1) = False := eq_false (by have := BI.lt; omega)
      have mI1 : v2.heap.size < v3.heap.size + 1 := by have := BI.lt; omega
      refine Calls.mono (HK.out _) ?_
      rintro e w' ⟨rfl, hw⟩
      obtain rfl := hw.symm
      clear hw
      go_wp2_with fail
      refine Calls.mono (HC.out _) ?_
      rintro e w' ⟨rfl, hw⟩
      obtain rfl := hw.symm
      clear hw
      go_wp2_with fail
      refine Calls.mono (HR.out _) ?_
      rintro e w' ⟨rfl, hw⟩
      obtain rfl := hw.symm
      clear hw
      go_wp2_with fail
      refine Calls.mono (awake_any _) ?_
      rintro e v4 ⟨v, rfl, rfl, hm⟩
      clear kO kI nO0 mO0 nO1 mO1 nI0 mI0 nI1 mI1
      replace BO := BO.keep hm
      replace BI := BI.keep hm
      replace HB := HB.call hm
      clear hm
      have kO := BO.cell
      have kI := BI.cell
      have nO0 : (w.heap.size = v4.heap.size) = False := eq_false (by have := BO.lt; omega)
      have mO0 : w.heap.size < v4.heap.size := by have := BO.lt; omega
      have nO1 : (w.heap.size = v4.heap.size + 1) = False := eq_false (by have := BO.lt; omega)
      have mO1 : w.heap.size < v4.heap.size + 1 := by have := BO.lt; omega
      have nI0 : (v2.heap.size = v4.heap.size) = False := eq_false (by have := BI.lt; omega)
      have mI0 : v2.heap.size < v4.heap.size := by have := BI.lt; omega
      have nI1 : (v2.heap.size = v4.heap.size + 1) = False := eq_false (by have := BI.lt; omega)
      have mI1 : v2.heap.size < v4.heap.size + 1 := by have := BI.lt; omega
      go_wp2_with fail
      go_ret
      exact ⟨_, rfl, rfl, HB⟩
    · cases b3
      · replace HS : Hid (∀ w, Ret Try.prog 12 #[.agg #[.float .f64 ox, .float .f64 oy, .float .f64 oz], .float .f64 u, .float .f64 v] w (fun e => e = .tuple #[.agg #[.float .f64 x, .float .f64 y, .float .f64 z], .bool true])) := HS
        obtain ⟨l1, l2⟩ := HN.out (by first | rfl | trivial) (by first | rfl | trivial) (by first | rfl | trivial)
        clear HN
        go_enter Try.func4, Try.ntmps4
        go_wp2_with fail
        refine Lp.settleC (fun w' => Lp.Bk w' (w.heap.size) #[.float .f64 ox, .float .f64 oy, .float .f64 oz] 26 ∧ Cl w w') ⟨(Lp.Bk.al _ _ _), (Below.refl _ _).alloc (by simp <;> omega) _⟩ ?_
        rintro v1 ⟨BO, HB⟩
        have kO := BO.cell
        have nO0 : (w.heap.size = v1.heap.size) = False := eq_false (by have := BO.lt; omega)
        have mO0 : w.heap.size < v1.heap.size := by have := BO.lt; omega
        have nO1 : (w.heap.size = v1.heap.size + 1) = False := eq_false (by have := BO.lt; omega)
        have mO1 : w.heap.size < v1.heap.size + 1 := by have := BO.lt; omega
        refine Calls.mono (HS.out _) ?_
        rintro e v2 ⟨v, rfl, rfl, hm⟩
        clear kO nO0 mO0 nO1 mO1
        replace BO := BO.keep hm
        replace HB := HB.call hm
        clear hm
        have kO := BO.cell
        have nO0 : (w.heap.size = v2.heap.size) = False := eq_false (by have := BO.lt; omega)
        have mO0 : w.heap.size < v2.heap.size := by have := BO.lt; omega
        have nO1 : (w.heap.size = v2.heap.size + 1) = False := eq_false (by have := BO.lt; omega)
        have mO1 : w.heap.size < v2.heap.size + 1 := by have := BO.lt; omega
        go_wp2_with fail
        refine Lp.settleC (fun w' => Lp.Bk w' (w.heap.size) #[.float .f64 ox, .float .f64 oy, .float .f64 oz] 26 ∧ Lp.Bk w' (v2.heap.size) #[.float .f64 x, .float .f64 y, .float .f64 z] 26 ∧ Cl w w') ⟨(BO).alo _, Lp.Bk.al _ _ _, (HB).alloc _⟩ ?_
        clear kO nO0 mO0 nO1 mO1
        clear BO HB
        rintro v3 ⟨BO, BI, HB⟩
        have kO := BO.cell
        have kI := BI.cell
        have nO0 : (w.heap.size = v3.heap.size) = False := eq_false (by have := BO.lt; omega)
        have mO0 : w.heap.size < v3.heap.size := by have := BO.lt; omega
        have nO1 : (w.heap.size = v3.heap.size + 1) = False := eq_false (by have := BO.lt; omega)
        have mO1 : w.heap.size < v3.heap.size + 1 := by have := BO.lt; omega
        have nI0 : (v2.heap.size = v3.heap.size) = False := eq_false (by have := BI.lt; omega)
        have mI0 : v2.heap.size < v3.heap.size := by have := BI.lt; omega
        have nI1 : (v2.heap.size = v3.heap.size + 1) = False := eq_false (by have := BI.lt; omega)
        have mI1 : v2.heap.size < v3.heap.size + 1 := by have := BI.lt; omega
        refine Calls.mono (HK.out _) ?_
        rintro e w' ⟨rfl, hw⟩
        obtain rfl := hw.symm
        clear hw
        go_wp2_with fail
        refine Calls.mono (HC.out _) ?_
        rintro e w' ⟨rfl, hw⟩
        obtain rfl := hw.symm
        clear hw
        go_wp2_with fail
        refine Calls.mono (HR.out _) ?_
        rintro e w' ⟨rfl, hw⟩
        obtain rfl := hw.symm
        clear hw
        go_wp2_with fail
        refine Calls.mono (HD.out _) ?_
        rintro e v4 ⟨v, rfl, rfl, hm⟩
        clear kO kI nO0 mO0 nO1 mO1 nI0 mI0 nI1 mI1
        replace BO := BO.keep hm
        replace BI := BI.keep hm
        replace HB := HB.call hm
        clear hm
        have kO := BO.cell
        have kI := BI.cell
        have nO0 : (w.heap.size = v4.heap.size) = False := eq_false (by have := BO.lt; omega)
        have mO0 : w.heap.size < v4.heap.size := by have := BO.lt; omega
        have nO1 : (w.heap.size = v4.heap.size + 1) = False := eq_false (by have := BO.lt; omega)
        have mO1 : w.heap.size < v4.heap.size + 1 := by have := BO.lt; omega
        have nI0 : (v2.heap.size = v4.heap.size) = False := eq_false (by have := BI.lt; omega)
        have mI0 : v2.heap.size < v4.heap.size := by have := BI.lt; omega
        have nI1 : (v2.heap.size = v4.heap.size + 1) = False := eq_false (by have := BI.lt; omega)
        have mI1 : v2.heap.size < v4.heap.size + 1 := by have := BI.lt; omega
        go_wp2_with fail
        refine Calls.mono (awake_any _) ?_
        rintro e v5 ⟨v, rfl, rfl, hm⟩
        clear kO kI nO0 mO0 nO1 mO1 nI0 mI0 nI1 mI1
        replace BO := BO.keep hm
        replace BI := BI.keep hm
        replace HB := HB.call hm
        clear hm
        have kO := BO.cell
        have kI := BI.cell
        have nO0 : (w.heap.size = v5.heap.size) = False := eq_false (by have := BO.lt; omega)
        have mO0 : w.heap.size < v5.heap.size := by have := BO.lt; omega
        have nO1 : (w.heap.size = v5.heap.size + 1) = False := eq_false (by have := BO.lt; omega)
        have mO1 : w.heap.size < v5.heap.size + 1 := by have := BO.lt; omega
        have nI0 : (v2.heap.size = v5.heap.size) = False := eq_false (by have := BI.lt; omega)
        have mI0 : v2.heap.size < v5.heap.size := by have := BI.lt; omega
        have nI1 : (v2.heap.size = v5.heap.size + 1) = False := eq_false (by have := BI.lt; omega)
        have mI1 : v2.heap.size < v5.heap.size + 1 := by have := BI.lt; omega
        go_wp2_with fail
        refine Calls.mono (HC.out _) ?_
        rintro e w' ⟨rfl, hw⟩
        obtain rfl := hw.symm
        clear hw
        go_wp2_with fail
        go_ret
        exact ⟨_, rfl, rfl, HB⟩
      · replace HS : Hid (∀ w, Ret Try.prog 12 #[.agg #[.float .f64 ox, .float .f64 oy, .float .f64 oz], .float .f64 u, .float .f64 v] w (fun e => e = .tuple #[.agg #[.float .f64 x, .float .f64 y, .float .f64 z], .bool true])) := HS
        clear HN
        go_enter Try.func4, Try.ntmps4
        go_wp2_with fail
        refine Lp.settleC (fun w' => Lp.Bk w' (w.heap.size) #[.float .f64 ox, .float .f64 oy, .float .f64 oz] 26 ∧ Cl w w') ⟨(Lp.Bk.al _ _ _), (Below.refl _ _).alloc (by simp <;> omega) _⟩ ?_
        rintro v1 ⟨BO, HB⟩
        have kO := BO.cell
        have nO0 : (w.heap.size = v1.heap.size) = False := eq_false (by have := BO.lt; omega)
        have mO0 : w.heap.size < v1.heap.size := by have := BO.lt; omega
        have nO1 : (w.heap.size = v1.heap.size + 1) = False := eq_false (by have := BO.lt; omega)
        have mO1 : w.heap.size < v1.heap.size + 1 := by have := BO.lt; omega
        refine Calls.mono (HS.out _) ?_
        rintro e v2 ⟨v, rfl, rfl, hm⟩
        clear kO nO0 mO0 nO1 mO1
        replace BO := BO.keep hm
        replace HB := HB.call hm
        clear hm
        have kO := BO.cell
        have nO0 : (w.heap.size = v2.heap.size) = False := eq_false (by have := BO.lt; omega)
        have mO0 : w.heap.size < v2.heap.size := by have := BO.lt; omega
        have nO1 : (w.heap.size = v2.heap.size + 1) = False := eq_false (by have := BO.lt; omega)
        have mO1 : w.heap.size < v2.heap.size + 1 := by have := BO.lt; omega
        go_wp2_with fail
        refine Lp.settleC (fun w' => Lp.Bk w' (w.heap.size) #[.float .f64 ox, .float .f64 oy, .float .f64 oz] 26 ∧ Lp.Bk w' (v2.heap.size) #[.float .f64 x, .float .f64 y, .float .f64 z] 26 ∧ Cl w w') ⟨(BO).alo _, Lp.Bk.al _ _ _, (HB).alloc _⟩ ?_
        clear kO nO0 mO0 nO1 mO1
        clear BO HB
        rintro v3 ⟨BO, BI, HB⟩
        have kO := BO.cell
        have kI := BI.cell
        have nO0 : (w.heap.size = v3.heap.size) = False := eq_false (by have := BO.lt; omega)
        have mO0 : w.heap.size < v3.heap.size := by have := BO.lt; omega
        have nO1 : (w.heap.size = v3.heap.size + 1) = False := eq_false (by have := BO.lt; omega)
        have mO1 : w.heap.size < v3.heap.size + 1 := by have := BO.lt; omega
        have nI0 : (v2.heap.size = v3.heap.size) = False := eq_false (by have := BI.lt; omega)
        have mI0 : v2.heap.size < v3.heap.size := by have := BI.lt; omega
        have nI1 : (v2.heap.size = v3.heap.size + 1) = False := eq_false (by have := BI.lt; omega)
        have mI1 : v2.heap.size < v3.heap.size + 1 := by have := BI.lt; omega
        refine Calls.mono (HK.out _) ?_
        rintro e w' ⟨rfl, hw⟩
        obtain rfl := hw.symm
        clear hw
        go_wp2_with fail
        refine Calls.mono (HC.out _) ?_
        rintro e w' ⟨rfl, hw⟩
        obtain rfl := hw.symm
        clear hw
        go_wp2_with fail
        refine Calls.mono (HR.out _) ?_
        rintro e w' ⟨rfl, hw⟩
        obtain rfl := hw.symm
        clear hw
        go_wp2_with fail
        refine Calls.mono (HD.out _) ?_
        rintro e v4 ⟨v, rfl, rfl, hm⟩
        clear kO kI nO0 mO0 nO1 mO1 nI0 mI0 nI1 mI1
        replace BO := BO.keep hm
        replace BI := BI.keep hm
        replace HB := HB.call hm
        clear hm
        have kO := BO.cell
        have kI := BI.cell
        have nO0 : (w.heap.size = v4.heap.size) = False := eq_false (by have := BO.lt; omega)
        have mO0 : w.heap.size < v4.heap.size := by have := BO.lt; omega
        have nO1 : (w.heap.size = v4.heap.size + 1) = False := eq_false (by have := BO.lt; omega)
        have mO1 : w.heap.size < v4.heap.size + 1 := by have := BO.lt; omega
        have nI0 : (v2.heap.size = v4.heap.size) = False := eq_false (by have := BI.lt; omega)
        have mI0 : v2.heap.size < v4.heap.size := by have := BI.lt; omega
        have nI1 : (v2.heap.size = v4.heap.size + 1) = False := eq_false (by have := BI.lt; omega)
        have mI1 : v2.heap.size < v4.heap.size + 1 := by have := BI.lt; omega
        go_wp2_with fail
        refine Calls.mono (awake_any _) ?_
        rintro e v5 ⟨v, rfl, rfl, hm⟩
        clear kO kI nO0 mO0 nO1 mO1 nI0 mI0 nI1 mI1
        replace BO := BO.keep hm
        replace BI := BI.keep hm
        replace HB := HB.call hm
        clear hm
        have kO := BO.cell
        have kI := BI.cell
        have nO0 : (w.heap.size = v5.heap.size) = False := eq_false (by have := BO.lt; omega)
        have mO0 : w.heap.size < v5.heap.size := by have := BO.lt; omega
        have nO1 : (w.heap.size = v5.heap.size + 1) = False := eq_false (by have := BO.lt; omega)
        have mO1 : w.heap.size < v5.heap.size + 1 := by have := BO.lt; omega
        have nI0 : (v2.heap.size = v5.heap.size) = False := eq_false (by have := BI.lt; omega)
        have mI0 : v2.heap.size < v5.heap.size := by have := BI.lt; omega
        have nI1 : (v2.heap.size = v5.heap.size + 1) = False := eq_false (by have := BI.lt; omega)
        have mI1 : v2.heap.size < v5.heap.size + 1 := by have := BI.lt; omega
        go_wp2_with fail
        refine Calls.mono (HC.out _) ?_
        rintro e w' ⟨rfl, hw⟩
        obtain rfl := hw.symm
        clear hw
        go_wp2_with fail
        go_ret
        exact ⟨_, rfl, rfl, HB⟩

end Go.Proofs.Ytagehemimlakpaa

namespace Go.Proofs.Ytagehemimlakpaa.Fl
section
variable {H : Type} {enc : TypeId × Value → H} {P : Program} {w : World} {base : Nat} {spare : Nat → Bool} {held : Bool} {fuel : Nat} {t : TypeId} {cs : List Value} {x : DataW H × List MemPlace}
theorem trod_float {k : FloatKind} (ht : P.underlying t = some (.float k)) (h : DataW.trod enc P w base spare held fuel t cs = some x) : ∃ n, cs = [.float k n] ∧ x = (.lit (.float k n), []) ∧ (Lit.float k n).wf = true := by
  cases fuel with
  | zero => simp [DataW.trod] at h
  | succ n =>
    unfold DataW.trod at h
    rw [ht] at h
    split at h <;> simp_all
end
end Go.Proofs.Ytagehemimlakpaa.Fl
namespace Go.Proofs.Ytagehemimlakpaa
open Go.ChangeShapes Go.WideShapes Go.ChangeAt Go.RowKit Fl Go.Joins

theorem Try.own : ownKnob Try.prog.godebug = none := by kernel_rfl
theorem Try.laidOut : laidOutB Try.prog = true := by kernel_rfl

theorem Try.cells26 : Try.prog.cellsOf 26 = 3 := by kernel_rfl

set_option maxRecDepth 100000 in
theorem open_vec {H : Type} {enc : TypeId × Value → H} {W : World} {base : Nat} {spare : Nat → Bool} {held : Bool} {r : Reach} {b0 : Nat} {v : Value} {d : DataW H} {ps : List MemPlace} (hv : Value.okWide Try.prog W r b0 26 v) (h : DataW.Trod enc Try.prog W base spare held 26 v d ps) :
    ∃ x y z, v = .agg #[.float .f64 x, .float .f64 y, .float .f64 z] ∧ d = .agg [.lit (.float .f64 x), .lit (.float .f64 y), .lit (.float .f64 z)] ∧ ps = [] ∧
      (Lit.float .f64 x).wf = true ∧ (Lit.float .f64 y).wf = true ∧ (Lit.float .f64 z).wf = true := by
  obtain ⟨c0, c1, c2, y0, y1, y2, m, rfl, rfl, rfl, h0, h1, h2⟩ := open_agg3 Try.underlying26 (by kernel_rfl) Try.cells26 hv h
  obtain ⟨x, e0, rfl, wx⟩ := trod_float Try.underlying22 h0
  obtain ⟨y, e1, rfl, wy⟩ := trod_float Try.underlying22 h1
  obtain ⟨z, e2, rfl, wz⟩ := trod_float Try.underlying22 h2
  simp at e0 e1 e2
  subst e0 e1 e2
  exact ⟨x, y, z, rfl, rfl, rfl, wx, wy, wz⟩

theorem shut_vec {H : Type} {enc : TypeId × Value → H} {W : World} {base : Nat} {spare : Nat → Bool} {held : Bool} {x y z : Nat} (wx : (Lit.float .f64 x).wf = true) (wy : (Lit.float .f64 y).wf = true) (wz : (Lit.float .f64 z).wf = true) :
    DataW.Trod enc Try.prog W base spare held 26 (.agg #[.float .f64 x, .float .f64 y, .float .f64 z]) (.agg [.lit (.float .f64 x), .lit (.float .f64 y), .lit (.float .f64 z)]) [] :=
  shut_agg3 (y0 := (.lit (.float .f64 x), [])) (y1 := (.lit (.float .f64 y), [])) (y2 := (.lit (.float .f64 z), [])) Try.underlying26 (by kernel_rfl) Try.cells26
    ⟨1, by simp [DataW.trod, Try.underlying22, wx]⟩ ⟨1, by simp [DataW.trod, Try.underlying22, wy]⟩ ⟨1, by simp [DataW.trod, Try.underlying22, wz]⟩

end Go.Proofs.Ytagehemimlakpaa
