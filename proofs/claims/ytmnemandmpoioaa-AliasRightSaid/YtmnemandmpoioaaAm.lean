/- Package alias: Chance, Draw; the reference's Low. -/
import Derived.Deep.QuietTactic
import Derived.BigQuiet
import Derived.Laws.Small
import Derived.Test.YtmnemandmpoioaaAl
namespace Go.Proofs.Ytmnemandmpoioaa
open Go.RowKit Fl

theorem quot_ok {x t : Int} (hx : 0 ≤ x ∧ x ≤ 1073741824) (ht : 1 ≤ t ∧ t ≤ 1073741824) : (∀ (P : Program) (ty : TypeId) (w : World), (binOp .quo ty (.float .f64 (fi x)) (.float .f64 (fi t))).run P w = .ok (.float .f64 (fdiv (fi x) (fi t))) w) ∧ isN (fdiv (fi x) (fi t)) = false := by
  obtain ⟨a, v⟩ := fi_num (x := x) (by omega) (by omega)
  obtain ⟨b, u⟩ := fi_num (x := t) (by omega) (by omega)
  have hz : val (fi t) ≠ 0 := by
    rw [u]
    intro h
    have : t = 0 := by exact_mod_cast h
    omega
  obtain ⟨s, m, e, hq, _⟩ := div_near a b hz
  obtain ⟨s2, m2, e2, hr⟩ := b
  have hm2 : m2 ≠ 0 := by
    rintro rfl
    apply hz
    unfold val
    rw [hr, dval_number]
    have : (((0 : Nat) : Rat) * 2 ^ e2) = 0 := Rat.zero_mul _
    rw [this]
    cases s2 <;> simp [sg]
  refine ⟨fun P ty w => run_div_num w ty a hr hm2, ?_⟩
  rw [hq]
  exact nearest_not_nan _ _ _

section
variable {T n : Nat} {tot : Int} {ws TH : Nat → Int} {AL : Nat → Nat}
set_option maxRecDepth 100000 in
set_option maxHeartbeats 1000000 in
theorem chance_off (p : Option Addr) (i : Int) (w : World) (hh : Calls Try.prog 25 #[.pointer p, .int .i64 i] w fun e w' => e = .returned (.bool false) ∧ w' = w) : Calls Try.prog 14 #[.pointer p, .int .i64 i] w fun e w' => e = .returned (.float .f64 0) ∧ w' = w := by
  have HH := hid hh
  clear hh
  go_enter Try.func14, Try.ntmps14
  go_wp2_with fail
  refine Calls.mono HH.out ?_
  rintro e w' ⟨rfl, hw⟩
  obtain rfl := hw.symm
  clear hw
  go_wp2_with fail
  go_ret
  exact ⟨rfl, rfl⟩

set_option maxRecDepth 100000 in
set_option maxHeartbeats 1000000 in
theorem chance_on (i : Nat) (w : World) (h : Tbl w T n tot ws TH AL) (hi : i < n) (hx : 0 ≤ ws i ∧ ws i ≤ 1073741824) (ht : 1 ≤ tot ∧ tot ≤ 1073741824) : Ret Try.prog 14 #[.pointer (some ⟨T, 0, none⟩), .int .i64 i] w (fun v => v = .float .f64 (fdiv (fi (ws i)) (fi tot))) := by
  unfold Ret
  have HH := hid (ahas_of (some ⟨T, 0, none⟩) i w h.len)
  rw [decide_eq_true ⟨by omega, by omega⟩] at HH
  have hm : ∀ w, _ := (quot_ok hx ht).1 Try.prog 37
  obtain ⟨gw, cw, gt, ct, ga, ca, hB, h1, h2, h3⟩ := h
  have kT := hB.cell
  have k1 := h1.at hi
  have HB := hid hB
  have H1 := hid h1
  generalize ws i = x at *
  generalize fdiv (fi x) (fi tot) = z at *
  have hd : ((i : Int) < (n : Int)) = True := eq_true (by omega)
  clear hB h1 h2 h3
  go_enter Try.func14, Try.ntmps14
  go_wp2_with fail
  refine Calls.mono HH.out ?_
  rintro e w' ⟨rfl, hw⟩
  obtain rfl := hw.symm
  clear hw
  go_wp2_with fail
  go_quiet (fail)
  go_wp2_with fail
  go_ret
  exact ⟨_, rfl, rfl, below_dr (Below.refl _ _) _⟩

set_option maxRecDepth 100000 in
set_option maxHeartbeats 2000000 in
theorem draw_any (x : Nat) (w : World) (h : Tbl w T n tot ws TH AL) (ht : 0 < tot) (h0 : 1 ≤ (n : Int) * tot) (hN : (n : Int) * tot ≤ 2199023255552) : Ret Try.prog 18 #[.pointer (some ⟨T, 0, none⟩), .float .f64 x] w (fun v => v = .int .i64 (meantF n tot TH AL (drawK (cleanF x) (n * tot)))) := by
  unfold Ret
  have HN := hid (numbers_of (some ⟨T, 0, none⟩) w (by omega) hN h.len h.total)
  have HM := hid (fun u => meant_any u w h ht hN)
  obtain ⟨hc, c0, c1⟩ := clean_num x
  obtain ⟨pn, p0, p1⟩ := part_mul hc c0 c1 (by omega) hN
  obtain ⟨t0, t1⟩ := trunc_val pn p0 p1
  have hcv := conv64 (conv_small pn p0 p1 hN)
  have hmul : ∀ w, _ := fun w => run_mul_num (P := Try.prog) w 37 hc (fi_num (x := (n : Int) * tot) (by omega) hN).1
  have hz := draw_zero h0 hN
  have HMF := hid (fun u => show meantF n tot TH AL u = meantF n tot TH AL u from rfl)
  have hp : (FloatKind.f64.format.order x 0 == some .gt) = (ford x 0 == some .gt) := rfl
  have hq : (FloatKind.f64.format.order x 0 == some .eq) = (ford x 0 == some .eq) := rfl
  have hr : (FloatKind.f64.format.order x 4607182418800017408 == some .lt) = (ford x 4607182418800017408 == some .lt) := rfl
  have hcl : cleanF x = if (ford x 0 == some .gt || ford x 0 == some .eq) && ford x 4607182418800017408 == some .lt then x else 0 := rfl
  have HDK : ∀ c, drawK c (n * tot) = min (truncF (fmul c (fi (n * tot)))) (n * tot - 1) := fun c => rfl
  have HDK := aside HDK
  generalize (n : Int) * tot = N at *
  generalize (ford x 0 == some .gt) = p at hp hcl
  generalize (ford x 0 == some .eq) = q at hq hcl
  generalize (ford x 4607182418800017408 == some .lt) = r at hr hcl
  clear pn p0 p1 hc c0 c1 HMF
  cases hok : ((p || q) && r)
  · rw [hok] at hcl
    simp only [Bool.false_eq_true, if_false] at hcl
    have HE := aside (show drawK (cleanF x) N = 0 by rw [hcl]; exact hz)
    clear hcl hcv hmul t0 t1 hz
    cases p <;> cases q <;> cases r <;> first | (cases hok; done) | skip
    all_goals
      clear hok
      go_enter Try.func18, Try.ntmps18
      go_wp2_with fail
      refine Calls.mono HN.out ?_
      rintro e w' ⟨rfl, hw⟩
      obtain rfl := hw.symm
      clear hw
      go_wp2_with fail
      refine Calls.mono (HM.out 0) ?_
      rintro e w' ⟨v, rfl, rfl, hb⟩
      go_wp2_with fail
      go_ret
      exact ⟨_, rfl, congrArg (fun k => Value.int .i64 (meantF n tot TH AL k)) HE.out.symm, hb⟩
  · rw [hok] at hcl
    simp only [if_true] at hcl
    rw [hcl] at hmul hcv t0 t1
    have HE := aside (show drawK (cleanF x) N = min (truncF (fmul x (fi N))) (N - 1) by rw [hcl]; exact HDK.out x)
    clear hcl hz
    generalize fmul x (fi N) = y at *
    generalize truncF y = u at *
    cases p <;> cases q <;> cases r <;> first | (cases hok; done) | skip
    all_goals
      clear hok
      by_cases hu : N - 1 < u
      · have HE2 := aside (HE.out.trans (Int.min_eq_right (by omega)))
        have hd : (N - 1 < u) = True := eq_true hu
        go_enter Try.func18, Try.ntmps18
        go_wp2_with fail
        refine Calls.mono HN.out ?_
        rintro e w' ⟨rfl, hw⟩
        obtain rfl := hw.symm
        clear hw
        go_wp2_with fail
        refine Calls.mono (HM.out _) ?_
        rintro e w' ⟨v, rfl, rfl, hb⟩
        go_wp2_with fail
        go_ret
        exact ⟨_, rfl, congrArg (fun k => Value.int .i64 (meantF n tot TH AL k)) HE2.out.symm, hb⟩
      · have HE2 := aside (HE.out.trans (Int.min_eq_left (by omega)))
        have hd : (N - 1 < u) = False := eq_false hu
        go_enter Try.func18, Try.ntmps18
        go_wp2_with fail
        refine Calls.mono HN.out ?_
        rintro e w' ⟨rfl, hw⟩
        obtain rfl := hw.symm
        clear hw
        go_wp2_with fail
        refine Calls.mono (HM.out _) ?_
        rintro e w' ⟨v, rfl, rfl, hb⟩
        go_wp2_with fail
        go_ret
        exact ⟨_, rfl, congrArg (fun k => Value.int .i64 (meantF n tot TH AL k)) HE2.out.symm, hb⟩
end

set_option maxRecDepth 100000 in
set_option maxHeartbeats 1000000 in
theorem low_int (a b : Int) (w : World) : Calls Try.prog 16 #[.int .i64 a, .int .i64 b] w fun e w' => e = .returned (.int .i64 (min a b)) ∧ w' = w := by
  by_cases h : a < b
  · rw [Int.min_eq_left (by omega)]
    go_enter Try.func16, Try.ntmps16
    go_wp2_with fail
    go_ret
    exact ⟨rfl, rfl⟩
  · rw [Int.min_eq_right (by omega)]
    go_enter Try.func16, Try.ntmps16
    go_wp2_with fail
    go_ret
    exact ⟨rfl, rfl⟩

set_option maxRecDepth 100000 in
set_option maxHeartbeats 2000000 in
theorem draw_nil (x : Nat) (w : World) : Ret Try.prog 18 #[.pointer none, .float .f64 x] w (fun v => v = .int .i64 (-1)) := by
  unfold Ret
  have HN := hid (numbers_nil w)
  rw [show ((0 : Nat) : Int) * 0 = 0 from rfl] at HN
  have HM := hid (fun u => meant_nil u w)
  obtain ⟨hc, c0, c1⟩ := clean_num x
  obtain ⟨pn, p0, p1⟩ := part_mul (N := 0) hc c0 c1 (by decide) (by decide)
  obtain ⟨t0, t1⟩ := trunc_val pn p0 p1
  have hcv := conv64 (conv_small pn p0 p1 (by decide))
  have hmul : ∀ w, _ := fun w => run_mul_num (P := Try.prog) w 37 hc (fi_num (x := 0) (by decide) (by decide)).1
  have hp : (FloatKind.f64.format.order x 0 == some .gt) = (ford x 0 == some .gt) := rfl
  have hq : (FloatKind.f64.format.order x 0 == some .eq) = (ford x 0 == some .eq) := rfl
  have hr : (FloatKind.f64.format.order x 4607182418800017408 == some .lt) = (ford x 4607182418800017408 == some .lt) := rfl
  have hcl : cleanF x = if (ford x 0 == some .gt || ford x 0 == some .eq) && ford x 4607182418800017408 == some .lt then x else 0 := rfl
  generalize (ford x 0 == some .gt) = p at hp hcl
  generalize (ford x 0 == some .eq) = q at hq hcl
  generalize (ford x 4607182418800017408 == some .lt) = r at hr hcl
  clear pn p0 p1 hc c0 c1
  cases hok : ((p || q) && r)
  · clear hcl hcv hmul t0 t1
    cases p <;> cases q <;> cases r <;> first | (cases hok; done) | skip
    all_goals
      clear hok
      go_enter Try.func18, Try.ntmps18
      go_wp2_with fail
      refine Calls.mono HN.out ?_
      rintro e w' ⟨rfl, hw⟩
      obtain rfl := hw.symm
      clear hw
      go_wp2_with fail
      refine Calls.mono (HM.out 0) ?_
      rintro e w' ⟨v, rfl, rfl, hb⟩
      go_wp2_with fail
      go_ret
      exact ⟨_, rfl, rfl, hb⟩
  · rw [hok] at hcl
    simp only [if_true] at hcl
    rw [hcl] at hmul hcv t0 t1
    clear hcl
    generalize fmul x (fi 0) = y at *
    generalize truncF y = u at *
    have hd : (0 - 1 < u) = True := eq_true (by omega)
    have hd2 : (-1 < u) = True := eq_true (by omega)
    cases p <;> cases q <;> cases r <;> first | (cases hok; done) | skip
    all_goals
      clear hok
      go_enter Try.func18, Try.ntmps18
      go_wp2_with fail
      refine Calls.mono HN.out ?_
      rintro e w' ⟨rfl, hw⟩
      obtain rfl := hw.symm
      clear hw
      go_wp2_with fail
      refine Calls.mono (HM.out _) ?_
      rintro e w' ⟨v, rfl, rfl, hb⟩
      go_wp2_with fail
      go_ret
      exact ⟨_, rfl, rfl, hb⟩
end Go.Proofs.Ytmnemandmpoioaa
