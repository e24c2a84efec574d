/- Package alias: the walk of AliasPicks. -/
import Derived.Deep.LoopGhost
import Derived.Deep.QuietTactic
import Derived.BigQuiet
import Derived.Test.YtmnemandmpoioaaAn
import Derived.Test.YtmnemandmpoioaaAk
namespace Go.Proofs.Ytmnemandmpoioaa
open Go.RowKit Fl

section
variable (n c : Nat) (ao : Option Addr) (f : Nat → Int) (u : Int) (x : Nat) (w : World)
set_option maxRecDepth 100000 in
set_option maxHeartbeats 2000000 in
theorem picks_out (hF : Nms w ao n f) (h : 60 < n ∨ n = 0 ∨ (n ≤ 60 ∧ totF n f < 1)) : Ret Try.prog 5 #[.slice ao n c, .int .i64 u, .float .f64 x] w (fun v => v = .bool true) := by
  unfold Ret
  have HA := hid (fun w => awake_any w)
  by_cases h1 : 60 < n
  · have hd : (60 < (n : Int)) = True := eq_true (by omega)
    clear h hF
    go_enter Try.func5, Try.ntmps5
    go_wp2_with fail
    refine Calls.mono (HA.out _) ?_
    rintro e w1 ⟨v, rfl, rfl, hb⟩
    go_wp2_with fail
    go_ret
    exact ⟨_, rfl, rfl, hb⟩
  · by_cases h2 : n = 0
    · subst h2
      clear h hF h1
      go_enter Try.func5, Try.ntmps5
      go_wp2_with fail
      refine Calls.mono (HA.out _) ?_
      rintro e w1 ⟨v, rfl, rfl, hb⟩
      go_wp2_with fail
      go_ret
      exact ⟨_, rfl, rfl, hb⟩
    · have HT := hid (rtotal_any n c ao f w hF (by omega))
      have ht : totF n f < 1 := by omega
      have hd : (60 < (n : Int)) = False := eq_false (by omega)
      have hd2 : ((n : Int) == 0) = false := beq_eq_false_iff_ne.2 (by omega)
      have hd3 : ((n : Int) = 0) = False := eq_false (by omega)
      generalize totF n f = t at *
      have hd4 : (t < 1) = True := eq_true ht
      clear h hF h1
      go_enter Try.func5, Try.ntmps5
      go_wp2_with fail
      refine Calls.mono HT.out ?_
      rintro e w2 ⟨rfl, hw⟩
      obtain rfl := hw.symm
      clear hw
      go_wp2_with fail
      refine Calls.mono (HA.out _) ?_
      rintro e w1 ⟨v, rfl, rfl, hb⟩
      go_wp2_with fail
      go_ret
      exact ⟨_, rfl, rfl, hb⟩
end

theorem meant_in {n : Nat} {tot : Int} {TH : Nat → Int} {AL : Nat → Nat} {f : Nat → Int} (ht : 0 < tot) (h : ∀ i (_ : i < n) (r : Int), 0 ≤ r → r < tot → 0 < f (if r < TH i then i else AL i)) (hA : ∀ i, i < n → AL i < n) {k : Int} (h0 : 0 ≤ k) (h1 : k < n * tot) : ∃ z : Nat, meantF n tot TH AL k = z ∧ z < n ∧ 0 < f z := by
  unfold meantF
  rw [if_pos ⟨h0, h1⟩]
  have hq0 : 0 ≤ k / tot := Int.ediv_nonneg h0 (by omega)
  have hq1 : k / tot < n := Int.ediv_lt_of_lt_mul ht h1
  have hr0 : 0 ≤ k % tot := Int.emod_nonneg _ (by omega)
  have hr1 : k % tot < tot := Int.emod_lt_of_pos _ ht
  obtain ⟨q, hq⟩ : ∃ q : Nat, k / tot = q := ⟨(k / tot).toNat, by omega⟩
  rw [hq, Int.toNat_natCast]
  have hqn : q < n := by omega
  have := h q hqn (k % tot) hr0 hr1
  split
  · rename_i hl
    rw [if_pos hl] at this
    exact ⟨q, rfl, hqn, this⟩
  · rename_i hl
    rw [if_neg hl] at this
    exact ⟨AL q, rfl, hA q hqn, this⟩

section
variable (n c : Nat) (ao : Option Addr) (f : Nat → Int) (u : Int) (x : Nat) (w : World)
set_option maxRecDepth 100000 in
set_option maxHeartbeats 8000000 in
theorem picks_in (hF : Nms w ao n f) (hn : n ≤ 60) (h0 : 0 < n) (ht : ¬ totF n f < 1) : Ret Try.prog 5 #[.slice ao n c, .int .i64 u, .float .f64 x] w (fun v => v = .bool true) := by
  unfold Ret
  have HA := hid (fun w => awake_any w)
  have hb : firstBad f 0 n < 0 := by
    unfold totF at ht
    split at ht <;> omega
  have hte : totF n f = sumN f n := if_neg (by omega)
  have hg := fun i (hi : i < n) => good_all hb i (Nat.zero_le _) (by omega)
  have hsr := sum_range (f := f) (n := n) (fun i hi => hg i hi) (by omega)
  rw [hte] at ht
  have hs : sumN f n ≠ 0 := by omega
  have hNN := new_good n c ao f w hF (by omega) h0 hb
  simp only [if_neg hs] at hNN
  have HN := hid (fun w1 (hw : Below w.heap.size w w1) => new_good n c ao f w1 (hF.keep hw) (by omega) h0 hb)
  simp only [if_neg hs] at HN
  have HT := hid (fun w1 (hb : Below w.heap.size w w1) => rtotal_any n c ao f w1 (hF.keep hb) (by omega))
  rw [hte] at HT
  have HR := hid (fun w1 (hb : Below w.heap.size w w1) => rnew_first n c ao f w1 (hF.keep hb) hn h0 (fun i hi => hg i hi) (sumN f n) (by omega))
  have HMW := hid (fun i (hi : i < n) (r : Int) (r0 : 0 ≤ r) (r1 : r < sumN f n) => meant_weighs (M := 1048576) (ws := f) (n := n) rfl hsr.1 (fun i hi => (hg i hi).1) (fun i hi => (hg i hi).2) hi r0 r1)
  have HAL := hid (fun i (hi : i < n) => (cols_right (M := 1048576) (ws := f) (n := n) rfl hsr.1 (fun i hi => (hg i hi).1) (fun i hi => (hg i hi).2) i hi).2.2.1)
  obtain ⟨ga, off, rfl, hI⟩ : ∃ g off, ao = some ⟨g, off, none⟩ ∧ Rdo w g off n f := hF.resolve_left (by omega)
  have HI := hid hI
  have hd : (60 < (n : Int)) = False := eq_false (by omega)
  have hd2 : ((n : Int) == 0) = false := beq_eq_false_iff_ne.2 (by omega)
  have hd3 : ((n : Int) = 0) = False := eq_false (by omega)
  have ht1 : 1 ≤ sumN f n := by omega
  have hd4 : (sumN f n < 1) = False := eq_false (by omega)
  clear hF hb hte hg hNN hI hs ht
  generalize sumN f n = tot at *
  generalize colsF tot n f = F at *
  have hN1 : 1 ≤ (n : Int) * tot ∧ (n : Int) * tot ≤ 60 * 1073741824 := by
    have a := Int.mul_le_mul (show (1 : Int) ≤ n by omega) ht1 (by omega) (by omega)
    have b := Int.mul_le_mul (show (n : Int) ≤ 60 by omega) hsr.2 (by omega) (by omega)
    omega
  obtain ⟨cn, c0, c1⟩ := clean_num x
  obtain ⟨pn, p0, p1⟩ := part_mul cn c0 c1 (show 0 ≤ (n : Int) * tot by omega) (by omega)
  have hcv := convI (conv_small pn p0 p1 (by omega))
  have hmul : ∀ w, _ := fun w => run_mul_num (P := Try.prog) w 37 cn (fi_num (x := (n : Int) * tot) (by omega) (by omega)).1
  obtain ⟨k0, k1⟩ := draw_range cn c0 c1 hN1.1 (by omega)
  obtain ⟨z, hz, hzn, hzp⟩ := meant_in (by omega) HMW.out HAL.out k0 k1
  have HDK := aside (show drawK (cleanF x) (n * tot) = min (truncF (fmul (cleanF x) (fi (n * tot)))) (n * tot - 1) from rfl)
  have HCLN := hid (fun w => rclean_any x w)
  have HDR := hid (fun (T : Nat) (w : World) (h : Tbl w T n tot f F.1 F.2) => hz ▸ draw_any x w h (by omega) hN1.1 (by omega))
  have HPK := hid (fun (T : Nat) (w : World) (h : Tbl w T n tot f F.1 F.2) => show Ret Try.prog 17 #[.pointer (some ⟨T, 0, none⟩), .int .i64 (min (truncF (fmul (cleanF x) (fi (n * tot)))) (n * tot - 1))] w (fun v => v = .int .i64 z) from hz ▸ pick_any (drawK (cleanF x) (n * tot)) w h (by omega) (by omega))
  have HPU := hid (fun (T : Nat) (w : World) (h : Tbl w T n tot f F.1 F.2) => pick_any u w h (by omega) (by omega))
  have hzp2 : (0 < f z) = True := eq_true hzp
  have hzn2 : ((z : Int) < (n : Int)) = True := eq_true (by omega)
  have HMN := aside (show ∀ u, meantF n tot F.1 F.2 u = if 0 ≤ u ∧ u < (n : Int) * tot then (if u % tot < F.1 (u / tot).toNat then u / tot else F.2 (u / tot).toNat) else -1 from fun u => rfl)
  clear HMW pn p0 p1 cn c0 c1 k0 k1 hz hzp HDK
  have HTOT := hid (show 1 ≤ tot ∧ tot ≤ 1073741824 from ⟨ht1, hsr.2⟩)
  obtain ⟨t0, t1⟩ : 1 ≤ tot ∧ tot ≤ 1073741824 := ⟨ht1, hsr.2⟩
  have HNT := aside (show ∀ q : Int, q < (n : Int) * tot → 0 ≤ q → q / tot < n from fun q h _ => Int.ediv_lt_of_lt_mul (by omega) h)
  clear hsr ht1
  generalize hNN : (n : Int) * tot = N at *
  have HNN := aside hNN
  obtain ⟨N0, N1⟩ := hN1
  generalize hYY : fmul (cleanF x) (fi N) = Y at *
  clear hYY
  generalize cleanF x = cl0 at *
  go_enter Try.func5, Try.ntmps5
  go_wp2_with fail
  refine Calls.mono (HT.out _ (Below.refl _ _)) ?_
  rintro e w2 ⟨rfl, hw⟩
  obtain rfl := hw.symm
  clear hw
  go_wp2_with fail
  refine Calls.mono (HT.out _ (Below.refl _ _)) ?_
  rintro e w2 ⟨rfl, hw⟩
  obtain rfl := hw.symm
  clear hw
  go_wp2_with fail
  refine Calls.mono (HR.out _ (Below.refl _ _)) ?_
  rintro e w1 ⟨gl, cl, rfl, hO, hb⟩
  have HO := hid hO
  have HB := hid hb
  clear hO hb HR HT
  go_wp2_with fail
  refine Calls.mono (HN.out _ HB.out) ?_
  rintro e w2 ⟨hb, T, rfl, hTb⟩
  have HTB := hid hTb
  have HO2 := hid (owns_same HO.out hb)
  have HB2 := hid (HB.out.trans (hb.mono HB.out.size))
  clear hb hTb HN HO HB
  by_cases hu : 0 ≤ u ∧ u < N
  · have hm := HMN.out u
    rw [if_pos hu] at hm
    obtain ⟨u0, u1⟩ := hu
    have hq0 : 0 ≤ u / tot := Int.ediv_nonneg u0 (by omega)
    have hq1 := HNT.out u u1 u0
    have hr0 : 0 ≤ u % tot := Int.emod_nonneg _ (by omega)
    have hr1 : u % tot < tot := Int.emod_lt_of_pos _ (by omega)
    obtain ⟨q, hq⟩ : ∃ q : Nat, u / tot = q := ⟨(u / tot).toNat, by omega⟩
    rw [hq, Int.toNat_natCast] at hm
    have hqn : q < n := by omega
    have kT := (HO2.out.cellAt (q * 2) (by omega)).trans (cols_at F.1 F.2 hqn).1
    have kA := (HO2.out.cellAt (q * 2 + 1) (by omega)).trans (cols_at F.1 F.2 hqn).2
    have hd5 : (0 ≤ u) = True := eq_true u0
    have hd6 : (u < N) = True := eq_true u1
    have hd7 : ((q : Int) < (n : Int)) = True := eq_true (by omega)
    clear hq0 hq1
    by_cases hl : u % tot < F.1 q
    · rw [if_pos hl] at hm
      have HM := aside hm
      have hd8 : (F.1 q ≤ u % tot) = False := eq_false (by omega)
      clear hm kA
      rw [HM.out] at HPU
      generalize F.1 q = p at *
      generalize hr : u % tot = r at *
      have HTD := HTB
      have HBD := HB2
      go_wp2_with fail
      go_quiet (fail)
      have HTD := hid (HTB.out.keep (below_dr (Below.refl _ _) nq))
      have HBD := hid (below_dr HB2.out nq)
      go_wp2_with fail
      refine Calls.mono (HCLN.out _) ?_
      rintro e w9 ⟨rfl, hw⟩
      obtain rfl := hw.symm
      clear hw
      go_wp2_with fail
      refine Calls.mono (low_int _ _ _) ?_
      rintro e w9 ⟨rfl, hw⟩
      obtain rfl := hw.symm
      clear hw
      generalize hKK : min (truncF Y) (N - 1) = KK at *
      go_wp2_with fail
      refine Calls.mono (HA.out _) ?_
      rintro e w4 ⟨v, rfl, rfl, hb⟩
      have HT4 := hid (HTD.out.keep hb)
      have HB4 := hid (HBD.out.trans (hb.mono HBD.out.size))
      clear hb
      go_wp2_with fail
      refine Calls.mono (HPU.out T _ HT4.out) ?_
      rintro e w5 ⟨v, rfl, rfl, hb⟩
      have HT5 := hid (HT4.out.keep hb)
      have HB5 := hid (HB4.out.trans (hb.mono HB4.out.size))
      clear hb
      go_wp2_with fail
      refine Calls.mono (HDR.out T _ HT5.out) ?_
      rintro e w6 ⟨v, rfl, rfl, hb⟩
      have HT6 := hid (HT5.out.keep hb)
      have HB6 := hid (HB5.out.trans (hb.mono HB5.out.size))
      clear hb
      go_wp2_with fail
      refine Calls.mono (HPK.out T _ HT6.out) ?_
      rintro e w7 ⟨v, rfl, rfl, hb⟩
      have HT7 := hid (HT6.out.keep hb)
      have HB7 := hid (HB6.out.trans (hb.mono HB6.out.size))
      clear hb
      go_wp2_with fail
      refine Calls.mono (HDR.out T _ HT7.out) ?_
      rintro e w8 ⟨v, rfl, rfl, hb⟩
      have HT8 := hid (HT7.out.keep hb)
      have HB8 := hid (HB7.out.trans (hb.mono HB7.out.size))
      clear hb
      have kz := (HI.out.keep HB8.out).cell hzn
      generalize f z = y at *
      go_wp2_with fail
      refine Calls.mono (pick_nil u _) ?_
      rintro e wa ⟨v, rfl, rfl, hb⟩
      have HB9 := hid (HB8.out.trans (hb.mono HB8.out.size))
      clear hb kz
      go_wp2_with fail
      refine Calls.mono (draw_nil x _) ?_
      rintro e wb ⟨v, rfl, rfl, hb⟩
      have HBa := hid (HB9.out.trans (hb.mono HB9.out.size))
      clear hb
      go_wp2_with fail
      refine Calls.mono (alen_nil _) ?_
      rintro e w9 ⟨rfl, hw⟩
      obtain rfl := hw.symm
      clear hw
      go_wp2_with fail
      refine Calls.mono (atotal_nil _) ?_
      rintro e w9 ⟨rfl, hw⟩
      obtain rfl := hw.symm
      clear hw
      go_wp2_with fail
      refine Calls.mono (weight_nil 0 _) ?_
      rintro e w9 ⟨rfl, hw⟩
      obtain rfl := hw.symm
      clear hw
      go_wp2_with fail
      go_ret
      exact ⟨_, rfl, rfl, HBa.out⟩
    · rw [if_neg hl] at hm
      have HM := aside hm
      have hd8 : (F.1 q ≤ u % tot) = True := eq_true (by omega)
      clear hm
      rw [HM.out] at HPU
      generalize F.1 q = p at *
      generalize (F.2 q : Int) = aq at *
      generalize hr : u % tot = r at *
      go_wp2_with fail
      go_quiet (fail)
      have HTD := hid (HTB.out.keep (below_dr (Below.refl _ _) nq))
      have HBD := hid (below_dr HB2.out nq)
      go_wp2_with fail
      refine Calls.mono (HCLN.out _) ?_
      rintro e w9 ⟨rfl, hw⟩
      obtain rfl := hw.symm
      clear hw
      go_wp2_with fail
      refine Calls.mono (low_int _ _ _) ?_
      rintro e w9 ⟨rfl, hw⟩
      obtain rfl := hw.symm
      clear hw
      generalize hKK : min (truncF Y) (N - 1) = KK at *
      go_wp2_with fail
      refine Calls.mono (HA.out _) ?_
      rintro e w4 ⟨v, rfl, rfl, hb⟩
      have HT4 := hid (HTD.out.keep hb)
      have HB4 := hid (HBD.out.trans (hb.mono HBD.out.size))
      clear hb
      go_wp2_with fail
      refine Calls.mono (HPU.out T _ HT4.out) ?_
      rintro e w5 ⟨v, rfl, rfl, hb⟩
      have HT5 := hid (HT4.out.keep hb)
      have HB5 := hid (HB4.out.trans (hb.mono HB4.out.size))
      clear hb
      go_wp2_with fail
      refine Calls.mono (HDR.out T _ HT5.out) ?_
      rintro e w6 ⟨v, rfl, rfl, hb⟩
      have HT6 := hid (HT5.out.keep hb)
      have HB6 := hid (HB5.out.trans (hb.mono HB5.out.size))
      clear hb
      go_wp2_with fail
      refine Calls.mono (HPK.out T _ HT6.out) ?_
      rintro e w7 ⟨v, rfl, rfl, hb⟩
      have HT7 := hid (HT6.out.keep hb)
      have HB7 := hid (HB6.out.trans (hb.mono HB6.out.size))
      clear hb
      go_wp2_with fail
      refine Calls.mono (HDR.out T _ HT7.out) ?_
      rintro e w8 ⟨v, rfl, rfl, hb⟩
      have HT8 := hid (HT7.out.keep hb)
      have HB8 := hid (HB7.out.trans (hb.mono HB7.out.size))
      clear hb
      have kz := (HI.out.keep HB8.out).cell hzn
      generalize f z = y at *
      go_wp2_with fail
      refine Calls.mono (pick_nil u _) ?_
      rintro e wa ⟨v, rfl, rfl, hb⟩
      have HB9 := hid (HB8.out.trans (hb.mono HB8.out.size))
      clear hb kz
      go_wp2_with fail
      refine Calls.mono (draw_nil x _) ?_
      rintro e wb ⟨v, rfl, rfl, hb⟩
      have HBa := hid (HB9.out.trans (hb.mono HB9.out.size))
      clear hb
      go_wp2_with fail
      refine Calls.mono (alen_nil _) ?_
      rintro e w9 ⟨rfl, hw⟩
      obtain rfl := hw.symm
      clear hw
      go_wp2_with fail
      refine Calls.mono (atotal_nil _) ?_
      rintro e w9 ⟨rfl, hw⟩
      obtain rfl := hw.symm
      clear hw
      go_wp2_with fail
      refine Calls.mono (weight_nil 0 _) ?_
      rintro e w9 ⟨rfl, hw⟩
      obtain rfl := hw.symm
      clear hw
      go_wp2_with fail
      go_ret
      exact ⟨_, rfl, rfl, HBa.out⟩
  · have hm := HMN.out u
    rw [if_neg hu] at hm
    have HM := aside hm
    rw [HM.out] at HPU
    have HTD := HTB
    have HBD := HB2
    clear hm
    by_cases hu0 : 0 ≤ u
    · have hd5 : (0 ≤ u) = True := eq_true hu0
      have hd6 : (u < N) = False := eq_false (by omega)
      go_wp2_with fail
      refine Calls.mono (HCLN.out _) ?_
      rintro e w9 ⟨rfl, hw⟩
      obtain rfl := hw.symm
      clear hw
      go_wp2_with fail
      refine Calls.mono (low_int _ _ _) ?_
      rintro e w9 ⟨rfl, hw⟩
      obtain rfl := hw.symm
      clear hw
      generalize hKK : min (truncF Y) (N - 1) = KK at *
      go_wp2_with fail
      refine Calls.mono (HA.out _) ?_
      rintro e w4 ⟨v, rfl, rfl, hb⟩
      have HT4 := hid (HTD.out.keep hb)
      have HB4 := hid (HBD.out.trans (hb.mono HBD.out.size))
      clear hb
      go_wp2_with fail
      refine Calls.mono (HPU.out T _ HT4.out) ?_
      rintro e w5 ⟨v, rfl, rfl, hb⟩
      have HT5 := hid (HT4.out.keep hb)
      have HB5 := hid (HB4.out.trans (hb.mono HB4.out.size))
      clear hb
      go_wp2_with fail
      refine Calls.mono (HDR.out T _ HT5.out) ?_
      rintro e w6 ⟨v, rfl, rfl, hb⟩
      have HT6 := hid (HT5.out.keep hb)
      have HB6 := hid (HB5.out.trans (hb.mono HB5.out.size))
      clear hb
      go_wp2_with fail
      refine Calls.mono (HPK.out T _ HT6.out) ?_
      rintro e w7 ⟨v, rfl, rfl, hb⟩
      have HT7 := hid (HT6.out.keep hb)
      have HB7 := hid (HB6.out.trans (hb.mono HB6.out.size))
      clear hb
      go_wp2_with fail
      refine Calls.mono (HDR.out T _ HT7.out) ?_
      rintro e w8 ⟨v, rfl, rfl, hb⟩
      have HT8 := hid (HT7.out.keep hb)
      have HB8 := hid (HB7.out.trans (hb.mono HB7.out.size))
      clear hb
      have kz := (HI.out.keep HB8.out).cell hzn
      generalize f z = y at *
      go_wp2_with fail
      refine Calls.mono (pick_nil u _) ?_
      rintro e wa ⟨v, rfl, rfl, hb⟩
      have HB9 := hid (HB8.out.trans (hb.mono HB8.out.size))
      clear hb kz
      go_wp2_with fail
      refine Calls.mono (draw_nil x _) ?_
      rintro e wb ⟨v, rfl, rfl, hb⟩
      have HBa := hid (HB9.out.trans (hb.mono HB9.out.size))
      clear hb
      go_wp2_with fail
      refine Calls.mono (alen_nil _) ?_
      rintro e w9 ⟨rfl, hw⟩
      obtain rfl := hw.symm
      clear hw
      go_wp2_with fail
      refine Calls.mono (atotal_nil _) ?_
      rintro e w9 ⟨rfl, hw⟩
      obtain rfl := hw.symm
      clear hw
      go_wp2_with fail
      refine Calls.mono (weight_nil 0 _) ?_
      rintro e w9 ⟨rfl, hw⟩
      obtain rfl := hw.symm
      clear hw
      go_wp2_with fail
      go_ret
      exact ⟨_, rfl, rfl, HBa.out⟩
    · have hd5 : (0 ≤ u) = False := eq_false hu0
      go_wp2_with fail
      refine Calls.mono (HCLN.out _) ?_
      rintro e w9 ⟨rfl, hw⟩
      obtain rfl := hw.symm
      clear hw
      go_wp2_with fail
      refine Calls.mono (low_int _ _ _) ?_
      rintro e w9 ⟨rfl, hw⟩
      obtain rfl := hw.symm
      clear hw
      generalize hKK : min (truncF Y) (N - 1) = KK at *
      go_wp2_with fail
      refine Calls.mono (HA.out _) ?_
      rintro e w4 ⟨v, rfl, rfl, hb⟩
      have HT4 := hid (HTD.out.keep hb)
      have HB4 := hid (HBD.out.trans (hb.mono HBD.out.size))
      clear hb
      go_wp2_with fail
      refine Calls.mono (HPU.out T _ HT4.out) ?_
      rintro e w5 ⟨v, rfl, rfl, hb⟩
      have HT5 := hid (HT4.out.keep hb)
      have HB5 := hid (HB4.out.trans (hb.mono HB4.out.size))
      clear hb
      go_wp2_with fail
      refine Calls.mono (HDR.out T _ HT5.out) ?_
      rintro e w6 ⟨v, rfl, rfl, hb⟩
      have HT6 := hid (HT5.out.keep hb)
      have HB6 := hid (HB5.out.trans (hb.mono HB5.out.size))
      clear hb
      go_wp2_with fail
      refine Calls.mono (HPK.out T _ HT6.out) ?_
      rintro e w7 ⟨v, rfl, rfl, hb⟩
      have HT7 := hid (HT6.out.keep hb)
      have HB7 := hid (HB6.out.trans (hb.mono HB6.out.size))
      clear hb
      go_wp2_with fail
      refine Calls.mono (HDR.out T _ HT7.out) ?_
      rintro e w8 ⟨v, rfl, rfl, hb⟩
      have HT8 := hid (HT7.out.keep hb)
      have HB8 := hid (HB7.out.trans (hb.mono HB7.out.size))
      clear hb
      have kz := (HI.out.keep HB8.out).cell hzn
      generalize f z = y at *
      go_wp2_with fail
      refine Calls.mono (pick_nil u _) ?_
      rintro e wa ⟨v, rfl, rfl, hb⟩
      have HB9 := hid (HB8.out.trans (hb.mono HB8.out.size))
      clear hb kz
      go_wp2_with fail
      refine Calls.mono (draw_nil x _) ?_
      rintro e wb ⟨v, rfl, rfl, hb⟩
      have HBa := hid (HB9.out.trans (hb.mono HB9.out.size))
      clear hb
      go_wp2_with fail
      refine Calls.mono (alen_nil _) ?_
      rintro e w9 ⟨rfl, hw⟩
      obtain rfl := hw.symm
      clear hw
      go_wp2_with fail
      refine Calls.mono (atotal_nil _) ?_
      rintro e w9 ⟨rfl, hw⟩
      obtain rfl := hw.symm
      clear hw
      go_wp2_with fail
      refine Calls.mono (weight_nil 0 _) ?_
      rintro e w9 ⟨rfl, hw⟩
      obtain rfl := hw.symm
      clear hw
      go_wp2_with fail
      go_ret
      exact ⟨_, rfl, rfl, HBa.out⟩
theorem picks_any (hF : Nms w ao n f) : Ret Try.prog 5 #[.slice ao n c, .int .i64 u, .float .f64 x] w (fun v => v = .bool true) := by
  by_cases h : 60 < n ∨ n = 0 ∨ (n ≤ 60 ∧ totF n f < 1)
  · exact picks_out n c ao f u x w hF h
  · exact picks_in n c ao f u x w hF (by omega) (by omega) (by omega)
end
end Go.Proofs.Ytmnemandmpoioaa
