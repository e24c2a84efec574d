/- Package pcg: Below. -/
import Derived.Deep.LoopGhost
import Derived.Test.YtjjjehghjhdceaaRows
import Derived.Test.YtjjjehghjhdceaaPd
namespace Go.Proofs.Ytjjjehghjhdceaa
open Go.RowKit Fl

/-- The least number that counts. -/
def leastF (n : Int) : Int := 4294967296 % n
theorem least_neg {n : Int} (h0 : 0 < n) (h1 : n < 4294967296) : -n % 4294967296 % n = leastF n := by
  have e : -n % 4294967296 = 4294967296 - n := by omega
  rw [e]
  unfold leastF
  have h := Int.add_mul_emod_self_left (4294967296 - n) n 1
  rw [← h]
  congr 1
  omega
theorem least_range {n : Int} (h0 : 0 < n) : 0 ≤ leastF n ∧ leastF n < n := ⟨Int.emod_nonneg _ (by omega), Int.emod_lt_of_pos _ h0⟩

set_option maxRecDepth 100000 in
set_option maxHeartbeats 1000000 in
theorem remainder_any (G : Nat) (n : Int) (w : World) (h0 : 0 < n) (h1 : n < 4294967296) : Calls Try.prog 19 #[.func (.func 12) #[.pointer (some ⟨G, 0, none⟩)] #[], .int .u32 n] w fun e w' => e = .returned (.func (.func 22) #[] #[.pointer (some ⟨w.heap.size, 0, none⟩), .pointer (some ⟨w.heap.size + 1 + 1, 0, none⟩), .pointer (some ⟨w.heap.size + 1, 0, none⟩)]) ∧
    w' = ((w.alloc (.cells #[.func (.func 12) #[.pointer (some ⟨G, 0, none⟩)] #[]] 35)).alloc (.cells #[.int .u32 n] 34)).alloc (.cells #[.int .u32 (leastF n)] 34) := by
  have hl := least_neg h0 h1
  generalize leastF n = l at *
  go_enter Try.func19, Try.ntmps19
  go_wp2_with fail
  simp only [hl]
  go_ret
  exact ⟨rfl, rfl⟩

set_option maxRecDepth 100000 in
set_option maxHeartbeats 1000000 in
theorem remainder1_any (S C n l : Int) (m G D L N : Nat) (w : World) (hr : 0 ≤ S ∧ S < 18446744073709551616) (hG : Gn w G S C) (hD : Lp.Bk w D #[.func (.func 12) #[.pointer (some ⟨G, 0, none⟩)] #[]] 35) (hL : Lp.Bk w L #[.int .u32 l] 34) (hN : Lp.Bk w N #[.int .u32 n] 34) (nD : D ≠ G) (nL : L ≠ G) (nN : N ≠ G)
    (h0 : 0 < n) (h1 : n < 4294967296) (hlt : ∀ j, j < m → numF (stepsF S C j) < l) (hge : l ≤ numF (stepsF S C m)) :
    Calls Try.prog 22 #[.pointer (some ⟨D, 0, none⟩), .pointer (some ⟨L, 0, none⟩), .pointer (some ⟨N, 0, none⟩)] w fun e w' => e = .returned (.int .u32 (numF (stepsF S C m) % n)) ∧ Gn w' G (stepsF S C (m + 1)) C ∧ But G w w' := by
  have HX : Hid _ := fun j w => next_any (stepsF S C j) C G w (steps_range hr.1 hr.2 j).1 (steps_range hr.1 hr.2 j).2
  have HE : Hid (∀ j, stepF (stepsF S C j) C = stepsF S C (j + 1)) := fun j => rfl
  have HNR : Hid _ := fun j => num_range (steps_range (c := C) hr.1 hr.2 j).1 (steps_range (c := C) hr.1 hr.2 j).2
  have HLT : Aside _ := hlt
  have HGE : Aside _ := hge
  have HD : Aside _ := hD
  have HL : Aside _ := hL
  have HN : Aside _ := hN
  have kD := Lp.Bk.cell hD
  clear hlt hge hD hL hN hr
  have hG0 : Gn w G (stepsF S C 0) C := hG
  clear hG
  go_enter Try.func22, Try.ntmps22
  go_wp2_with fail
  refine Calls.mono (HX.out 0 _ hG0) ?_
  clear hG0 kD
  rintro e w1 ⟨rfl, hG, HB⟩
  rw [HE.out] at hG
  go_wp2_with fail
  go_loopg [4] m (fun k x wr => ∃ j : Nat, k + j = m ∧ x = .int .u32 (numF (stepsF S C j)) ∧ Gn wr G (stepsF S C (j + 1)) C ∧ But G w wr)
  case atStart => exact ⟨0, by omega, rfl, hG, HB⟩
  case round =>
    clear hG HB
    obtain ⟨j, hk, rfl, hG, HB⟩ := hrel
    have HK : Aside _ := hk
    clear hk
    have kD := Lp.Bk.cell (HB.keep HD.out nD)
    have kL := Lp.Bk.cell (HB.keep HL.out nL)
    have kN := Lp.Bk.cell (HB.keep HN.out nN)
    by_cases hj : j < m
    · have hd : (numF (stepsF S C j) < l) = True := eq_true (HLT.out j hj)
      generalize numF (stepsF S C j) = x at *
      go_wp2_with fail
      refine Calls.mono (HX.out (j + 1) _ hG) ?_
      clear hG kD kL kN
      rintro e w2 ⟨rfl, hG, hb⟩
      rw [HE.out] at hG
      replace HB := HB.trans hb
      clear hb
      go_wp2_with fail
      go_roundg (gk - 1)
      case measure => have := HK.out; omega
      case rel => exact ⟨j + 1, by have := HK.out; omega, rfl, hG, HB⟩
    · have hjm : j = m := by have := HK.out; omega
      subst hjm
      have hd : (numF (stepsF S C j) < l) = False := eq_false (by have := HGE.out; omega)
      have hr := HNR.out j
      generalize hx : numF (stepsF S C j) = x at *
      obtain ⟨r0, r1⟩ := hr
      go_wp2_with fail
      go_ret
      exact ⟨by subst hx; rfl, hG, HB⟩

set_option maxRecDepth 100000 in
set_option maxHeartbeats 1000000 in
theorem below_any (S C n : Int) (m G : Nat) (w : World) (hr : 0 ≤ S ∧ S < 18446744073709551616) (hG : Gn w G S C) (hC : C ≠ 0) (h0 : 0 < n) (h1 : n < 4294967296) (hlt : ∀ j, j < m → numF (stepsF S C j) < leastF n) (hge : leastF n ≤ numF (stepsF S C m)) :
    Calls Try.prog 14 #[.pointer (some ⟨G, 0, none⟩), .int .u32 n] w fun e w' => e = .returned (.int .u32 (numF (stepsF S C m) % n)) ∧ Gn w' G (stepsF S C (m + 1)) C ∧ But G w w' := by
  have HR : Hid _ := fun w => remainder_any G n w h0 h1
  have HR1 : Hid _ := fun D L N w hG hD hL hN nD nL nN => remainder1_any S C n (leastF n) m G D L N w hr hG hD hL hN nD nL nN h0 h1 hlt hge
  clear hlt hge hr
  generalize numF (stepsF S C m) % n = z at *
  generalize stepsF S C (m + 1) = S1 at *
  generalize leastF n = l at *
  have hc : (C == 0) = false := beq_eq_false_iff_ne.2 hC
  have hn : (n == 0) = false := beq_eq_false_iff_ne.2 (by omega)
  have kG := Lp.Bk.cell hG
  have HG : Hid _ := hG
  have hlt := Lp.Bk.lt hG
  have HLT : Aside _ := hlt
  clear hG hlt
  go_enter Try.func14, Try.ntmps14
  go_wp2_with fail
  refine Calls.mono (HR.out _) ?_
  rintro e w1 ⟨rfl, hw⟩
  obtain rfl := hw
  clear kG
  go_wp2_with fail
  refine Calls.mono (HR1.out _ _ _ _ (((Lp.Bk.alo HG.out _).alo _).alo _) (((Lp.Bk.al w _ _).alo _).alo _) (Lp.Bk.al2 w _ _ _ _) ((Lp.Bk.al1 w _ _ _).alo _) (by have := HLT.out; omega) (by have := HLT.out; omega) (by have := HLT.out; omega)) ?_
  rintro e w1 ⟨rfl, hG, hb⟩
  have HB := (But.of (B := G) ((((Below.refl w.heap.size w).alloc (Nat.le_refl _) _).alloc (by simp) _).alloc (by simp; omega) _)).trans hb
  clear hb
  go_wp2_with fail
  go_ret
  exact ⟨rfl, hG, HB⟩

set_option maxRecDepth 100000 in
set_option maxHeartbeats 1000000 in
theorem below_zero (S C : Int) (G : Nat) (w : World) (hG : Gn w G S C) (hC : C ≠ 0) : Calls Try.prog 14 #[.pointer (some ⟨G, 0, none⟩), .int .u32 0] w fun e w' => e = .returned (.int .u32 0) ∧ w' = w := by
  have hc : (C == 0) = false := beq_eq_false_iff_ne.2 hC
  have kG := Lp.Bk.cell hG
  go_enter Try.func14, Try.ntmps14
  go_wp2_with fail
  go_ret
  exact ⟨rfl, rfl⟩

set_option maxRecDepth 100000 in
set_option maxHeartbeats 1000000 in
theorem below_nil (w : World) : Calls Try.prog 14 #[.pointer none, .int .u32 5] w fun e w' => e = .returned (.int .u32 0) ∧ w' = w := by
  go_enter Try.func14, Try.ntmps14
  go_wp2_with fail
  go_ret
  exact ⟨rfl, rfl⟩

end Go.Proofs.Ytjjjehghjhdceaa
