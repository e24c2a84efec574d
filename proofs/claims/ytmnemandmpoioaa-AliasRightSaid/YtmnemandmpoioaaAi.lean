/- Package alias: New. -/
import Derived.Deep.LoopGhost
import Derived.Test.YtmnemandmpoioaaAh
namespace Go.Proofs.Ytmnemandmpoioaa
open Go.RowKit Fl

/-- What New tells of these weights: which error; 0: none. -/
def newE (n : Nat) (f : Nat → Int) : Int := if 1024 < n then 4 else if n = 0 ∨ 0 ≤ firstBad f 0 n then 2 else if sumN f n = 0 then 13 else 0

theorem sum_step (f : Nat → Int) (n : Nat) : sumN f n + f n = sumN f (n + 1) := rfl
theorem sum_range {f : Nat → Int} {n : Nat} (h : ∀ i, i < n → 0 ≤ f i ∧ f i ≤ 1048576) (hn : n ≤ 1024) : 0 ≤ sumN f n ∧ sumN f n ≤ 1073741824 := by
  have a := sumN_nonneg (f := f) (n := n) fun i hi => (h i hi).1
  have b := sumN_le (f := f) (n := n) (c := 1048576) fun i hi => (h i hi).2
  omega
theorem good_all {f : Nat → Int} : ∀ {k j : Nat}, firstBad f j k < 0 → ∀ i, j ≤ i → i < j + k → 0 ≤ f i ∧ f i ≤ 1048576
  | 0, j, _, i, h1, h2 => by omega
  | k + 1, j, h, i, h1, h2 => by
    rw [firstBad] at h
    split at h
    · omega
    · rename_i hb
      by_cases e : i = j
      · subst e
        unfold badW at hb
        simp at hb
        omega
      · exact good_all h i (by omega) (by omega)

section
variable (n c : Nat) (ao : Option Addr) (f : Nat → Int) (w : World)
set_option maxRecDepth 100000 in
set_option maxHeartbeats 1000000 in
theorem new_big (hn : 1024 < n) (hm : n ≤ 1000000) : Calls Try.prog 7 #[.slice ao n c] w fun e w' => e = .returned (.tuple #[.pointer none, .int .i64 4]) ∧ Below w.heap.size w w' := by
  have hd : (1024 < (n : Int)) = True := eq_true (by omega)
  go_enter Try.func7, Try.ntmps7
  go_wp2_with fail
  go_ret2
  exact ⟨rfl, Below.refl _ _⟩

set_option maxRecDepth 100000 in
set_option maxHeartbeats 1000000 in
theorem new_none : Calls Try.prog 7 #[.slice ao 0 c] w fun e w' => e = .returned (.tuple #[.pointer none, .int .i64 2]) ∧ Below w.heap.size w w' := by
  go_enter Try.func7, Try.ntmps7
  go_wp2_with fail
  go_ret2
  exact ⟨rfl, Below.refl _ _⟩

set_option maxRecDepth 100000 in
set_option maxHeartbeats 1000000 in
theorem new_bad (h : Nms w ao n f) (hn : n ≤ 1024) (h0 : 0 < n) (hb : 0 ≤ firstBad f 0 n) : Calls Try.prog 7 #[.slice ao n c] w fun e w' => e = .returned (.tuple #[.pointer none, .int .i64 2]) ∧ Below w.heap.size w w' := by
  have HC := hid (contains_any n c ao f w h (by omega) true (decide_eq_true hb).symm)
  have hd : (1024 < (n : Int)) = False := eq_false (by omega)
  have hd2 : ((n : Int) = 0) = False := eq_false (by omega)
  have hd3 : ((n : Int) == 0) = false := beq_eq_false_iff_ne.2 (by omega)
  clear h hb
  go_enter Try.func7, Try.ntmps7
  go_wp2_with fail
  refine Calls.mono HC.out ?_
  rintro e w' ⟨rfl, hw⟩
  obtain rfl := hw.symm
  clear hw
  go_wp2_with fail
  go_ret2
  exact ⟨rfl, Below.refl _ _⟩
end

set_option maxRecDepth 100000 in
set_option maxHeartbeats 2000000 in
theorem new_good (n c : Nat) (ao : Option Addr) (f : Nat → Int) (w : World) (h : Nms w ao n f) (hn : n ≤ 1024) (h0 : 0 < n) (hb : firstBad f 0 n < 0) : Calls Try.prog 7 #[.slice ao n c] w fun e w' => Below w.heap.size w w' ∧
    if sumN f n = 0 then e = .returned (.tuple #[.pointer none, .int .i64 13]) else ∃ T, e = .returned (.tuple #[.pointer (some ⟨T, 0, none⟩), .int .i64 0]) ∧ Tbl w' T n (sumN f n) f (colsF (sumN f n) n f).1 (colsF (sumN f n) n f).2 := by
  have HC := hid (contains_any n c ao f w h (by omega) false (decide_eq_false (by omega)).symm)
  have hg := good_all hb
  have HG := hid (fun i (hi : i < n) => hg i (Nat.zero_le _) (by omega))
  have HSR := hid (sum_range HG.out hn)
  obtain ⟨g, off, rfl, hI⟩ : ∃ g off, ao = some ⟨g, off, none⟩ ∧ Rdo w g off n f := h.resolve_left (by omega)
  have HCL := hid (clone_any n c g off f w hI h0 (by omega))
  have HI := hid hI
  have HLT := hid hI.lt
  have hd : (1024 < (n : Int)) = False := eq_false (by omega)
  have hd2 : ((n : Int) = 0) = False := eq_false (by omega)
  have hd3 : ((n : Int) == 0) = false := beq_eq_false_iff_ne.2 (by omega)
  clear h hb hg hI
  go_enter Try.func7, Try.ntmps7
  go_wp2_with fail
  refine Calls.mono HC.out ?_
  rintro e w' ⟨rfl, hw⟩
  obtain rfl := hw.symm
  clear hw HC
  go_wp2_with fail
  refine Calls.mono HCL.out ?_
  rintro e w1 ⟨gw, cw, rfl, hg1, hI1, hb1⟩
  have HI1 := hid hI1
  have HB1 := hid hb1
  have HG1 := hid hg1
  clear hI1 hb1 hg1 HCL
  go_wp2_with fail
  have hT := Lp.Bk.al w1 #[.slice (some ⟨gw, 0, none⟩) n cw, .slice none 0 0, .slice none 0 0, .int .i64 0] 51
  have hI2 := HI1.out.alo (.cells #[.slice (some ⟨gw, 0, none⟩) n cw, .slice none 0 0, .slice none 0 0, .int .i64 0] 51)
  have hB2 := HB1.out.alloc HB1.out.size (.cells #[.slice (some ⟨gw, 0, none⟩) n cw, .slice none 0 0, .slice none 0 0, .int .i64 0] 51)
  have HTW := hid HB1.out.size
  have HGT := hid (Nat.ne_of_lt HI1.out.lt)
  generalize w1.heap.size = T at *
  go_loopg [23] n (fun k i wr => ∃ j : Nat, k + j = n ∧ i = .int .i64 (j : Int) ∧ Lp.Bk wr T #[.slice (some ⟨gw, 0, none⟩) n cw, .slice none 0 0, .slice none 0 0, .int .i64 (sumN f j)] 51 ∧ Ir wr gw n f ∧ Below w.heap.size w wr)
  case atStart => exact ⟨0, by omega, rfl, hT, hI2, hB2⟩
  case round =>
    clear hT hI2 hB2
    obtain ⟨g0, hg0⟩ : ∃ g0, g0 = gk := ⟨_, rfl⟩
    subst hg0
    obtain ⟨j, hk, rfl, hT, hI2, hB⟩ := hrel
    have HK := aside hk
    have HT2 := hid hT
    have HI2 := hid hI2
    have HB := hid hB
    clear hk hT hI2 hB
    by_cases hj : j < n
    · have hd : ((j : Int) < (n : Int)) = True := eq_true (by omega)
      have kI := (HI.out.keep HB.out).cell hj
      have kT := HT2.out.cell
      have zT := HT2.out.frz
      have hx := HG.out j hj
      have hs := sum_range (f := f) (n := j) (fun i hi => HG.out i (by omega)) (by omega)
      have HE := aside (sum_step f j)
      generalize f j = x at *
      generalize sumN f j = s at *
      obtain ⟨x0, x1⟩ := hx
      obtain ⟨s0, s1⟩ := hs
      go_wp2_with fail
      go_roundg (g0 - 1)
      case measure => have := HK.out; omega
      case rel => exact ⟨j + 1, by have := HK.out; omega, by go_num, by rw [← HE.out]; exact HT2.out.set 3 _, HI2.out.seto HGT.out _, HB.out.setCell HTW.out _⟩
    · have hd : ((j : Int) < (n : Int)) = False := eq_false (by omega)
      have hjn : j = n := by have := HK.out; omega
      subst hjn
      have kT := HT2.out.cell
      by_cases hz : sumN f j = 0
      · have HZ := aside hz
        have hzd : (sumN f j == 0) = true := beq_iff_eq.2 hz
        clear hz
        go_wp2_with fail
        go_ret2
        exact ⟨HB.out, rfl⟩
      · have HZ := aside hz
        have hzd : (sumN f j == 0) = false := beq_eq_false_iff_ne.2 hz
        have hzd2 : (sumN f j = 0) = False := eq_false hz
        have HLY := hid (lay_any T j gw cw (sumN f j) f wr HT2.out HI2.out HGT.out h0 hn HG.out HSR.out)
        go_wp2_with fail
        refine Calls.mono HLY.out ?_
        rintro e w4 ⟨rfl, hTb, hb⟩
        have HR := aside (And.intro hTb (hb.below HB.out HTW.out HB.out.size))
        clear hTb hb kT
        go_wp2_with fail
        go_ret2
        exact ⟨HR.out.2, T, rfl, HR.out.1⟩
end Go.Proofs.Ytmnemandmpoioaa
