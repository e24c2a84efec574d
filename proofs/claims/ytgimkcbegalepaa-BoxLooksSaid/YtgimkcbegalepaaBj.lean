/- Package box: Through. -/
import Derived.Deep.LoopGhost
import Derived.Test.YtgimkcbegalepaaRows
import Derived.Test.YtgimkcbegalepaaBa
import Derived.Test.YtgimkcbegalepaaBi
import Derived.Test.YtgimkcbegalepaaVj
import Derived.Test.YtgimkcbegalepaaLr
namespace Go.Proofs.Ytgimkcbegalepaa
open Go.RowKit Fl

/-- What is answered. -/
def outT : Option (Nat × Nat) → Value
  | some s => .tuple #[.float .f64 s.1, .float .f64 s.2, .bool true]
  | none => .tuple #[.float .f64 0, .float .f64 0, .bool false]
def rayB (r0 r1 r2 r3 r4 r5 : Nat) : Bool := (numB r0 && numB r1 && numB r2) && (numB r3 && numB r4 && numB r5)
def goesF (b0 b1 b2 b3 b4 b5 r0 r1 r2 r3 r4 r5 : Nat) : Option (Nat × Nat) := if rayB r0 r1 r2 r3 r4 r5 then throughF (fun k => partF r0 r1 r2 k) (fun k => partF r3 r4 r5 k) (fun k => partF b0 b1 b2 k) (fun k => partF b3 b4 b5 k) else none

theorem st_none {o d lo hi : Nat → Nat} {j : Nat} (h : stF o d lo hi j = none) : ∀ n, stF o d lo hi (j + n) = none
  | 0 => h
  | n + 1 => by show (stF o d lo hi (j + n)).bind _ = none; rw [st_none h n]; rfl
theorem through_none {o d lo hi : Nat → Nat} {j : Nat} (h : stF o d lo hi j = none) (hj : j ≤ 3) : throughF o d lo hi = none := by
  unfold throughF
  have := st_none h (3 - j)
  rw [show j + (3 - j) = 3 by omega] at this
  rw [this]; rfl
theorem ax_other {o d lo hi : Nat} {s : Nat × Nat} (h : (ford d 0 != some .eq) = true) : axF o d lo hi s = some (thrF o d lo hi s.1 s.2) := by
  unfold axF
  have : (ford d 0 == some .eq) = false := by simpa [bne] using h
  rw [this]; rfl
theorem ax_zero {o d lo hi : Nat} {s : Nat × Nat} (h : (ford d 0 != some .eq) = false) : axF o d lo hi s = if leB lo o && leB o hi then some s else none := by
  unfold axF
  have : (ford d 0 == some .eq) = true := by simpa [bne] using h
  rw [this]; rfl

set_option maxRecDepth 100000 in
set_option maxHeartbeats 1000000 in
theorem through_any (b0 b1 b2 b3 b4 b5 r0 r1 r2 r3 r4 r5 : Nat) (w : World) : Ret Try.prog 16 #[.agg #[.float .f64 b0, .float .f64 b1, .float .f64 b2, .float .f64 b3, .float .f64 b4, .float .f64 b5], .agg #[.float .f64 r0, .float .f64 r1, .float .f64 r2, .float .f64 r3, .float .f64 r4, .float .f64 r5]] w (fun v => v = outT (goesF b0 b1 b2 b3 b4 b5 r0 r1 r2 r3 r4 r5)) := by
  unfold Ret goesF rayB
  have HO : Hid _ := finite_any r0 r1 r2
  have HD : Hid _ := finite_any r3 r4 r5
  generalize (numB r0 && numB r1 && numB r2) = p at HO ⊢
  generalize (numB r3 && numB r4 && numB r5) = q at HD ⊢
  cases p
  · go_enter Try.func16, Try.ntmps16
    go_wp2_with fail
    refine Lp.settleC (fun w' => Lp.Bk w' (w.heap.size) #[.float .f64 b0, .float .f64 b1, .float .f64 b2, .float .f64 b3, .float .f64 b4, .float .f64 b5] 26 ∧ Lp.Bk w' (w.heap.size + 1) #[.float .f64 r0, .float .f64 r1, .float .f64 r2, .float .f64 r3, .float .f64 r4, .float .f64 r5] 37 ∧ Cl w w') ⟨((Lp.Bk.al _ _ _).alo _), (Lp.Bk.al1 _ _ _ _), ((Below.refl _ _).alloc (by simp <;> omega) _).alloc (by simp <;> omega) _⟩ ?_
    rintro v1 ⟨BB, BR, HB⟩
    have kB := BB.cell
    have kR := BR.cell
    refine Calls.mono (HO.out _) ?_
    rintro e v2 ⟨v, rfl, rfl, hm⟩
    clear kB kR
    replace BB := BB.keep hm
    replace BR := BR.keep hm
    replace HB := HB.call hm
    clear hm
    have kB := BB.cell
    have kR := BR.cell
    go_wp2_with fail
    go_ret3
    exact ⟨_, rfl, rfl, HB⟩
  cases q
  · go_enter Try.func16, Try.ntmps16
    go_wp2_with fail
    refine Lp.settleC (fun w' => Lp.Bk w' (w.heap.size) #[.float .f64 b0, .float .f64 b1, .float .f64 b2, .float .f64 b3, .float .f64 b4, .float .f64 b5] 26 ∧ Lp.Bk w' (w.heap.size + 1) #[.float .f64 r0, .float .f64 r1, .float .f64 r2, .float .f64 r3, .float .f64 r4, .float .f64 r5] 37 ∧ Cl w w') ⟨((Lp.Bk.al _ _ _).alo _), (Lp.Bk.al1 _ _ _ _), ((Below.refl _ _).alloc (by simp <;> omega) _).alloc (by simp <;> omega) _⟩ ?_
    rintro v1 ⟨BB, BR, HB⟩
    have kB := BB.cell
    have kR := BR.cell
    refine Calls.mono (HO.out _) ?_
    rintro e v2 ⟨v, rfl, rfl, hm⟩
    clear kB kR
    replace BB := BB.keep hm
    replace BR := BR.keep hm
    replace HB := HB.call hm
    clear hm
    have kB := BB.cell
    have kR := BR.cell
    go_wp2_with fail
    refine Calls.mono (HD.out _) ?_
    rintro e v3 ⟨v, rfl, rfl, hm⟩
    clear kB kR
    replace BB := BB.keep hm
    replace BR := BR.keep hm
    replace HB := HB.call hm
    clear hm
    have kB := BB.cell
    have kR := BR.cell
    go_wp2_with fail
    go_ret3
    exact ⟨_, rfl, rfl, HB⟩
  go_enter Try.func16, Try.ntmps16
  go_wp2_with fail
  refine Lp.settleC (fun w' => Lp.Bk w' (w.heap.size) #[.float .f64 b0, .float .f64 b1, .float .f64 b2, .float .f64 b3, .float .f64 b4, .float .f64 b5] 26 ∧ Lp.Bk w' (w.heap.size + 1) #[.float .f64 r0, .float .f64 r1, .float .f64 r2, .float .f64 r3, .float .f64 r4, .float .f64 r5] 37 ∧ Cl w w') ⟨((Lp.Bk.al _ _ _).alo _), (Lp.Bk.al1 _ _ _ _), ((Below.refl _ _).alloc (by simp <;> omega) _).alloc (by simp <;> omega) _⟩ ?_
  rintro v1 ⟨BB, BR, HB⟩
  have kB := BB.cell
  have kR := BR.cell
  refine Calls.mono (HO.out _) ?_
  rintro e v2 ⟨v, rfl, rfl, hm⟩
  clear kB kR
  replace BB := BB.keep hm
  replace BR := BR.keep hm
  replace HB := HB.call hm
  clear hm
  have kB := BB.cell
  have kR := BR.cell
  go_wp2_with fail
  refine Calls.mono (HD.out _) ?_
  rintro e v3 ⟨v, rfl, rfl, hm⟩
  clear kB kR
  replace BB := BB.keep hm
  replace BR := BR.keep hm
  replace HB := HB.call hm
  clear hm
  have kB := BB.cell
  have kR := BR.cell
  go_wp2_with fail
  refine Calls.mono (inf_pos _) ?_
  rintro e w' ⟨rfl, hw⟩
  obtain rfl := hw.symm
  clear hw
  go_wp2_with fail
  clear kB kR
  go_loopg [7, 8, 27] 3 (fun k n f i wr => ∃ (j : Nat) (s : Nat × Nat), k + j = 3 ∧ i = .int .i64 (j : Int) ∧ n = .float .f64 s.1 ∧ f = .float .f64 s.2 ∧ stF (fun k => partF r0 r1 r2 k) (fun k => partF r3 r4 r5 k) (fun k => partF b0 b1 b2 k) (fun k => partF b3 b4 b5 k) j = some s ∧ Lp.Bk wr (w.heap.size) #[.float .f64 b0, .float .f64 b1, .float .f64 b2, .float .f64 b3, .float .f64 b4, .float .f64 b5] 26 ∧ Lp.Bk wr (w.heap.size + 1) #[.float .f64 r0, .float .f64 r1, .float .f64 r2, .float .f64 r3, .float .f64 r4, .float .f64 r5] 37 ∧ Cl w wr)
  case atStart => exact ⟨0, (0, pinf), rfl, rfl, rfl, rfl, rfl, BB, BR, HB⟩
  case round =>
    clear BB BR HB
    obtain ⟨j, s, hk, rfl, rfl, rfl, hs, BB, BR, HB⟩ := hrel
    by_cases hj : j < 3
    · have HS : Aside _ := And.intro hk (show stF (fun k => partF r0 r1 r2 k) (fun k => partF r3 r4 r5 k) (fun k => partF b0 b1 b2 k) (fun k => partF b3 b4 b5 k) (j + 1) = axF (partF r0 r1 r2 j) (partF r3 r4 r5 j) (partF b0 b1 b2 j) (partF b3 b4 b5 j) s by show (stF _ _ _ _ j).bind _ = _; rw [hs]; rfl)
      clear hk hs
      have hd : ((j : Int) < 3) = True := eq_true (by omega)
      have hl1 : (partF r3 r4 r5 j) = (partF r3 r4 r5 j) := rfl
      clear hl1
      go_wp2_with fail
      apply Lp.wp_region_loose _ _ 10 (by kernel_rfl) (by kernel_rfl) (by kernel_rfl) (Below.refl _ _)
      apply Lp.facts
      · intro w1 hw
        exact And.intro (BB.cl hw).cell ((BR.cl hw).cell)
      intro HF
      iterate 3 (
        apply Lp.one ?_ rfl
        · intro w hw
          obtain ⟨k0, k1⟩ := HF.out _ hw
          go_simp
          exact rfl
        intro K hK
        go_simp
        refine hK.out _ ?_
        clear hK K)
      apply Lp.any rfl
      · intro w hw
        go_simp
        exact Lp.ret (vpart_any _ _ _ _ _)
      intro K hK
      rintro v rfl
      go_simp
      refine hK.out _ ?_
      clear hK K
      iterate 3 (
        apply Lp.one ?_ rfl
        · intro w hw
          obtain ⟨k0, k1⟩ := HF.out _ hw
          go_simp
          exact rfl
        intro K hK
        go_simp
        refine hK.out _ ?_
        clear hK K)
      apply Lp.any rfl
      · intro w hw
        go_simp
        exact Lp.ret (vpart_any _ _ _ _ _)
      intro K hK
      rintro v rfl
      go_simp
      refine hK.out _ ?_
      clear hK K
      iterate 2 (
        apply Lp.one ?_ rfl
        · intro w hw
          obtain ⟨k0, k1⟩ := HF.out _ hw
          go_simp
          exact rfl
        intro K hK
        go_simp
        refine hK.out _ ?_
        clear hK K)
      rotate_left
      exact []
      intro v4 hm
      replace BB := BB.keep hm
      replace BR := BR.keep hm
      replace HB := HB.call hm
      clear hm
      have kB := BB.cell
      have kR := BR.cell
      go_wp2_with fail
      apply Lp.wp_region_loose _ _ 10 (by kernel_rfl) (by kernel_rfl) (by kernel_rfl) (Below.refl _ _)
      apply Lp.facts
      · intro w1 hw
        exact And.intro (BB.cl hw).cell ((BR.cl hw).cell)
      intro HF
      iterate 3 (
        apply Lp.one ?_ rfl
        · intro w hw
          obtain ⟨k0, k1⟩ := HF.out _ hw
          go_simp
          exact rfl
        intro K hK
        go_simp
        refine hK.out _ ?_
        clear hK K)
      apply Lp.any rfl
      · intro w hw
        go_simp
        exact Lp.ret (vpart_any _ _ _ _ _)
      intro K hK
      rintro v rfl
      go_simp
      refine hK.out _ ?_
      clear hK K
      iterate 3 (
        apply Lp.one ?_ rfl
        · intro w hw
          obtain ⟨k0, k1⟩ := HF.out _ hw
          go_simp
          exact rfl
        intro K hK
        go_simp
        refine hK.out _ ?_
        clear hK K)
      apply Lp.any rfl
      · intro w hw
        go_simp
        exact Lp.ret (vpart_any _ _ _ _ _)
      intro K hK
      rintro v rfl
      go_simp
      refine hK.out _ ?_
      clear hK K
      iterate 2 (
        apply Lp.one ?_ rfl
        · intro w hw
          obtain ⟨k0, k1⟩ := HF.out _ hw
          go_simp
          exact rfl
        intro K hK
        go_simp
        refine hK.out _ ?_
        clear hK K)
      rotate_left
      exact []
      intro v5 hm
      clear kB kR
      replace BB := BB.keep hm
      replace BR := BR.keep hm
      replace HB := HB.call hm
      clear hm
      have kB := BB.cell
      have kR := BR.cell
      go_wp2_with fail
      · have hz : (ford (partF r3 r4 r5 j) 0 != some .eq) = true := by assumption
        replace HS : Aside _ := And.intro HS.out.1 (HS.out.2.trans (ax_other hz))
        clear hz
        refine Calls.mono (ends_any _ _ _) ?_
        rintro e v8 ⟨i, hi, rfl, hm, BO, BI⟩
        clear kB kR
        replace BB := BB.keep hm
        replace BR := BR.keep hm
        replace HB := HB.call hm
        clear hm
        have kB := BB.cell
        have kR := BR.cell
        go_wp2_with fail
        refine Calls.mono (ends1_any _ _ _ _ _ _ _ hi.sm _ BO BI) ?_
        rintro e v9 ⟨_, rfl, ⟨x, y, rfl, hx, hy⟩, hm⟩
        clear BO BI
        clear kB kR
        replace BB := BB.keep hm
        replace BR := BR.keep hm
        replace HB := HB.call hm
        clear hm
        have kB := BB.cell
        have kR := BR.cell
        go_wp2_with fail
        refine Calls.mono (greater_any _ _ _) ?_
        rintro e w' ⟨rfl, hw⟩
        obtain rfl := hw.symm
        clear hw
        go_wp2_with fail
        refine Calls.mono (lesser_any _ _ _) ?_
        rintro e w' ⟨rfl, hw⟩
        obtain rfl := hw.symm
        clear hw
        go_wp2_with fail
        go_roundg (gk - 1)
        case measure => have := HS.out.1; omega
        case rel => exact ⟨j + 1, _, by have := HS.out.1; omega, by go_num, by rw [thrF_eq]; exact congrArg (Value.float .f64) (high_sm hx.sm), by rw [thrF_eq]; exact congrArg (Value.float .f64) (low_sm hy.sm), HS.out.2, BB, BR, HB⟩
      · have hz : (ford (partF r3 r4 r5 j) 0 != some .eq) = false := by assumption
        have hn : (leB (partF b0 b1 b2 j) (partF r0 r1 r2 j) && leB (partF r0 r1 r2 j) (partF b3 b4 b5 j)) = false := by first | exact le2_off (by assumption) | exact le2_off1 (by assumption)
        have hst := HS.out.2.trans (ax_zero hz)
        rw [hn, if_neg Bool.false_ne_true] at hst
        go_ret3
        exact ⟨_, rfl, by rw [through_none hst (by omega)]; rfl, HB⟩
      · have hz : (ford (partF r3 r4 r5 j) 0 != some .eq) = false := by assumption
        have hn : (leB (partF b0 b1 b2 j) (partF r0 r1 r2 j) && leB (partF r0 r1 r2 j) (partF b3 b4 b5 j)) = true := le2_on (by assumption)
        have hst := HS.out.2.trans (ax_zero hz)
        rw [hn, if_pos rfl] at hst
        go_roundg (gk - 1)
        case measure => have := HS.out.1; omega
        case rel => exact ⟨j + 1, _, by have := HS.out.1; omega, by go_num, rfl, rfl, hst, BB, BR, HB⟩
      · have hz : (ford (partF r3 r4 r5 j) 0 != some .eq) = false := by assumption
        have hn : (leB (partF b0 b1 b2 j) (partF r0 r1 r2 j) && leB (partF r0 r1 r2 j) (partF b3 b4 b5 j)) = false := by first | exact le2_off (by assumption) | exact le2_off1 (by assumption)
        have hst := HS.out.2.trans (ax_zero hz)
        rw [hn, if_neg Bool.false_ne_true] at hst
        go_ret3
        exact ⟨_, rfl, by rw [through_none hst (by omega)]; rfl, HB⟩
    · have hj3 : j = 3 := by omega
      subst hj3
      have hd : (((3 : Nat) : Int) < 3) = False := eq_false (by omega)
      go_wp2_with fail
      · have hn : leB s.1 s.2 = true := leB_onC (by assumption)
        go_ret3
        exact ⟨_, rfl, by unfold throughF; rw [hs]; show _ = outT (finF s); unfold finF; rw [hn]; rfl, HB⟩
      · have hn : leB s.1 s.2 = false := leB_offC (by assumption)
        go_ret3
        exact ⟨_, rfl, by unfold throughF; rw [hs]; show _ = outT (finF s); unfold finF; rw [hn]; rfl, HB⟩

end Go.Proofs.Ytgimkcbegalepaa
