/- Where a ray goes through a box, axis by axis; what goes through a part goes through all. Package box: ends, and the function that it makes. Package box: Through. Package tri: inside, asker, what it makes, Meet. -/
import Derived.Deep.LoopGhost
import Derived.Test.YtfeomlbfmbpmaaaG7
import Derived.Test.YtfeomlbfmbpmaaaRows
import Derived.Test.YtfeomlbfmbpmaaaG3
import Derived.Test.YtfeomlbfmbpmaaaG5
import Derived.Test.YtfeomlbfmbpmaaaG2
import Derived.Test.YtfeomlbfmbpmaaaG6
namespace Go.Proofs.Ytfeomlbfmbpmaaa.Fl

/-- One axis. -/
def axF (o d lo hi : Nat) (s : Nat × Nat) : Option (Nat × Nat) :=
  if ford d 0 == some .eq then (if leB lo o && leB o hi then some s else none) else some (thrF o d lo hi s.1 s.2)
/-- near and far behind k axes. -/
def stF (o d lo hi : Nat → Nat) : Nat → Option (Nat × Nat)
  | 0 => some (0, 9218868437227405312)
  | k + 1 => (stF o d lo hi k).bind (axF (o k) (d k) (lo k) (hi k))
def finF (s : Nat × Nat) : Option (Nat × Nat) := if leB s.1 s.2 then some s else none
def throughF (o d lo hi : Nat → Nat) : Option (Nat × Nat) := (stF o d lo hi 3).bind finF

/-- A float that is a number is one. -/
theorem leB_of_val {x y : Nat} (hx : Num x) (hy : Num y) (h : val x ≤ val y) : leB x y = true := by
  rw [leB_val hx hy]; exact decide_eq_true h
theorem val_of_leB {x y : Nat} (hx : Num x) (hy : Num y) (h : leB x y = true) : val x ≤ val y := by
  rw [leB_val hx hy] at h; exact of_decide_eq_true h

theorem ax_within {o d lo hi lo2 hi2 : Nat} {s s2 r : Nat × Nat} (ho : Num o) (hd : Num d) (h1 : Num lo) (h2 : Num hi) (h3 : Num lo2) (h4 : Num hi2) (hl : val lo2 ≤ val lo) (hh : val hi ≤ val hi2)
    (hn : leB s2.1 s.1 = true) (hf : leB s.2 s2.2 = true) (h : axF o d lo hi s = some r) : ∃ r2, axF o d lo2 hi2 s2 = some r2 ∧ leB r2.1 r.1 = true ∧ leB r.2 r2.2 = true := by
  unfold axF at h ⊢
  cases hz : ford d 0 == some .eq
  · rw [hz] at h
    simp only [Bool.false_eq_true, if_false, Option.some.injEq] at h ⊢
    subst h
    have hz0 : val d ≠ 0 := by
      intro h0
      obtain ⟨a, b, e, _, heq⟩ := ord_val hd num_zero
      rw [val_zero] at heq
      have := heq.2 h0
      subst this
      rw [e] at hz
      simp at hz
    exact ⟨_, rfl, thr_within ho hd hz0 h1 h2 h3 h4 hl hh hn hf⟩
  · rw [hz] at h
    simp only [if_true] at h ⊢
    cases hc : leB lo o && leB o hi
    · rw [hc] at h; simp at h
    · rw [hc] at h
      simp only [if_true, Option.some.injEq] at h
      subst h
      simp only [Bool.and_eq_true] at hc
      have a1 := val_of_leB h1 ho hc.1
      have a2 := val_of_leB ho h2 hc.2
      have e1 := leB_of_val h3 ho (Rat.le_trans hl a1)
      have e2 := leB_of_val ho h4 (Rat.le_trans a2 hh)
      rw [e1, e2]
      exact ⟨s2, rfl, hn, hf⟩

theorem num_pinf : isN 9218868437227405312 = false := by decide +kernel
theorem num_nought : isN 0 = false := by decide +kernel

theorem st_within {o d lo hi lo2 hi2 : Nat → Nat} (ho : ∀ k, Num (o k)) (hd : ∀ k, Num (d k)) (h1 : ∀ k, Num (lo k)) (h2 : ∀ k, Num (hi k)) (h3 : ∀ k, Num (lo2 k)) (h4 : ∀ k, Num (hi2 k)) (hl : ∀ k, val (lo2 k) ≤ val (lo k)) (hh : ∀ k, val (hi k) ≤ val (hi2 k)) :
    ∀ k r, stF o d lo hi k = some r → ∃ r2, stF o d lo2 hi2 k = some r2 ∧ leB r2.1 r.1 = true ∧ leB r.2 r2.2 = true := by
  intro k
  induction k with
  | zero =>
    intro r h
    simp only [stF, Option.some.injEq] at h
    subst h
    exact ⟨_, rfl, leB_refl num_nought, leB_refl num_pinf⟩
  | succ k ih =>
    intro r h
    simp only [stF] at h ⊢
    cases hs : stF o d lo hi k with
    | none => rw [hs] at h; cases h
    | some s =>
      rw [hs] at h
      obtain ⟨s2, e2, hn, hf⟩ := ih s hs
      rw [e2]
      exact ax_within (ho k) (hd k) (h1 k) (h2 k) (h3 k) (h4 k) (hl k) (hh k) hn hf h

theorem through_within {o d lo hi lo2 hi2 : Nat → Nat} (ho : ∀ k, Num (o k)) (hd : ∀ k, Num (d k)) (h1 : ∀ k, Num (lo k)) (h2 : ∀ k, Num (hi k)) (h3 : ∀ k, Num (lo2 k)) (h4 : ∀ k, Num (hi2 k)) (hl : ∀ k, val (lo2 k) ≤ val (lo k)) (hh : ∀ k, val (hi k) ≤ val (hi2 k))
    {r : Nat × Nat} (h : throughF o d lo hi = some r) : ∃ r2, throughF o d lo2 hi2 = some r2 ∧ leB r2.1 r.1 = true ∧ leB r.2 r2.2 = true := by
  unfold throughF at h ⊢
  cases hs : stF o d lo hi 3 with
  | none => rw [hs] at h; cases h
  | some s =>
    rw [hs] at h
    obtain ⟨s2, e2, hn, hf⟩ := st_within ho hd h1 h2 h3 h4 hl hh 3 s hs
    rw [e2]
    simp only [Option.bind_some, finF] at h ⊢
    cases hc : leB s.1 s.2
    · rw [hc] at h; simp at h
    · rw [hc] at h
      simp only [if_true, Option.some.injEq] at h
      subst h
      rw [leB_trans hn (leB_trans hc hf)]
      exact ⟨s2, rfl, hn, hf⟩
end Go.Proofs.Ytfeomlbfmbpmaaa.Fl

namespace Go.Proofs.Ytfeomlbfmbpmaaa
open Go.RowKit Fl

set_option maxRecDepth 100000 in
set_option maxHeartbeats 1000000 in
theorem ends_any (o d : Nat) (w : World) : Calls Try.prog 62 #[.float .f64 o, .float .f64 d] w fun e w' => ∃ i, Eqv i (fdiv one d) ∧ e = .returned (.func (.func 70) #[] #[.pointer (some ⟨w.heap.size, 0, none⟩), .pointer (some ⟨w.heap.size + 1, 0, none⟩)]) ∧
    Below w.heap.size w w' ∧ Lp.Bk w' w.heap.size #[.float .f64 o] 22 ∧ Lp.Bk w' (w.heap.size + 1) #[.float .f64 i] 22 := by
  go_enter Try.func62, Try.ntmps62
  go_wp2_with fail
  refine upon_div (Sm.refl _) (Sm.refl _) ?_
  intro i n hi
  go_wp2_with fail
  go_ret
  refine ⟨i, hi, rfl, ?_, ?_, ?_⟩
  · exact Below.alloc (below_dr (Below.alloc (Below.refl _ _) (Nat.le_refl _) _) _) (by simp) _
  · exact Lp.Bk.alo (Lp.Bk.dr (Lp.Bk.al _ _ _) n) _
  · exact Lp.Bk.al1 w _ _ _

/-- The nearer end's product, the farther one's. -/
def nearE (o i lo hi : Nat) : Nat := if ford i 0 == some .lt then fmul (fsub hi o) i else fmul (fsub lo o) i
def farE (o i lo hi : Nat) : Nat := if ford i 0 == some .lt then fmul (fsub lo o) i else fmul (fsub hi o) i
theorem thrF_eq (o d lo hi n f : Nat) : thrF o d lo hi n f = (highF n (nearE o (fdiv one d) lo hi), lowF f (farE o (fdiv one d) lo hi)) := by
  unfold thrF nearE farE
  dsimp only
  split <;> rfl

def isPair (x y : Nat) (v : Value) : Prop := ∃ r s, v = .tuple #[.float .f64 r, .float .f64 s] ∧ Eqv r x ∧ Eqv s y

set_option maxRecDepth 100000 in
set_option maxHeartbeats 1000000 in
theorem ends1_any (o i I lo hi bo bi : Nat) (hi0 : Sm i I) (w : World) (BO : Lp.Bk w bo #[.float .f64 o] 22) (BI : Lp.Bk w bi #[.float .f64 i] 22) :
    Ret Try.prog 70 #[.float .f64 lo, .float .f64 hi, .pointer (some ⟨bo, 0, none⟩), .pointer (some ⟨bi, 0, none⟩)] w (isPair (nearE o I lo hi) (farE o I lo hi)) := by
  unfold Ret
  have hs : (ford i 0 == some .lt) = (ford I 0 == some .lt) := by rw [ford_congr hi0 (Sm.refl 0)]
  have hp : (FloatKind.f64.format.order i 0 == some .lt) = (ford i 0 == some .lt) := rfl
  rw [hs] at hp
  unfold nearE farE
  generalize (ford I 0 == some .lt) = p at hp ⊢
  clear hs
  have HB : Cl w w := Below.refl _ _
  cases p <;>
  · go_enter Try.func70, Try.ntmps70
    go_wp2_with fail
    apply Lp.wp_region_loose _ _ 12 (by kernel_rfl) (by kernel_rfl) (by kernel_rfl) (Below.refl _ _)
    apply Lp.facts
    · intro w1 hw
      exact And.intro (BO.cl hw).cell ((BI.cl hw).cell)
    intro HF
    iterate 2 (
      apply Lp.one ?_ rfl
      · intro w hw
        obtain ⟨k0, k1⟩ := HF.out _ hw
        go_simp
        exact rfl
      intro K hK
      go_simp
      refine hK.out _ ?_
      clear hK K)
    apply Lp.any rfl
    · intro w hw
      go_simp
      exact Lp.sub (by first | exact Eqv.sm (by assumption) | exact Sm.refl _) (by first | exact Eqv.sm (by assumption) | exact Sm.refl _)
    intro K hK
    rintro v ⟨rq0, rfl, hq0⟩
    go_simp
    refine hK.out _ ?_
    clear hK K
    iterate 1 (
      apply Lp.one ?_ rfl
      · intro w hw
        obtain ⟨k0, k1⟩ := HF.out _ hw
        go_simp
        exact rfl
      intro K hK
      go_simp
      refine hK.out _ ?_
      clear hK K)
    apply Lp.any rfl
    · intro w hw
      go_simp
      exact Lp.mul (by first | exact Eqv.sm (by assumption) | exact Sm.refl _) hi0
    intro K hK
    rintro v ⟨rq1, rfl, hq1⟩
    go_simp
    refine hK.out _ ?_
    clear hK K
    iterate 2 (
      apply Lp.one ?_ rfl
      · intro w hw
        obtain ⟨k0, k1⟩ := HF.out _ hw
        go_simp
        exact rfl
      intro K hK
      go_simp
      refine hK.out _ ?_
      clear hK K)
    apply Lp.any rfl
    · intro w hw
      go_simp
      exact Lp.sub (by first | exact Eqv.sm (by assumption) | exact Sm.refl _) (by first | exact Eqv.sm (by assumption) | exact Sm.refl _)
    intro K hK
    rintro v ⟨rq2, rfl, hq2⟩
    go_simp
    refine hK.out _ ?_
    clear hK K
    iterate 1 (
      apply Lp.one ?_ rfl
      · intro w hw
        obtain ⟨k0, k1⟩ := HF.out _ hw
        go_simp
        exact rfl
      intro K hK
      go_simp
      refine hK.out _ ?_
      clear hK K)
    apply Lp.any rfl
    · intro w hw
      go_simp
      exact Lp.mul (by first | exact Eqv.sm (by assumption) | exact Sm.refl _) hi0
    intro K hK
    rintro v ⟨rq3, rfl, hq3⟩
    go_simp
    refine hK.out _ ?_
    clear hK K
    iterate 2 (
      apply Lp.one ?_ rfl
      · intro w hw
        obtain ⟨k0, k1⟩ := HF.out _ hw
        go_simp
        exact rfl
      intro K hK
      go_simp
      refine hK.out _ ?_
      clear hK K)
    rotate_left
    exact []
    intro v1 hm
    replace BO := BO.keep hm
    replace BI := BI.keep hm
    replace HB := HB.call hm
    clear hm
    have kO := BO.cell
    have kI := BI.cell
    go_wp2_with fail
    go_ret2
    exact ⟨_, rfl, ⟨_, _, rfl, by assumption, by assumption⟩, HB⟩

end Go.Proofs.Ytfeomlbfmbpmaaa

namespace Go.Proofs.Ytfeomlbfmbpmaaa
open Go.RowKit Fl

/-- What is answered. -/
def outT : Option (Nat × Nat) → Value
  | some s => .tuple #[.float .f64 s.1, .float .f64 s.2, .bool true]
  | none => .tuple #[.float .f64 0, .float .f64 0, .bool false]
def rayB (r0 r1 r2 r3 r4 r5 : Nat) : Bool := (numB r0 && numB r1 && numB r2) && (numB r3 && numB r4 && numB r5)
def goesF (b0 b1 b2 b3 b4 b5 r0 r1 r2 r3 r4 r5 : Nat) : Option (Nat × Nat) := if rayB r0 r1 r2 r3 r4 r5 then throughF (fun k => partF r0 r1 r2 k) (fun k => partF r3 r4 r5 k) (fun k => partF b0 b1 b2 k) (fun k => partF b3 b4 b5 k) else none

theorem st_none {o d lo hi : Nat → Nat} {j : Nat} (h : stF o d lo hi j = none) : ∀ n, stF o d lo hi (j + n) = none
  | 0 => h
  | n + 1 => by show (stF o d lo hi (j + n)).bind _ = none; rw [st_none h n]; rfl
theorem through_none {o d lo hi : Nat → Nat} {j : Nat} (h : stF o d lo hi j = none) (hj : j ≤ 3) : throughF o d lo hi = none := by
  unfold throughF
  have := st_none h (3 - j)
  rw [show j + (3 - j) = 3 by omega] at this
  rw [this]; rfl
theorem ax_other {o d lo hi : Nat} {s : Nat × Nat} (h : (ford d 0 != some .eq) = true) : axF o d lo hi s = some (thrF o d lo hi s.1 s.2) := by
  unfold axF
  have : (ford d 0 == some .eq) = false := by simpa [bne] using h
  rw [this]; rfl
theorem ax_zero {o d lo hi : Nat} {s : Nat × Nat} (h : (ford d 0 != some .eq) = false) : axF o d lo hi s = if leB lo o && leB o hi then some s else none := by
  unfold axF
  have : (ford d 0 == some .eq) = true := by simpa [bne] using h
  rw [this]; rfl

set_option maxRecDepth 100000 in
set_option maxHeartbeats 1000000 in
theorem through_any (b0 b1 b2 b3 b4 b5 r0 r1 r2 r3 r4 r5 : Nat) (w : World) : Ret Try.prog 44 #[.agg #[.float .f64 b0, .float .f64 b1, .float .f64 b2, .float .f64 b3, .float .f64 b4, .float .f64 b5], .agg #[.float .f64 r0, .float .f64 r1, .float .f64 r2, .float .f64 r3, .float .f64 r4, .float .f64 r5]] w (fun v => v = outT (goesF b0 b1 b2 b3 b4 b5 r0 r1 r2 r3 r4 r5)) := by
  unfold Ret goesF rayB
  have HO : Hid _ := finite_any r0 r1 r2
  have HD : Hid _ := finite_any r3 r4 r5
  generalize (numB r0 && numB r1 && numB r2) = p at HO ⊢
  generalize (numB r3 && numB r4 && numB r5) = q at HD ⊢
  cases p
  · go_enter Try.func44, Try.ntmps44
    go_wp2_with fail
    refine Lp.settleC (fun w' => Lp.Bk w' (w.heap.size) #[.float .f64 b0, .float .f64 b1, .float .f64 b2, .float .f64 b3, .float .f64 b4, .float .f64 b5] 39 ∧ Lp.Bk w' (w.heap.size + 1) #[.float .f64 r0, .float .f64 r1, .float .f64 r2, .float .f64 r3, .float .f64 r4, .float .f64 r5] 28 ∧ Cl w w') ⟨((Lp.Bk.al _ _ _).alo _), (Lp.Bk.al1 _ _ _ _), ((Below.refl _ _).alloc (by simp <;> omega) _).alloc (by simp <;> omega) _⟩ ?_
    rintro v1 ⟨BB, BR, HB⟩
    have kB := BB.cell
    have kR := BR.cell
    refine Calls.mono (HO.out _) ?_
    rintro e v2 ⟨v, rfl, rfl, hm⟩
    clear kB kR
    replace BB := BB.keep hm
    replace BR := BR.keep hm
    replace HB := HB.call hm
    clear hm
    have kB := BB.cell
    have kR := BR.cell
    go_wp2_with fail
    go_ret3
    exact ⟨_, rfl, rfl, HB⟩
  cases q
  · go_enter Try.func44, Try.ntmps44
    go_wp2_with fail
    refine Lp.settleC (fun w' => Lp.Bk w' (w.heap.size) #[.float .f64 b0, .float .f64 b1, .float .f64 b2, .float .f64 b3, .float .f64 b4, .float .f64 b5] 39 ∧ Lp.Bk w' (w.heap.size + 1) #[.float .f64 r0, .float .f64 r1, .float .f64 r2, .float .f64 r3, .float .f64 r4, .float .f64 r5] 28 ∧ Cl w w') ⟨((Lp.Bk.al _ _ _).alo _), (Lp.Bk.al1 _ _ _ _), ((Below.refl _ _).alloc (by simp <;> omega) _).alloc (by simp <;> omega) _⟩ ?_
    rintro v1 ⟨BB, BR, HB⟩
    have kB := BB.cell
    have kR := BR.cell
    refine Calls.mono (HO.out _) ?_
    rintro e v2 ⟨v, rfl, rfl, hm⟩
    clear kB kR
    replace BB := BB.keep hm
    replace BR := BR.keep hm
    replace HB := HB.call hm
    clear hm
    have kB := BB.cell
    have kR := BR.cell
    go_wp2_with fail
    refine Calls.mono (HD.out _) ?_
    rintro e v3 ⟨v, rfl, rfl, hm⟩
    clear kB kR
    replace BB := BB.keep hm
    replace BR := BR.keep hm
    replace HB := HB.call hm
    clear hm
    have kB := BB.cell
    have kR := BR.cell
    go_wp2_with fail
    go_ret3
    exact ⟨_, rfl, rfl, HB⟩
  go_enter Try.func44, Try.ntmps44
  go_wp2_with fail
  refine Lp.settleC (fun w' => Lp.Bk w' (w.heap.size) #[.float .f64 b0, .float .f64 b1, .float .f64 b2, .float .f64 b3, .float .f64 b4, .float .f64 b5] 39 ∧ Lp.Bk w' (w.heap.size + 1) #[.float .f64 r0, .float .f64 r1, .float .f64 r2, .float .f64 r3, .float .f64 r4, .float .f64 r5] 28 ∧ Cl w w') ⟨((Lp.Bk.al _ _ _).alo _), (Lp.Bk.al1 _ _ _ _), ((Below.refl _ _).alloc (by simp <;> omega) _).alloc (by simp <;> omega) _⟩ ?_
  rintro v1 ⟨BB, BR, HB⟩
  have kB := BB.cell
  have kR := BR.cell
  refine Calls.mono (HO.out _) ?_
  rintro e v2 ⟨v, rfl, rfl, hm⟩
  clear kB kR
  replace BB := BB.keep hm
  replace BR := BR.keep hm
  replace HB := HB.call hm
  clear hm
  have kB := BB.cell
  have kR := BR.cell
  go_wp2_with fail
  refine Calls.mono (HD.out _) ?_
  rintro e v3 ⟨v, rfl, rfl, hm⟩
  clear kB kR
  replace BB := BB.keep hm
  replace BR := BR.keep hm
  replace HB := HB.call hm
  clear hm
  have kB := BB.cell
  have kR := BR.cell
  go_wp2_with fail
  refine Calls.mono (inf_pos _) ?_
  rintro e w' ⟨rfl, hw⟩
  obtain rfl := hw.symm
  clear hw
  go_wp2_with fail
  clear kB kR
  go_loopg [7, 8, 27] 3 (fun k n f i wr => ∃ (j : Nat) (s : Nat × Nat), k + j = 3 ∧ i = .int .i64 (j : Int) ∧ n = .float .f64 s.1 ∧ f = .float .f64 s.2 ∧ stF (fun k => partF r0 r1 r2 k) (fun k => partF r3 r4 r5 k) (fun k => partF b0 b1 b2 k) (fun k => partF b3 b4 b5 k) j = some s ∧ Lp.Bk wr (w.heap.size) #[.float .f64 b0, .float .f64 b1, .float .f64 b2, .float .f64 b3, .float .f64 b4, .float .f64 b5] 39 ∧ Lp.Bk wr (w.heap.size + 1) #[.float .f64 r0, .float .f64 r1, .float .f64 r2, .float .f64 r3, .float .f64 r4, .float .f64 r5] 28 ∧ Cl w wr)
  case atStart => exact ⟨0, (0, pinf), rfl, rfl, rfl, rfl, rfl, BB, BR, HB⟩
  case round =>
    clear BB BR HB
    obtain ⟨j, s, hk, rfl, rfl, rfl, hs, BB, BR, HB⟩ := hrel
    by_cases hj : j < 3
    · have HS : Aside _ := And.intro hk (show stF (fun k => partF r0 r1 r2 k) (fun k => partF r3 r4 r5 k) (fun k => partF b0 b1 b2 k) (fun k => partF b3 b4 b5 k) (j + 1) = axF (partF r0 r1 r2 j) (partF r3 r4 r5 j) (partF b0 b1 b2 j) (partF b3 b4 b5 j) s by show (stF _ _ _ _ j).bind _ = _; rw [hs]; rfl)
      clear hk hs
      have hd : ((j : Int) < 3) = True := eq_true (by omega)
      have hl1 : (partF r3 r4 r5 j) = (partF r3 r4 r5 j) := rfl
      clear hl1
      go_wp2_with fail
      apply Lp.wp_region_loose _ _ 10 (by kernel_rfl) (by kernel_rfl) (by kernel_rfl) (Below.refl _ _)
      apply Lp.facts
      · intro w1 hw
        exact And.intro (BB.cl hw).cell ((BR.cl hw).cell)
      intro HF
      iterate 3 (
        apply Lp.one ?_ rfl
        · intro w hw
          obtain ⟨k0, k1⟩ := HF.out _ hw
          go_simp
          exact rfl
        intro K hK
        go_simp
        refine hK.out _ ?_
        clear hK K)
      apply Lp.any rfl
      · intro w hw
        go_simp
        exact Lp.ret (vpart_any _ _ _ _ _)
      intro K hK
      rintro v rfl
      go_simp
      refine hK.out _ ?_
      clear hK K
      iterate 3 (
        apply Lp.one ?_ rfl
        · intro w hw
          obtain ⟨k0, k1⟩ := HF.out _ hw
          go_simp
          exact rfl
        intro K hK
        go_simp
        refine hK.out _ ?_
        clear hK K)
      apply Lp.any rfl
      · intro w hw
        go_simp
        exact Lp.ret (vpart_any _ _ _ _ _)
      intro K hK
      rintro v rfl
      go_simp
      refine hK.out _ ?_
      clear hK K
      iterate 2 (
        apply Lp.one ?_ rfl
        · intro w hw
          obtain ⟨k0, k1⟩ := HF.out _ hw
          go_simp
          exact rfl
        intro K hK
        go_simp
        refine hK.out _ ?_
        clear hK K)
      rotate_left
      exact []
      intro v4 hm
      replace BB := BB.keep hm
      replace BR := BR.keep hm
      replace HB := HB.call hm
      clear hm
      have kB := BB.cell
      have kR := BR.cell
      go_wp2_with fail
      apply Lp.wp_region_loose _ _ 10 (by kernel_rfl) (by kernel_rfl) (by kernel_rfl) (Below.refl _ _)
      apply Lp.facts
      · intro w1 hw
        exact And.intro (BB.cl hw).cell ((BR.cl hw).cell)
      intro HF
      iterate 3 (
        apply Lp.one ?_ rfl
        · intro w hw
          obtain ⟨k0, k1⟩ := HF.out _ hw
          go_simp
          exact rfl
        intro K hK
        go_simp
        refine hK.out _ ?_
        clear hK K)
      apply Lp.any rfl
      · intro w hw
        go_simp
        exact Lp.ret (vpart_any _ _ _ _ _)
      intro K hK
      rintro v rfl
      go_simp
      refine hK.out _ ?_
      clear hK K
      iterate 3 (
        apply Lp.one ?_ rfl
        · intro w hw
          obtain ⟨k0, k1⟩ := HF.out _ hw
          go_simp
          exact rfl
        intro K hK
        go_simp
        refine hK.out _ ?_
        clear hK K)
      apply Lp.any rfl
      · intro w hw
        go_simp
        exact Lp.ret (vpart_any _ _ _ _ _)
      intro K hK
      rintro v rfl
      go_simp
      refine hK.out _ ?_
      clear hK K
      iterate 2 (
        apply Lp.one ?_ rfl
        · intro w hw
          obtain ⟨k0, k1⟩ := HF.out _ hw
          go_simp
          exact rfl
        intro K hK
        go_simp
        refine hK.out _ ?_
        clear hK K)
      rotate_left
      exact []
      intro v5 hm
      clear kB kR
      replace BB := BB.keep hm
      replace BR := BR.keep hm
      replace HB := HB.call hm
      clear hm
      have kB := BB.cell
      have kR := BR.cell
      go_wp2_with fail
      · have hz : (ford (partF r3 r4 r5 j) 0 != some .eq) = true := by assumption
        replace HS : Aside _ := And.intro HS.out.1 (HS.out.2.trans (ax_other hz))
        clear hz
        refine Calls.mono (ends_any _ _ _) ?_
        rintro e v8 ⟨i, hi, rfl, hm, BO, BI⟩
        clear kB kR
        replace BB := BB.keep hm
        replace BR := BR.keep hm
        replace HB := HB.call hm
        clear hm
        have kB := BB.cell
        have kR := BR.cell
        go_wp2_with fail
        refine Calls.mono (ends1_any _ _ _ _ _ _ _ hi.sm _ BO BI) ?_
        rintro e v9 ⟨_, rfl, ⟨x, y, rfl, hx, hy⟩, hm⟩
        clear BO BI
        clear kB kR
        replace BB := BB.keep hm
        replace BR := BR.keep hm
        replace HB := HB.call hm
        clear hm
        have kB := BB.cell
        have kR := BR.cell
        go_wp2_with fail
        refine Calls.mono (greater_any _ _ _) ?_
        rintro e w' ⟨rfl, hw⟩
        obtain rfl := hw.symm
        clear hw
        go_wp2_with fail
        refine Calls.mono (lesser_any _ _ _) ?_
        rintro e w' ⟨rfl, hw⟩
        obtain rfl := hw.symm
        clear hw
        go_wp2_with fail
        go_roundg (gk - 1)
        case measure => have := HS.out.1; omega
        case rel => exact ⟨j + 1, _, by have := HS.out.1; omega, by go_num, by rw [thrF_eq]; exact congrArg (Value.float .f64) (high_sm hx.sm), by rw [thrF_eq]; exact congrArg (Value.float .f64) (low_sm hy.sm), HS.out.2, BB, BR, HB⟩
      · have hz : (ford (partF r3 r4 r5 j) 0 != some .eq) = false := by assumption
        have hn : (leB (partF b0 b1 b2 j) (partF r0 r1 r2 j) && leB (partF r0 r1 r2 j) (partF b3 b4 b5 j)) = false := by first | exact le2_off (by assumption) | exact le2_off1 (by assumption)
        have hst := HS.out.2.trans (ax_zero hz)
        rw [hn, if_neg Bool.false_ne_true] at hst
        go_ret3
        exact ⟨_, rfl, by rw [through_none hst (by omega)]; rfl, HB⟩
      · have hz : (ford (partF r3 r4 r5 j) 0 != some .eq) = false := by assumption
        have hn : (leB (partF b0 b1 b2 j) (partF r0 r1 r2 j) && leB (partF r0 r1 r2 j) (partF b3 b4 b5 j)) = true := le2_on (by assumption)
        have hst := HS.out.2.trans (ax_zero hz)
        rw [hn, if_pos rfl] at hst
        go_roundg (gk - 1)
        case measure => have := HS.out.1; omega
        case rel => exact ⟨j + 1, _, by have := HS.out.1; omega, by go_num, rfl, rfl, hst, BB, BR, HB⟩
      · have hz : (ford (partF r3 r4 r5 j) 0 != some .eq) = false := by assumption
        have hn : (leB (partF b0 b1 b2 j) (partF r0 r1 r2 j) && leB (partF r0 r1 r2 j) (partF b3 b4 b5 j)) = false := by first | exact le2_off (by assumption) | exact le2_off1 (by assumption)
        have hst := HS.out.2.trans (ax_zero hz)
        rw [hn, if_neg Bool.false_ne_true] at hst
        go_ret3
        exact ⟨_, rfl, by rw [through_none hst (by omega)]; rfl, HB⟩
    · have hj3 : j = 3 := by omega
      subst hj3
      have hd : (((3 : Nat) : Int) < 3) = False := eq_false (by omega)
      go_wp2_with fail
      · have hn : leB s.1 s.2 = true := leB_onC (by assumption)
        go_ret3
        exact ⟨_, rfl, by unfold throughF; rw [hs]; show _ = outT (finF s); unfold finF; rw [hn]; rfl, HB⟩
      · have hn : leB s.1 s.2 = false := leB_offC (by assumption)
        go_ret3
        exact ⟨_, rfl, by unfold throughF; rw [hs]; show _ = outT (finF s); unfold finF; rw [hn]; rfl, HB⟩

end Go.Proofs.Ytfeomlbfmbpmaaa

namespace Go.Proofs.Ytfeomlbfmbpmaaa
open Go.RowKit Fl

theorem V3.self (A : V3) : S3 A.x A.y A.z A := S3.refl _ _ _
def geB (x y : Nat) : Bool := ford x y == some .gt || ford x y == some .eq
def gtC (x y : Nat) : Bool := ford x y == some .gt
theorem ge_w {x y X Y : Nat} (hx : Sm x X) (hy : Sm y Y) : (FloatKind.f64.format.order x y == some .gt || FloatKind.f64.format.order x y == some .eq) = geB X Y := by
  rw [ordf, ford_congr hx hy]; rfl
theorem le_w {x y X Y : Nat} (hx : Sm x X) (hy : Sm y Y) : (FloatKind.f64.format.order x y == some .lt || FloatKind.f64.format.order x y == some .eq) = leB X Y := by
  rw [ordf, ford_congr hx hy]; rfl
theorem gt_w {x y X Y : Nat} (hx : Sm x X) (hy : Sm y Y) : (FloatKind.f64.format.order x y == some .gt) = gtC X Y := by
  rw [ordf, ford_congr hx hy]; rfl
theorem ge_num {x y : Nat} (h : geB x y = true) : isN x = false := by
  cases k : isN x
  · rfl
  · unfold geB at h; rw [ord_nan_left k y] at h; cases h
/-- Is a place of the plane one of the triangle? -/
def insideB (U V : Nat) : Bool := geB U 0 && geB V 0 && leB (fadd U V) 4607182418800017408

set_option maxRecDepth 100000 in
set_option maxHeartbeats 1000000 in
theorem inside_any {t u v U V : Nat} (hu : Sm u U) (hv : Sm v V) (w : World) : Ret Try.prog 47 #[.agg #[.int .i64 0, .float .f64 t, .float .f64 u, .float .f64 v]] w (fun z => z = .bool (insideB U V)) := by
  unfold Ret
  unfold insideB
  have g1 := ge_w hu (Sm.refl 0)
  have g2 := ge_w hv (Sm.refl 0)
  have G3 := hid (fun r (h : Eqv r (fadd U V)) => le_w h.sm (Sm.refl 4607182418800017408))
  have HU := hid hu
  have HV := hid hv
  clear hu hv
  generalize geB U 0 = p at g1 ⊢
  generalize geB V 0 = q at g2 ⊢
  generalize leB (fadd U V) 4607182418800017408 = s at G3 ⊢
  cases p
  · go_enter Try.func47, Try.ntmps47
    go_wp2_with fail
    go_ret
    exact ⟨_, rfl, rfl, by repeat (first | exact Below.refl _ _ | refine below_dr ?_ _ | refine Below.alloc ?_ (by simp) _)⟩
  cases q
  · go_enter Try.func47, Try.ntmps47
    go_wp2_with fail
    go_ret
    exact ⟨_, rfl, rfl, by repeat (first | exact Below.refl _ _ | refine below_dr ?_ _ | refine Below.alloc ?_ (by simp) _)⟩
  cases s
  · go_enter Try.func47, Try.ntmps47
    go_wp2_with fail
    refine upon_add HU.out HV.out ?_
    intro r n hr
    have g3 := G3.out r hr
    go_wp2_with fail
    go_ret
    exact ⟨_, rfl, rfl, by repeat (first | exact Below.refl _ _ | refine below_dr ?_ _ | refine Below.alloc ?_ (by simp) _)⟩
  · go_enter Try.func47, Try.ntmps47
    go_wp2_with fail
    refine upon_add HU.out HV.out ?_
    intro r n hr
    have g3 := G3.out r hr
    go_wp2_with fail
    go_ret
    exact ⟨_, rfl, rfl, by repeat (first | exact Below.refl _ _ | refine below_dr ?_ _ | refine Below.alloc ?_ (by simp) _)⟩

set_option maxRecDepth 100000 in
set_option maxHeartbeats 1000000 in
theorem asker_any (O D : V3) (w : World) : Calls Try.prog 24 #[.agg #[.float .f64 O.x, .float .f64 O.y, .float .f64 O.z, .float .f64 D.x, .float .f64 D.y, .float .f64 D.z]] w fun e w' => e = .returned (.func (.func 43) #[] #[.pointer (some ⟨w.heap.size, 0, none⟩)]) ∧ Below w.heap.size w w' ∧ Lp.Bk w' w.heap.size #[.float .f64 O.x, .float .f64 O.y, .float .f64 O.z, .float .f64 D.x, .float .f64 D.y, .float .f64 D.z] 28 := by
  go_enter Try.func24, Try.ntmps24
  go_wp2_with fail
  go_ret
  exact ⟨rfl, (Below.refl _ _).alloc (Nat.le_refl _) _, Lp.Bk.al _ _ _⟩

/-- Where the ray goes through the triangle's box. -/
def triGo (A B C O D : V3) : Option (Nat × Nat) := goesF (lowF (lowF (lowF pinf A.x) B.x) C.x) (lowF (lowF (lowF pinf A.y) B.y) C.y) (lowF (lowF (lowF pinf A.z) B.z) C.z) (highF (highF (highF ninf A.x) B.x) C.x) (highF (highF (highF ninf A.y) B.y) C.y) (highF (highF (highF ninf A.z) B.z) C.z) O.x O.y O.z D.x D.y D.z
def hitB (n f T U V : Nat) : Bool := insideB U V && geB T n && leB T f && gtC T 0
/-- Where the ray meets the triangle. -/
def meetF (A B C O D : V3) : Option V3 := match triGo A B C O D with
  | none => none
  | some s => if hitB s.1 s.2 (cutT A B C O D) (cutU A B C O D) (cutV A B C O D) then some ⟨cutT A B C O D, cutU A B C O D, cutV A B C O D⟩ else none
def hitV : Option V3 → Value
  | some h => .agg #[.int .i64 0, .float .f64 h.x, .float .f64 h.y, .float .f64 h.z]
  | none => .agg #[.int .i64 (-1), .float .f64 0, .float .f64 0, .float .f64 0]
theorem hit_num {n f T U V : Nat} (h : hitB n f T U V = true) : isN T = false ∧ isN U = false ∧ isN V = false := by
  unfold hitB insideB at h
  simp only [Bool.and_eq_true] at h
  exact ⟨ge_num h.1.1.2, ge_num h.1.1.1.1.1, ge_num h.1.1.1.1.2⟩
theorem hit_words {n f T U V t u z : Nat} (h : hitB n f T U V = true) (hs : S3 t u z ⟨T, U, V⟩) : t = T ∧ u = U ∧ z = V := by
  obtain ⟨h0, h1, h2⟩ := hit_num h
  exact ⟨(hs.x.symm.eq h0).symm, (hs.y.symm.eq h1).symm, (hs.z.symm.eq h2).symm⟩

set_option maxRecDepth 100000 in
set_option maxHeartbeats 2000000 in
theorem asked_any (A B C O D : V3) (b : Nat) (w : World) (BY : Lp.Bk w b #[.float .f64 O.x, .float .f64 O.y, .float .f64 O.z, .float .f64 D.x, .float .f64 D.y, .float .f64 D.z] 28) : Ret Try.prog 43 #[.agg #[.float .f64 A.x, .float .f64 A.y, .float .f64 A.z, .float .f64 B.x, .float .f64 B.y, .float .f64 B.z, .float .f64 C.x, .float .f64 C.y, .float .f64 C.z], .pointer (some ⟨b, 0, none⟩)] w (fun v => v = hitV (meetF A B C O D)) := by
  unfold Ret
  have HT := hid (fun w => through_any (lowF (lowF (lowF pinf A.x) B.x) C.x) (lowF (lowF (lowF pinf A.y) B.y) C.y) (lowF (lowF (lowF pinf A.z) B.z) C.z) (highF (highF (highF ninf A.x) B.x) C.x) (highF (highF (highF ninf A.y) B.y) C.y) (highF (highF (highF ninf A.z) B.z) C.z) O.x O.y O.z D.x D.y D.z w)
  have HE := hid (show goesF (lowF (lowF (lowF pinf A.x) B.x) C.x) (lowF (lowF (lowF pinf A.y) B.y) C.y) (lowF (lowF (lowF pinf A.z) B.z) C.z) (highF (highF (highF ninf A.x) B.x) C.x) (highF (highF (highF ninf A.y) B.y) C.y) (highF (highF (highF ninf A.z) B.z) C.z) O.x O.y O.z D.x D.y D.z = triGo A B C O D from rfl)
  rw [HE.out] at HT
  clear HE
  have HM := hid (show meetF A B C O D = match triGo A B C O D with | none => none | some s => if hitB s.1 s.2 (cutT A B C O D) (cutU A B C O D) (cutV A B C O D) then some ⟨cutT A B C O D, cutU A B C O D, cutV A B C O D⟩ else none from rfl)
  have HC := hid (fun w => cut_any A.self B.self C.self O.self D.self w)
  generalize meetF A B C O D = M at HM ⊢
  generalize triGo A B C O D = s at HT HM
  have HB : Cl w w := Below.refl _ _
  rcases s with _ | ⟨n, f⟩
  · simp only [outT] at HT
    go_enter Try.func43, Try.ntmps43
    go_wp2_with fail
    refine Lp.settle (fun w' => Lp.Bk w' (b) #[.float .f64 O.x, .float .f64 O.y, .float .f64 O.z, .float .f64 D.x, .float .f64 D.y, .float .f64 D.z] 28 ∧ Lp.Bk w' (w.heap.size) #[.float .f64 A.x, .float .f64 A.y, .float .f64 A.z, .float .f64 B.x, .float .f64 B.y, .float .f64 B.z, .float .f64 C.x, .float .f64 C.y, .float .f64 C.z] 26 ∧ Lp.Bk w' (w.heap.size + 1) #[.int .i64 0, .float .f64 0, .float .f64 0, .float .f64 0] 30 ∧ Cl w w') ⟨((BY).alo _).alo _, (Lp.Bk.al _ _ _).alo _, Lp.Bk.al1 _ _ _ _, ((HB).alloc _).alloc _⟩ ?_
    clear BY HB
    rintro v1 ⟨BY, BT, BR, HB⟩
    have kY := BY.cell
    have kT := BT.cell
    have kR := BR.cell
    have zR := BR.frz
    have nY0 : (b = v1.heap.size) = False := eq_false (by have := BY.lt; omega)
    have mY0 : b < v1.heap.size := by have := BY.lt; omega
    have nY1 : (b = v1.heap.size + 1) = False := eq_false (by have := BY.lt; omega)
    have mY1 : b < v1.heap.size + 1 := by have := BY.lt; omega
    have nT0 : (w.heap.size = v1.heap.size) = False := eq_false (by have := BT.lt; omega)
    have mT0 : w.heap.size < v1.heap.size := by have := BT.lt; omega
    have nT1 : (w.heap.size = v1.heap.size + 1) = False := eq_false (by have := BT.lt; omega)
    have mT1 : w.heap.size < v1.heap.size + 1 := by have := BT.lt; omega
    have nR0 : (w.heap.size + 1 = v1.heap.size) = False := eq_false (by have := BR.lt; omega)
    have mR0 : w.heap.size + 1 < v1.heap.size := by have := BR.lt; omega
    have nR1 : (w.heap.size = v1.heap.size) = False := eq_false (by have := BR.lt; omega)
    have mR1 : w.heap.size < v1.heap.size := by have := BR.lt; omega
    apply Lp.wp_region_loose _ _ 11 (by kernel_rfl) (by kernel_rfl) (by kernel_rfl) (Below.refl _ _)
    apply Lp.facts
    · intro w1 hw
      exact And.intro (BY.cl hw).cell (And.intro (BT.cl hw).cell ((BR.cl hw).cell))
    intro HF
    iterate 1 (
      apply Lp.one ?_ rfl
      · intro w hw
        obtain ⟨k0, k1, k2⟩ := HF.out _ hw
        go_simp
        exact rfl
      intro K hK
      go_simp
      refine hK.out _ ?_
      clear hK K)
    apply Lp.any rfl
    · intro w hw
      go_simp
      exact Lp.ret (of_any _ _ _ _ _ _ _ _ _ _)
    intro K hK
    rintro v rfl
    go_simp
    refine hK.out _ ?_
    clear hK K
    iterate 1 (
      apply Lp.one ?_ rfl
      · intro w hw
        obtain ⟨k0, k1, k2⟩ := HF.out _ hw
        go_simp
        exact rfl
      intro K hK
      go_simp
      refine hK.out _ ?_
      clear hK K)
    apply Lp.any rfl
    · intro w hw
      go_simp
      exact Lp.ret (HT.out _)
    intro K hK
    rintro v rfl
    go_simp
    refine hK.out _ ?_
    clear hK K
    iterate 7 (
      apply Lp.one ?_ rfl
      · intro w hw
        obtain ⟨k0, k1, k2⟩ := HF.out _ hw
        go_simp
        exact rfl
      intro K hK
      go_simp
      refine hK.out _ ?_
      clear hK K)
    rotate_left
    exact []
    intro v2 hm
    clear kY kT kR zR nY0 mY0 nY1 mY1 nT0 mT0 nT1 mT1 nR0 mR0 nR1 mR1
    replace BY := BY.keep hm
    replace BT := BT.keep hm
    replace BR := BR.keep hm
    replace HB := HB.call hm
    clear hm
    have kY := BY.cell
    have kT := BT.cell
    have kR := BR.cell
    have zR := BR.frz
    have nY0 : (b = v2.heap.size) = False := eq_false (by have := BY.lt; omega)
    have mY0 : b < v2.heap.size := by have := BY.lt; omega
    have nY1 : (b = v2.heap.size + 1) = False := eq_false (by have := BY.lt; omega)
    have mY1 : b < v2.heap.size + 1 := by have := BY.lt; omega
    have nT0 : (w.heap.size = v2.heap.size) = False := eq_false (by have := BT.lt; omega)
    have mT0 : w.heap.size < v2.heap.size := by have := BT.lt; omega
    have nT1 : (w.heap.size = v2.heap.size + 1) = False := eq_false (by have := BT.lt; omega)
    have mT1 : w.heap.size < v2.heap.size + 1 := by have := BT.lt; omega
    have nR0 : (w.heap.size + 1 = v2.heap.size) = False := eq_false (by have := BR.lt; omega)
    have mR0 : w.heap.size + 1 < v2.heap.size := by have := BR.lt; omega
    have nR1 : (w.heap.size = v2.heap.size) = False := eq_false (by have := BR.lt; omega)
    have mR1 : w.heap.size < v2.heap.size := by have := BR.lt; omega
    go_wp2_with fail
    refine Calls.mono (miss_any _) ?_
    rintro e v3 ⟨v, rfl, rfl, hm⟩
    clear kY kT kR zR nY0 mY0 nY1 mY1 nT0 mT0 nT1 mT1 nR0 mR0 nR1 mR1
    replace BY := BY.keep hm
    replace BT := BT.keep hm
    replace BR := BR.keep hm
    replace HB := HB.call hm
    clear hm
    have kY := BY.cell
    have kT := BT.cell
    have kR := BR.cell
    have zR := BR.frz
    have nY0 : (b = v3.heap.size) = False := eq_false (by have := BY.lt; omega)
    have mY0 : b < v3.heap.size := by have := BY.lt; omega
    have nY1 : (b = v3.heap.size + 1) = False := eq_false (by have := BY.lt; omega)
    have mY1 : b < v3.heap.size + 1 := by have := BY.lt; omega
    have nT0 : (w.heap.size = v3.heap.size) = False := eq_false (by have := BT.lt; omega)
    have mT0 : w.heap.size < v3.heap.size := by have := BT.lt; omega
    have nT1 : (w.heap.size = v3.heap.size + 1) = False := eq_false (by have := BT.lt; omega)
    have mT1 : w.heap.size < v3.heap.size + 1 := by have := BT.lt; omega
    have nR0 : (w.heap.size + 1 = v3.heap.size) = False := eq_false (by have := BR.lt; omega)
    have mR0 : w.heap.size + 1 < v3.heap.size := by have := BR.lt; omega
    have nR1 : (w.heap.size = v3.heap.size) = False := eq_false (by have := BR.lt; omega)
    have mR1 : w.heap.size < v3.heap.size := by have := BR.lt; omega
    go_wp2_with fail
    refine bodyPost_ret (v := .agg #[.int .i64 (-1), .float .f64 0, .float .f64 0, .float .f64 0]) (by simp [results, go_sem, kR]) rfl ⟨_, rfl, by rw [HM.out]; rfl, ?_⟩
    repeat (refine Below.setCell ?_ (by dsimp only; omega) _)
    exact HB
  · simp only [outT] at HT HM
    have HI := hid (fun t u z (h : S3 t u z ⟨cutT A B C O D, cutU A B C O D, cutV A B C O D⟩) => @inside_any t u z _ _ h.y h.z)
    have HX := hid (fun t (h : Sm t (cutT A B C O D)) => ge_w h (Sm.refl n))
    have HY := hid (fun t (h : Sm t (cutT A B C O D)) => le_w h (Sm.refl f))
    have HZ := hid (fun t (h : Sm t (cutT A B C O D)) => gt_w h (Sm.refl 0))
    have HH := hid (show hitB n f (cutT A B C O D) (cutU A B C O D) (cutV A B C O D) = (insideB (cutU A B C O D) (cutV A B C O D) && geB (cutT A B C O D) n && leB (cutT A B C O D) f && gtC (cutT A B C O D) 0) from rfl)
    have HW := hid (fun t u z (h : S3 t u z ⟨cutT A B C O D, cutU A B C O D, cutV A B C O D⟩) (k : hitB n f (cutT A B C O D) (cutU A B C O D) (cutV A B C O D) = true) => hit_words k h)
    generalize insideB (cutU A B C O D) (cutV A B C O D) = p at HI HH
    generalize geB (cutT A B C O D) n = q at HX HH
    generalize leB (cutT A B C O D) f = r at HY HH
    generalize gtC (cutT A B C O D) 0 = s at HZ HH
    cases p
    rotate_left
    cases q
    rotate_left
    cases r
    rotate_left
    cases s
    rotate_left
    · go_enter Try.func43, Try.ntmps43
      go_wp2_with fail
      refine Lp.settle (fun w' => Lp.Bk w' (b) #[.float .f64 O.x, .float .f64 O.y, .float .f64 O.z, .float .f64 D.x, .float .f64 D.y, .float .f64 D.z] 28 ∧ Lp.Bk w' (w.heap.size) #[.float .f64 A.x, .float .f64 A.y, .float .f64 A.z, .float .f64 B.x, .float .f64 B.y, .float .f64 B.z, .float .f64 C.x, .float .f64 C.y, .float .f64 C.z] 26 ∧ Lp.Bk w' (w.heap.size + 1) #[.int .i64 0, .float .f64 0, .float .f64 0, .float .f64 0] 30 ∧ Cl w w') ⟨((BY).alo _).alo _, (Lp.Bk.al _ _ _).alo _, Lp.Bk.al1 _ _ _ _, ((HB).alloc _).alloc _⟩ ?_
      clear BY HB
      rintro v1 ⟨BY, BT, BR, HB⟩
      have kY := BY.cell
      have kT := BT.cell
      have kR := BR.cell
      have zR := BR.frz
      have nY0 : (b = v1.heap.size) = False := eq_false (by have := BY.lt; omega)
      have mY0 : b < v1.heap.size := by have := BY.lt; omega
      have nY1 : (b = v1.heap.size + 1) = False := eq_false (by have := BY.lt; omega)
      have mY1 : b < v1.heap.size + 1 := by have := BY.lt; omega
      have nT0 : (w.heap.size = v1.heap.size) = False := eq_false (by have := BT.lt; omega)
      have mT0 : w.heap.size < v1.heap.size := by have := BT.lt; omega
      have nT1 : (w.heap.size = v1.heap.size + 1) = False := eq_false (by have := BT.lt; omega)
      have mT1 : w.heap.size < v1.heap.size + 1 := by have := BT.lt; omega
      have nR0 : (w.heap.size + 1 = v1.heap.size) = False := eq_false (by have := BR.lt; omega)
      have mR0 : w.heap.size + 1 < v1.heap.size := by have := BR.lt; omega
      have nR1 : (w.heap.size = v1.heap.size) = False := eq_false (by have := BR.lt; omega)
      have mR1 : w.heap.size < v1.heap.size := by have := BR.lt; omega
      apply Lp.wp_region_loose _ _ 11 (by kernel_rfl) (by kernel_rfl) (by kernel_rfl) (Below.refl _ _)
      apply Lp.facts
      · intro w1 hw
        exact And.intro (BY.cl hw).cell (And.intro (BT.cl hw).cell ((BR.cl hw).cell))
      intro HF
      iterate 1 (
        apply Lp.one ?_ rfl
        · intro w hw
          obtain ⟨k0, k1, k2⟩ := HF.out _ hw
          go_simp
          exact rfl
        intro K hK
        go_simp
        refine hK.out _ ?_
        clear hK K)
      apply Lp.any rfl
      · intro w hw
        go_simp
        exact Lp.ret (of_any _ _ _ _ _ _ _ _ _ _)
      intro K hK
      rintro v rfl
      go_simp
      refine hK.out _ ?_
      clear hK K
      iterate 1 (
        apply Lp.one ?_ rfl
        · intro w hw
          obtain ⟨k0, k1, k2⟩ := HF.out _ hw
          go_simp
          exact rfl
        intro K hK
        go_simp
        refine hK.out _ ?_
        clear hK K)
      apply Lp.any rfl
      · intro w hw
        go_simp
        exact Lp.ret (HT.out _)
      intro K hK
      rintro v rfl
      go_simp
      refine hK.out _ ?_
      clear hK K
      iterate 7 (
        apply Lp.one ?_ rfl
        · intro w hw
          obtain ⟨k0, k1, k2⟩ := HF.out _ hw
          go_simp
          exact rfl
        intro K hK
        go_simp
        refine hK.out _ ?_
        clear hK K)
      rotate_left
      exact []
      intro v2 hm
      clear kY kT kR zR nY0 mY0 nY1 mY1 nT0 mT0 nT1 mT1 nR0 mR0 nR1 mR1
      replace BY := BY.keep hm
      replace BT := BT.keep hm
      replace BR := BR.keep hm
      replace HB := HB.call hm
      clear hm
      have kY := BY.cell
      have kT := BT.cell
      have kR := BR.cell
      have zR := BR.frz
      have nY0 : (b = v2.heap.size) = False := eq_false (by have := BY.lt; omega)
      have mY0 : b < v2.heap.size := by have := BY.lt; omega
      have nY1 : (b = v2.heap.size + 1) = False := eq_false (by have := BY.lt; omega)
      have mY1 : b < v2.heap.size + 1 := by have := BY.lt; omega
      have nT0 : (w.heap.size = v2.heap.size) = False := eq_false (by have := BT.lt; omega)
      have mT0 : w.heap.size < v2.heap.size := by have := BT.lt; omega
      have nT1 : (w.heap.size = v2.heap.size + 1) = False := eq_false (by have := BT.lt; omega)
      have mT1 : w.heap.size < v2.heap.size + 1 := by have := BT.lt; omega
      have nR0 : (w.heap.size + 1 = v2.heap.size) = False := eq_false (by have := BR.lt; omega)
      have mR0 : w.heap.size + 1 < v2.heap.size := by have := BR.lt; omega
      have nR1 : (w.heap.size = v2.heap.size) = False := eq_false (by have := BR.lt; omega)
      have mR1 : w.heap.size < v2.heap.size := by have := BR.lt; omega
      go_wp2_with fail
      refine Calls.mono (HC.out _) ?_
      rintro e v3 ⟨v, rfl, ⟨t, u, z, rfl, hs, hw⟩, hm⟩
      clear kY kT kR zR nY0 mY0 nY1 mY1 nT0 mT0 nT1 mT1 nR0 mR0 nR1 mR1
      replace BY := BY.keep hm
      replace BT := BT.keep hm
      replace BR := BR.keep hm
      replace HB := HB.call hm
      clear hm
      have kY := BY.cell
      have kT := BT.cell
      have kR := BR.cell
      have zR := BR.frz
      have nY0 : (b = v3.heap.size) = False := eq_false (by have := BY.lt; omega)
      have mY0 : b < v3.heap.size := by have := BY.lt; omega
      have nY1 : (b = v3.heap.size + 1) = False := eq_false (by have := BY.lt; omega)
      have mY1 : b < v3.heap.size + 1 := by have := BY.lt; omega
      have nT0 : (w.heap.size = v3.heap.size) = False := eq_false (by have := BT.lt; omega)
      have mT0 : w.heap.size < v3.heap.size := by have := BT.lt; omega
      have nT1 : (w.heap.size = v3.heap.size + 1) = False := eq_false (by have := BT.lt; omega)
      have mT1 : w.heap.size < v3.heap.size + 1 := by have := BT.lt; omega
      have nR0 : (w.heap.size + 1 = v3.heap.size) = False := eq_false (by have := BR.lt; omega)
      have mR0 : w.heap.size + 1 < v3.heap.size := by have := BR.lt; omega
      have nR1 : (w.heap.size = v3.heap.size) = False := eq_false (by have := BR.lt; omega)
      have mR1 : w.heap.size < v3.heap.size := by have := BR.lt; omega
      go_wp2_with fail
      refine Lp.settleC (fun w' => Lp.Bk w' (b) #[.float .f64 O.x, .float .f64 O.y, .float .f64 O.z, .float .f64 D.x, .float .f64 D.y, .float .f64 D.z] 28 ∧ Lp.Bk w' (w.heap.size) #[.float .f64 A.x, .float .f64 A.y, .float .f64 A.z, .float .f64 B.x, .float .f64 B.y, .float .f64 B.z, .float .f64 C.x, .float .f64 C.y, .float .f64 C.z] 26 ∧ Lp.Bk w' (w.heap.size + 1) #[.int .i64 0, .float .f64 0, .float .f64 0, .float .f64 0] 30 ∧ Lp.Bk w' (v3.heap.size) #[.int .i64 0, .float .f64 t, .float .f64 u, .float .f64 z] 30 ∧ Cl w w') ⟨(BY).alo _, (BT).alo _, (BR).alo _, Lp.Bk.al _ _ _, (HB).alloc _⟩ ?_
      clear kY kT kR zR nY0 mY0 nY1 mY1 nT0 mT0 nT1 mT1 nR0 mR0 nR1 mR1
      clear BY BT BR HB
      rintro v4 ⟨BY, BT, BR, BH, HB⟩
      have kY := BY.cell
      have kT := BT.cell
      have kR := BR.cell
      have kH := BH.cell
      have zR := BR.frz
      have nY0 : (b = v4.heap.size) = False := eq_false (by have := BY.lt; omega)
      have mY0 : b < v4.heap.size := by have := BY.lt; omega
      have nY1 : (b = v4.heap.size + 1) = False := eq_false (by have := BY.lt; omega)
      have mY1 : b < v4.heap.size + 1 := by have := BY.lt; omega
      have nT0 : (w.heap.size = v4.heap.size) = False := eq_false (by have := BT.lt; omega)
      have mT0 : w.heap.size < v4.heap.size := by have := BT.lt; omega
      have nT1 : (w.heap.size = v4.heap.size + 1) = False := eq_false (by have := BT.lt; omega)
      have mT1 : w.heap.size < v4.heap.size + 1 := by have := BT.lt; omega
      have nR0 : (w.heap.size + 1 = v4.heap.size) = False := eq_false (by have := BR.lt; omega)
      have mR0 : w.heap.size + 1 < v4.heap.size := by have := BR.lt; omega
      have nR1 : (w.heap.size = v4.heap.size) = False := eq_false (by have := BR.lt; omega)
      have mR1 : w.heap.size < v4.heap.size := by have := BR.lt; omega
      have nH0 : (v3.heap.size = v4.heap.size) = False := eq_false (by have := BH.lt; omega)
      have mH0 : v3.heap.size < v4.heap.size := by have := BH.lt; omega
      have nH1 : (v3.heap.size = v4.heap.size + 1) = False := eq_false (by have := BH.lt; omega)
      have mH1 : v3.heap.size < v4.heap.size + 1 := by have := BH.lt; omega
      have hx := HX.out t hs.x
      have hy := HY.out t hs.x
      have hz := HZ.out t hs.x
      refine Calls.mono (HI.out t u z hs _) ?_
      rintro e v5 ⟨v, rfl, rfl, hm⟩
      clear kY kT kR kH zR nY0 mY0 nY1 mY1 nT0 mT0 nT1 mT1 nR0 mR0 nR1 mR1 nH0 mH0 nH1 mH1
      replace BY := BY.keep hm
      replace BT := BT.keep hm
      replace BR := BR.keep hm
      replace BH := BH.keep hm
      replace HB := HB.call hm
      clear hm
      have kY := BY.cell
      have kT := BT.cell
      have kR := BR.cell
      have kH := BH.cell
      have zR := BR.frz
      have nY0 : (b = v5.heap.size) = False := eq_false (by have := BY.lt; omega)
      have mY0 : b < v5.heap.size := by have := BY.lt; omega
      have nY1 : (b = v5.heap.size + 1) = False := eq_false (by have := BY.lt; omega)
      have mY1 : b < v5.heap.size + 1 := by have := BY.lt; omega
      have nT0 : (w.heap.size = v5.heap.size) = False := eq_false (by have := BT.lt; omega)
      have mT0 : w.heap.size < v5.heap.size := by have := BT.lt; omega
      have nT1 : (w.heap.size = v5.heap.size + 1) = False := eq_false (by have := BT.lt; omega)
      have mT1 : w.heap.size < v5.heap.size + 1 := by have := BT.lt; omega
      have nR0 : (w.heap.size + 1 = v5.heap.size) = False := eq_false (by have := BR.lt; omega)
      have mR0 : w.heap.size + 1 < v5.heap.size := by have := BR.lt; omega
      have nR1 : (w.heap.size = v5.heap.size) = False := eq_false (by have := BR.lt; omega)
      have mR1 : w.heap.size < v5.heap.size := by have := BR.lt; omega
      have nH0 : (v3.heap.size = v5.heap.size) = False := eq_false (by have := BH.lt; omega)
      have mH0 : v3.heap.size < v5.heap.size := by have := BH.lt; omega
      have nH1 : (v3.heap.size = v5.heap.size + 1) = False := eq_false (by have := BH.lt; omega)
      have mH1 : v3.heap.size < v5.heap.size + 1 := by have := BH.lt; omega
      go_wp2_with fail
      obtain ⟨e1, e2, e3⟩ := HW.out t u z hs HH.out
      refine bodyPost_ret (v := .agg #[.int .i64 0, .float .f64 t, .float .f64 u, .float .f64 z]) (by simp [results, go_sem, kR]) rfl ⟨_, rfl, by rw [HM.out, HH.out, e1, e2, e3]; rfl, ?_⟩
      repeat (refine Below.setCell ?_ (by dsimp only; omega) _)
      exact HB
    all_goals
      go_enter Try.func43, Try.ntmps43
      go_wp2_with fail
      refine Lp.settle (fun w' => Lp.Bk w' (b) #[.float .f64 O.x, .float .f64 O.y, .float .f64 O.z, .float .f64 D.x, .float .f64 D.y, .float .f64 D.z] 28 ∧ Lp.Bk w' (w.heap.size) #[.float .f64 A.x, .float .f64 A.y, .float .f64 A.z, .float .f64 B.x, .float .f64 B.y, .float .f64 B.z, .float .f64 C.x, .float .f64 C.y, .float .f64 C.z] 26 ∧ Lp.Bk w' (w.heap.size + 1) #[.int .i64 0, .float .f64 0, .float .f64 0, .float .f64 0] 30 ∧ Cl w w') ⟨((BY).alo _).alo _, (Lp.Bk.al _ _ _).alo _, Lp.Bk.al1 _ _ _ _, ((HB).alloc _).alloc _⟩ ?_
      clear BY HB
      rintro v1 ⟨BY, BT, BR, HB⟩
      have kY := BY.cell
      have kT := BT.cell
      have kR := BR.cell
      have zR := BR.frz
      have nY0 : (b = v1.heap.size) = False := eq_false (by have := BY.lt; omega)
      have mY0 : b < v1.heap.size := by have := BY.lt; omega
      have nY1 : (b = v1.heap.size + 1) = False := eq_false (by have := BY.lt; omega)
      have mY1 : b < v1.heap.size + 1 := by have := BY.lt; omega
      have nT0 : (w.heap.size = v1.heap.size) = False := eq_false (by have := BT.lt; omega)
      have mT0 : w.heap.size < v1.heap.size := by have := BT.lt; omega
      have nT1 : (w.heap.size = v1.heap.size + 1) = False := eq_false (by have := BT.lt; omega)
      have mT1 : w.heap.size < v1.heap.size + 1 := by have := BT.lt; omega
      have nR0 : (w.heap.size + 1 = v1.heap.size) = False := eq_false (by have := BR.lt; omega)
      have mR0 : w.heap.size + 1 < v1.heap.size := by have := BR.lt; omega
      have nR1 : (w.heap.size = v1.heap.size) = False := eq_false (by have := BR.lt; omega)
      have mR1 : w.heap.size < v1.heap.size := by have := BR.lt; omega
      apply Lp.wp_region_loose _ _ 11 (by kernel_rfl) (by kernel_rfl) (by kernel_rfl) (Below.refl _ _)
      apply Lp.facts
      · intro w1 hw
        exact And.intro (BY.cl hw).cell (And.intro (BT.cl hw).cell ((BR.cl hw).cell))
      intro HF
      iterate 1 (
        apply Lp.one ?_ rfl
        · intro w hw
          obtain ⟨k0, k1, k2⟩ := HF.out _ hw
          go_simp
          exact rfl
        intro K hK
        go_simp
        refine hK.out _ ?_
        clear hK K)
      apply Lp.any rfl
      · intro w hw
        go_simp
        exact Lp.ret (of_any _ _ _ _ _ _ _ _ _ _)
      intro K hK
      rintro v rfl
      go_simp
      refine hK.out _ ?_
      clear hK K
      iterate 1 (
        apply Lp.one ?_ rfl
        · intro w hw
          obtain ⟨k0, k1, k2⟩ := HF.out _ hw
          go_simp
          exact rfl
        intro K hK
        go_simp
        refine hK.out _ ?_
        clear hK K)
      apply Lp.any rfl
      · intro w hw
        go_simp
        exact Lp.ret (HT.out _)
      intro K hK
      rintro v rfl
      go_simp
      refine hK.out _ ?_
      clear hK K
      iterate 7 (
        apply Lp.one ?_ rfl
        · intro w hw
          obtain ⟨k0, k1, k2⟩ := HF.out _ hw
          go_simp
          exact rfl
        intro K hK
        go_simp
        refine hK.out _ ?_
        clear hK K)
      rotate_left
      exact []
      intro v2 hm
      clear kY kT kR zR nY0 mY0 nY1 mY1 nT0 mT0 nT1 mT1 nR0 mR0 nR1 mR1
      replace BY := BY.keep hm
      replace BT := BT.keep hm
      replace BR := BR.keep hm
      replace HB := HB.call hm
      clear hm
      have kY := BY.cell
      have kT := BT.cell
      have kR := BR.cell
      have zR := BR.frz
      have nY0 : (b = v2.heap.size) = False := eq_false (by have := BY.lt; omega)
      have mY0 : b < v2.heap.size := by have := BY.lt; omega
      have nY1 : (b = v2.heap.size + 1) = False := eq_false (by have := BY.lt; omega)
      have mY1 : b < v2.heap.size + 1 := by have := BY.lt; omega
      have nT0 : (w.heap.size = v2.heap.size) = False := eq_false (by have := BT.lt; omega)
      have mT0 : w.heap.size < v2.heap.size := by have := BT.lt; omega
      have nT1 : (w.heap.size = v2.heap.size + 1) = False := eq_false (by have := BT.lt; omega)
      have mT1 : w.heap.size < v2.heap.size + 1 := by have := BT.lt; omega
      have nR0 : (w.heap.size + 1 = v2.heap.size) = False := eq_false (by have := BR.lt; omega)
      have mR0 : w.heap.size + 1 < v2.heap.size := by have := BR.lt; omega
      have nR1 : (w.heap.size = v2.heap.size) = False := eq_false (by have := BR.lt; omega)
      have mR1 : w.heap.size < v2.heap.size := by have := BR.lt; omega
      go_wp2_with fail
      refine Calls.mono (HC.out _) ?_
      rintro e v3 ⟨v, rfl, ⟨t, u, z, rfl, hs, hw⟩, hm⟩
      clear kY kT kR zR nY0 mY0 nY1 mY1 nT0 mT0 nT1 mT1 nR0 mR0 nR1 mR1
      replace BY := BY.keep hm
      replace BT := BT.keep hm
      replace BR := BR.keep hm
      replace HB := HB.call hm
      clear hm
      have kY := BY.cell
      have kT := BT.cell
      have kR := BR.cell
      have zR := BR.frz
      have nY0 : (b = v3.heap.size) = False := eq_false (by have := BY.lt; omega)
      have mY0 : b < v3.heap.size := by have := BY.lt; omega
      have nY1 : (b = v3.heap.size + 1) = False := eq_false (by have := BY.lt; omega)
      have mY1 : b < v3.heap.size + 1 := by have := BY.lt; omega
      have nT0 : (w.heap.size = v3.heap.size) = False := eq_false (by have := BT.lt; omega)
      have mT0 : w.heap.size < v3.heap.size := by have := BT.lt; omega
      have nT1 : (w.heap.size = v3.heap.size + 1) = False := eq_false (by have := BT.lt; omega)
      have mT1 : w.heap.size < v3.heap.size + 1 := by have := BT.lt; omega
      have nR0 : (w.heap.size + 1 = v3.heap.size) = False := eq_false (by have := BR.lt; omega)
      have mR0 : w.heap.size + 1 < v3.heap.size := by have := BR.lt; omega
      have nR1 : (w.heap.size = v3.heap.size) = False := eq_false (by have := BR.lt; omega)
      have mR1 : w.heap.size < v3.heap.size := by have := BR.lt; omega
      go_wp2_with fail
      refine Lp.settleC (fun w' => Lp.Bk w' (b) #[.float .f64 O.x, .float .f64 O.y, .float .f64 O.z, .float .f64 D.x, .float .f64 D.y, .float .f64 D.z] 28 ∧ Lp.Bk w' (w.heap.size) #[.float .f64 A.x, .float .f64 A.y, .float .f64 A.z, .float .f64 B.x, .float .f64 B.y, .float .f64 B.z, .float .f64 C.x, .float .f64 C.y, .float .f64 C.z] 26 ∧ Lp.Bk w' (w.heap.size + 1) #[.int .i64 0, .float .f64 0, .float .f64 0, .float .f64 0] 30 ∧ Lp.Bk w' (v3.heap.size) #[.int .i64 0, .float .f64 t, .float .f64 u, .float .f64 z] 30 ∧ Cl w w') ⟨(BY).alo _, (BT).alo _, (BR).alo _, Lp.Bk.al _ _ _, (HB).alloc _⟩ ?_
      clear kY kT kR zR nY0 mY0 nY1 mY1 nT0 mT0 nT1 mT1 nR0 mR0 nR1 mR1
      clear BY BT BR HB
      rintro v4 ⟨BY, BT, BR, BH, HB⟩
      have kY := BY.cell
      have kT := BT.cell
      have kR := BR.cell
      have kH := BH.cell
      have zR := BR.frz
      have nY0 : (b = v4.heap.size) = False := eq_false (by have := BY.lt; omega)
      have mY0 : b < v4.heap.size := by have := BY.lt; omega
      have nY1 : (b = v4.heap.size + 1) = False := eq_false (by have := BY.lt; omega)
      have mY1 : b < v4.heap.size + 1 := by have := BY.lt; omega
      have nT0 : (w.heap.size = v4.heap.size) = False := eq_false (by have := BT.lt; omega)
      have mT0 : w.heap.size < v4.heap.size := by have := BT.lt; omega
      have nT1 : (w.heap.size = v4.heap.size + 1) = False := eq_false (by have := BT.lt; omega)
      have mT1 : w.heap.size < v4.heap.size + 1 := by have := BT.lt; omega
      have nR0 : (w.heap.size + 1 = v4.heap.size) = False := eq_false (by have := BR.lt; omega)
      have mR0 : w.heap.size + 1 < v4.heap.size := by have := BR.lt; omega
      have nR1 : (w.heap.size = v4.heap.size) = False := eq_false (by have := BR.lt; omega)
      have mR1 : w.heap.size < v4.heap.size := by have := BR.lt; omega
      have nH0 : (v3.heap.size = v4.heap.size) = False := eq_false (by have := BH.lt; omega)
      have mH0 : v3.heap.size < v4.heap.size := by have := BH.lt; omega
      have nH1 : (v3.heap.size = v4.heap.size + 1) = False := eq_false (by have := BH.lt; omega)
      have mH1 : v3.heap.size < v4.heap.size + 1 := by have := BH.lt; omega
      have hx := HX.out t hs.x
      have hy := HY.out t hs.x
      have hz := HZ.out t hs.x
      refine Calls.mono (HI.out t u z hs _) ?_
      rintro e v5 ⟨v, rfl, rfl, hm⟩
      clear kY kT kR kH zR nY0 mY0 nY1 mY1 nT0 mT0 nT1 mT1 nR0 mR0 nR1 mR1 nH0 mH0 nH1 mH1
      replace BY := BY.keep hm
      replace BT := BT.keep hm
      replace BR := BR.keep hm
      replace BH := BH.keep hm
      replace HB := HB.call hm
      clear hm
      have kY := BY.cell
      have kT := BT.cell
      have kR := BR.cell
      have kH := BH.cell
      have zR := BR.frz
      have nY0 : (b = v5.heap.size) = False := eq_false (by have := BY.lt; omega)
      have mY0 : b < v5.heap.size := by have := BY.lt; omega
      have nY1 : (b = v5.heap.size + 1) = False := eq_false (by have := BY.lt; omega)
      have mY1 : b < v5.heap.size + 1 := by have := BY.lt; omega
      have nT0 : (w.heap.size = v5.heap.size) = False := eq_false (by have := BT.lt; omega)
      have mT0 : w.heap.size < v5.heap.size := by have := BT.lt; omega
      have nT1 : (w.heap.size = v5.heap.size + 1) = False := eq_false (by have := BT.lt; omega)
      have mT1 : w.heap.size < v5.heap.size + 1 := by have := BT.lt; omega
      have nR0 : (w.heap.size + 1 = v5.heap.size) = False := eq_false (by have := BR.lt; omega)
      have mR0 : w.heap.size + 1 < v5.heap.size := by have := BR.lt; omega
      have nR1 : (w.heap.size = v5.heap.size) = False := eq_false (by have := BR.lt; omega)
      have mR1 : w.heap.size < v5.heap.size := by have := BR.lt; omega
      have nH0 : (v3.heap.size = v5.heap.size) = False := eq_false (by have := BH.lt; omega)
      have mH0 : v3.heap.size < v5.heap.size := by have := BH.lt; omega
      have nH1 : (v3.heap.size = v5.heap.size + 1) = False := eq_false (by have := BH.lt; omega)
      have mH1 : v3.heap.size < v5.heap.size + 1 := by have := BH.lt; omega
      go_wp2_with fail
      refine Calls.mono (miss_any _) ?_
      rintro e v6 ⟨v, rfl, rfl, hm⟩
      clear kY kT kR kH zR nY0 mY0 nY1 mY1 nT0 mT0 nT1 mT1 nR0 mR0 nR1 mR1 nH0 mH0 nH1 mH1
      replace BY := BY.keep hm
      replace BT := BT.keep hm
      replace BR := BR.keep hm
      replace BH := BH.keep hm
      replace HB := HB.call hm
      clear hm
      have kY := BY.cell
      have kT := BT.cell
      have kR := BR.cell
      have kH := BH.cell
      have zR := BR.frz
      have nY0 : (b = v6.heap.size) = False := eq_false (by have := BY.lt; omega)
      have mY0 : b < v6.heap.size := by have := BY.lt; omega
      have nY1 : (b = v6.heap.size + 1) = False := eq_false (by have := BY.lt; omega)
      have mY1 : b < v6.heap.size + 1 := by have := BY.lt; omega
      have nT0 : (w.heap.size = v6.heap.size) = False := eq_false (by have := BT.lt; omega)
      have mT0 : w.heap.size < v6.heap.size := by have := BT.lt; omega
      have nT1 : (w.heap.size = v6.heap.size + 1) = False := eq_false (by have := BT.lt; omega)
      have mT1 : w.heap.size < v6.heap.size + 1 := by have := BT.lt; omega
      have nR0 : (w.heap.size + 1 = v6.heap.size) = False := eq_false (by have := BR.lt; omega)
      have mR0 : w.heap.size + 1 < v6.heap.size := by have := BR.lt; omega
      have nR1 : (w.heap.size = v6.heap.size) = False := eq_false (by have := BR.lt; omega)
      have mR1 : w.heap.size < v6.heap.size := by have := BR.lt; omega
      have nH0 : (v3.heap.size = v6.heap.size) = False := eq_false (by have := BH.lt; omega)
      have mH0 : v3.heap.size < v6.heap.size := by have := BH.lt; omega
      have nH1 : (v3.heap.size = v6.heap.size + 1) = False := eq_false (by have := BH.lt; omega)
      have mH1 : v3.heap.size < v6.heap.size + 1 := by have := BH.lt; omega
      go_wp2_with fail
      refine bodyPost_ret (v := .agg #[.int .i64 (-1), .float .f64 0, .float .f64 0, .float .f64 0]) (by simp [results, go_sem, kR]) rfl ⟨_, rfl, by rw [HM.out, HH.out]; rfl, ?_⟩
      repeat (refine Below.setCell ?_ (by dsimp only; omega) _)
      exact HB

end Go.Proofs.Ytfeomlbfmbpmaaa
