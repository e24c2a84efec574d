/- Package box: Through. Package tri: inside, asker, what it makes, Meet. Numbers: where a determinant is 0 or none, no place is one of the triangle; and U is not above 1 where U and V together are not. The reference's Join. -/
import Derived.Deep.LoopGhost
import Derived.Test.YtiblmojdjnfoaaaGreatRows
import Derived.Test.YtiblmojdjnfoaaaGreatG10
import Derived.Test.YtiblmojdjnfoaaaGreatG6
import Derived.Test.YtiblmojdjnfoaaaGreatG7
import Derived.Test.YtiblmojdjnfoaaaGreatG9
import Derived.Test.YtiblmojdjnfoaaaGreatG3
namespace Go.Proofs.YtiblmojdjnfoaaaGreat
open Go.RowKit Fl

/-- What is answered. -/
def outT : Option (Nat × Nat) → Value
  | some s => .tuple #[.float .f64 s.1, .float .f64 s.2, .bool true]
  | none => .tuple #[.float .f64 0, .float .f64 0, .bool false]
def rayB (r0 r1 r2 r3 r4 r5 : Nat) : Bool := (numB r0 && numB r1 && numB r2) && (numB r3 && numB r4 && numB r5)
def goesF (b0 b1 b2 b3 b4 b5 r0 r1 r2 r3 r4 r5 : Nat) : Option (Nat × Nat) := if rayB r0 r1 r2 r3 r4 r5 then throughF (fun k => partF r0 r1 r2 k) (fun k => partF r3 r4 r5 k) (fun k => partF b0 b1 b2 k) (fun k => partF b3 b4 b5 k) else none

theorem st_none {o d lo hi : Nat → Nat} {j : Nat} (h : stF o d lo hi j = none) : ∀ n, stF o d lo hi (j + n) = none
  | 0 => h
  | n + 1 => by show (stF o d lo hi (j + n)).bind _ = none; rw [st_none h n]; rfl
theorem through_none {o d lo hi : Nat → Nat} {j : Nat} (h : stF o d lo hi j = none) (hj : j ≤ 3) : throughF o d lo hi = none := by
  unfold throughF
  have := st_none h (3 - j)
  rw [show j + (3 - j) = 3 by omega] at this
  rw [this]; rfl
theorem ax_other {o d lo hi : Nat} {s : Nat × Nat} (h : (ford d 0 != some .eq) = true) : axF o d lo hi s = some (thrF o d lo hi s.1 s.2) := by
  unfold axF
  have : (ford d 0 == some .eq) = false := by simpa [bne] using h
  rw [this]; rfl
theorem ax_zero {o d lo hi : Nat} {s : Nat × Nat} (h : (ford d 0 != some .eq) = false) : axF o d lo hi s = if leB lo o && leB o hi then some s else none := by
  unfold axF
  have : (ford d 0 == some .eq) = true := by simpa [bne] using h
  rw [this]; rfl

set_option maxRecDepth 100000 in
set_option maxHeartbeats 1000000 in
theorem through_any (b0 b1 b2 b3 b4 b5 r0 r1 r2 r3 r4 r5 : Nat) (w : World) : Ret Tryz.prog 64 #[.agg #[.float .f64 b0, .float .f64 b1, .float .f64 b2, .float .f64 b3, .float .f64 b4, .float .f64 b5], .agg #[.float .f64 r0, .float .f64 r1, .float .f64 r2, .float .f64 r3, .float .f64 r4, .float .f64 r5]] w (fun v => v = outT (goesF b0 b1 b2 b3 b4 b5 r0 r1 r2 r3 r4 r5)) := by
  unfold Ret goesF rayB
  have HO : Hid _ := finite_any r0 r1 r2
  have HD : Hid _ := finite_any r3 r4 r5
  generalize (numB r0 && numB r1 && numB r2) = p at HO ⊢
  generalize (numB r3 && numB r4 && numB r5) = q at HD ⊢
  cases p
  · go_enter Tryz.func64, Tryz.ntmps64
    go_wp2_with fail
    refine Lp.settleC (fun w' => Lp.Bk w' (w.heap.size) #[.float .f64 b0, .float .f64 b1, .float .f64 b2, .float .f64 b3, .float .f64 b4, .float .f64 b5] 54 ∧ Lp.Bk w' (w.heap.size + 1) #[.float .f64 r0, .float .f64 r1, .float .f64 r2, .float .f64 r3, .float .f64 r4, .float .f64 r5] 27 ∧ Cl w w') ⟨((Lp.Bk.al _ _ _).alo _), (Lp.Bk.al1 _ _ _ _), ((Below.refl _ _).alloc (by simp <;> omega) _).alloc (by simp <;> omega) _⟩ ?_
    rintro v1 ⟨BB, BR, HB⟩
    have kB := BB.cell
    have kR := BR.cell
    refine Calls.mono (HO.out _) ?_
    rintro e v2 ⟨v, rfl, rfl, hm⟩
    clear kB kR
    replace BB := BB.keep hm
    replace BR := BR.keep hm
    replace HB := HB.call hm
    clear hm
    have kB := BB.cell
    have kR := BR.cell
    go_wp2_with fail
    go_ret3
    exact ⟨_, rfl, rfl, HB⟩
  cases q
  · go_enter Tryz.func64, Tryz.ntmps64
    go_wp2_with fail
    refine Lp.settleC (fun w' => Lp.Bk w' (w.heap.size) #[.float .f64 b0, .float .f64 b1, .float .f64 b2, .float .f64 b3, .float .f64 b4, .float .f64 b5] 54 ∧ Lp.Bk w' (w.heap.size + 1) #[.float .f64 r0, .float .f64 r1, .float .f64 r2, .float .f64 r3, .float .f64 r4, .float .f64 r5] 27 ∧ Cl w w') ⟨((Lp.Bk.al _ _ _).alo _), (Lp.Bk.al1 _ _ _ _), ((Below.refl _ _).alloc (by simp <;> omega) _).alloc (by simp <;> omega) _⟩ ?_
    rintro v1 ⟨BB, BR, HB⟩
    have kB := BB.cell
    have kR := BR.cell
    refine Calls.mono (HO.out _) ?_
    rintro e v2 ⟨v, rfl, rfl, hm⟩
    clear kB kR
    replace BB := BB.keep hm
    replace BR := BR.keep hm
    replace HB := HB.call hm
    clear hm
    have kB := BB.cell
    have kR := BR.cell
    go_wp2_with fail
    refine Calls.mono (HD.out _) ?_
    rintro e v3 ⟨v, rfl, rfl, hm⟩
    clear kB kR
    replace BB := BB.keep hm
    replace BR := BR.keep hm
    replace HB := HB.call hm
    clear hm
    have kB := BB.cell
    have kR := BR.cell
    go_wp2_with fail
    go_ret3
    exact ⟨_, rfl, rfl, HB⟩
  go_enter Tryz.func64, Tryz.ntmps64
  go_wp2_with fail
  refine Lp.settleC (fun w' => Lp.Bk w' (w.heap.size) #[.float .f64 b0, .float .f64 b1, .float .f64 b2, .float .f64 b3, .float .f64 b4, .float .f64 b5] 54 ∧ Lp.Bk w' (w.heap.size + 1) #[.float .f64 r0, .float .f64 r1, .float .f64 r2, .float .f64 r3, .float .f64 r4, .float .f64 r5] 27 ∧ Cl w w') ⟨((Lp.Bk.al _ _ _).alo _), (Lp.Bk.al1 _ _ _ _), ((Below.refl _ _).alloc (by simp <;> omega) _).alloc (by simp <;> omega) _⟩ ?_
  rintro v1 ⟨BB, BR, HB⟩
  have kB := BB.cell
  have kR := BR.cell
  refine Calls.mono (HO.out _) ?_
  rintro e v2 ⟨v, rfl, rfl, hm⟩
  clear kB kR
  replace BB := BB.keep hm
  replace BR := BR.keep hm
  replace HB := HB.call hm
  clear hm
  have kB := BB.cell
  have kR := BR.cell
  go_wp2_with fail
  refine Calls.mono (HD.out _) ?_
  rintro e v3 ⟨v, rfl, rfl, hm⟩
  clear kB kR
  replace BB := BB.keep hm
  replace BR := BR.keep hm
  replace HB := HB.call hm
  clear hm
  have kB := BB.cell
  have kR := BR.cell
  go_wp2_with fail
  refine Calls.mono (inf_pos _) ?_
  rintro e w' ⟨rfl, hw⟩
  obtain rfl := hw.symm
  clear hw
  go_wp2_with fail
  clear kB kR
  go_loopg [7, 8, 27] 3 (fun k n f i wr => ∃ (j : Nat) (s : Nat × Nat), k + j = 3 ∧ i = .int .i64 (j : Int) ∧ n = .float .f64 s.1 ∧ f = .float .f64 s.2 ∧ stF (fun k => partF r0 r1 r2 k) (fun k => partF r3 r4 r5 k) (fun k => partF b0 b1 b2 k) (fun k => partF b3 b4 b5 k) j = some s ∧ Lp.Bk wr (w.heap.size) #[.float .f64 b0, .float .f64 b1, .float .f64 b2, .float .f64 b3, .float .f64 b4, .float .f64 b5] 54 ∧ Lp.Bk wr (w.heap.size + 1) #[.float .f64 r0, .float .f64 r1, .float .f64 r2, .float .f64 r3, .float .f64 r4, .float .f64 r5] 27 ∧ Cl w wr)
  case atStart => exact ⟨0, (0, pinf), rfl, rfl, rfl, rfl, rfl, BB, BR, HB⟩
  case round =>
    clear BB BR HB
    obtain ⟨j, s, hk, rfl, rfl, rfl, hs, BB, BR, HB⟩ := hrel
    by_cases hj : j < 3
    · have HS : Aside _ := And.intro hk (show stF (fun k => partF r0 r1 r2 k) (fun k => partF r3 r4 r5 k) (fun k => partF b0 b1 b2 k) (fun k => partF b3 b4 b5 k) (j + 1) = axF (partF r0 r1 r2 j) (partF r3 r4 r5 j) (partF b0 b1 b2 j) (partF b3 b4 b5 j) s by show (stF _ _ _ _ j).bind _ = _; rw [hs]; rfl)
      clear hk hs
      have hd : ((j : Int) < 3) = True := eq_true (by omega)
      have hl1 : (partF r3 r4 r5 j) = (partF r3 r4 r5 j) := rfl
      clear hl1
      go_wp2_with fail
      apply Lp.wp_region_loose _ _ 10 (by kernel_rfl) (by kernel_rfl) (by kernel_rfl) (Below.refl _ _)
      apply Lp.facts
      · intro w1 hw
        exact And.intro (BB.cl hw).cell ((BR.cl hw).cell)
      intro HF
      iterate 3 (
        apply Lp.one ?_ rfl
        · intro w hw
          obtain ⟨k0, k1⟩ := HF.out _ hw
          go_simp
          exact rfl
        intro K hK
        go_simp
        refine hK.out _ ?_
        clear hK K)
      apply Lp.any rfl
      · intro w hw
        go_simp
        exact Lp.ret (vpart_any _ _ _ _ _)
      intro K hK
      rintro v rfl
      go_simp
      refine hK.out _ ?_
      clear hK K
      iterate 3 (
        apply Lp.one ?_ rfl
        · intro w hw
          obtain ⟨k0, k1⟩ := HF.out _ hw
          go_simp
          exact rfl
        intro K hK
        go_simp
        refine hK.out _ ?_
        clear hK K)
      apply Lp.any rfl
      · intro w hw
        go_simp
        exact Lp.ret (vpart_any _ _ _ _ _)
      intro K hK
      rintro v rfl
      go_simp
      refine hK.out _ ?_
      clear hK K
      iterate 2 (
        apply Lp.one ?_ rfl
        · intro w hw
          obtain ⟨k0, k1⟩ := HF.out _ hw
          go_simp
          exact rfl
        intro K hK
        go_simp
        refine hK.out _ ?_
        clear hK K)
      rotate_left
      exact []
      intro v4 hm
      replace BB := BB.keep hm
      replace BR := BR.keep hm
      replace HB := HB.call hm
      clear hm
      have kB := BB.cell
      have kR := BR.cell
      go_wp2_with fail
      apply Lp.wp_region_loose _ _ 10 (by kernel_rfl) (by kernel_rfl) (by kernel_rfl) (Below.refl _ _)
      apply Lp.facts
      · intro w1 hw
        exact And.intro (BB.cl hw).cell ((BR.cl hw).cell)
      intro HF
      iterate 3 (
        apply Lp.one ?_ rfl
        · intro w hw
          obtain ⟨k0, k1⟩ := HF.out _ hw
          go_simp
          exact rfl
        intro K hK
        go_simp
        refine hK.out _ ?_
        clear hK K)
      apply Lp.any rfl
      · intro w hw
        go_simp
        exact Lp.ret (vpart_any _ _ _ _ _)
      intro K hK
      rintro v rfl
      go_simp
      refine hK.out _ ?_
      clear hK K
      iterate 3 (
        apply Lp.one ?_ rfl
        · intro w hw
          obtain ⟨k0, k1⟩ := HF.out _ hw
          go_simp
          exact rfl
        intro K hK
        go_simp
        refine hK.out _ ?_
        clear hK K)
      apply Lp.any rfl
      · intro w hw
        go_simp
        exact Lp.ret (vpart_any _ _ _ _ _)
      intro K hK
      rintro v rfl
      go_simp
      refine hK.out _ ?_
      clear hK K
      iterate 2 (
        apply Lp.one ?_ rfl
        · intro w hw
          obtain ⟨k0, k1⟩ := HF.out _ hw
          go_simp
          exact rfl
        intro K hK
        go_simp
        refine hK.out _ ?_
        clear hK K)
      rotate_left
      exact []
      intro v5 hm
      clear kB kR
      replace BB := BB.keep hm
      replace BR := BR.keep hm
      replace HB := HB.call hm
      clear hm
      have kB := BB.cell
      have kR := BR.cell
      go_wp2_with fail
      · have hz : (ford (partF r3 r4 r5 j) 0 != some .eq) = true := by assumption
        replace HS : Aside _ := And.intro HS.out.1 (HS.out.2.trans (ax_other hz))
        clear hz
        refine Calls.mono (ends_any _ _ _) ?_
        rintro e v8 ⟨i, hi, rfl, hm, BO, BI⟩
        clear kB kR
        replace BB := BB.keep hm
        replace BR := BR.keep hm
        replace HB := HB.call hm
        clear hm
        have kB := BB.cell
        have kR := BR.cell
        go_wp2_with fail
        refine Calls.mono (ends1_any _ _ _ _ _ _ _ hi.sm _ BO BI) ?_
        rintro e v9 ⟨_, rfl, ⟨x, y, rfl, hx, hy⟩, hm⟩
        clear BO BI
        clear kB kR
        replace BB := BB.keep hm
        replace BR := BR.keep hm
        replace HB := HB.call hm
        clear hm
        have kB := BB.cell
        have kR := BR.cell
        go_wp2_with fail
        refine Calls.mono (greater_any _ _ _) ?_
        rintro e w' ⟨rfl, hw⟩
        obtain rfl := hw.symm
        clear hw
        go_wp2_with fail
        refine Calls.mono (lesser_any _ _ _) ?_
        rintro e w' ⟨rfl, hw⟩
        obtain rfl := hw.symm
        clear hw
        go_wp2_with fail
        go_roundg (gk - 1)
        case measure => have := HS.out.1; omega
        case rel => exact ⟨j + 1, _, by have := HS.out.1; omega, by go_num, by rw [thrF_eq]; exact congrArg (Value.float .f64) (high_sm hx.sm), by rw [thrF_eq]; exact congrArg (Value.float .f64) (low_sm hy.sm), HS.out.2, BB, BR, HB⟩
      · have hz : (ford (partF r3 r4 r5 j) 0 != some .eq) = false := by assumption
        have hn : (leB (partF b0 b1 b2 j) (partF r0 r1 r2 j) && leB (partF r0 r1 r2 j) (partF b3 b4 b5 j)) = false := by first | exact le2_off (by assumption) | exact le2_off1 (by assumption)
        have hst := HS.out.2.trans (ax_zero hz)
        rw [hn, if_neg Bool.false_ne_true] at hst
        go_ret3
        exact ⟨_, rfl, by rw [through_none hst (by omega)]; rfl, HB⟩
      · have hz : (ford (partF r3 r4 r5 j) 0 != some .eq) = false := by assumption
        have hn : (leB (partF b0 b1 b2 j) (partF r0 r1 r2 j) && leB (partF r0 r1 r2 j) (partF b3 b4 b5 j)) = true := le2_on (by assumption)
        have hst := HS.out.2.trans (ax_zero hz)
        rw [hn, if_pos rfl] at hst
        go_roundg (gk - 1)
        case measure => have := HS.out.1; omega
        case rel => exact ⟨j + 1, _, by have := HS.out.1; omega, by go_num, rfl, rfl, hst, BB, BR, HB⟩
      · have hz : (ford (partF r3 r4 r5 j) 0 != some .eq) = false := by assumption
        have hn : (leB (partF b0 b1 b2 j) (partF r0 r1 r2 j) && leB (partF r0 r1 r2 j) (partF b3 b4 b5 j)) = false := by first | exact le2_off (by assumption) | exact le2_off1 (by assumption)
        have hst := HS.out.2.trans (ax_zero hz)
        rw [hn, if_neg Bool.false_ne_true] at hst
        go_ret3
        exact ⟨_, rfl, by rw [through_none hst (by omega)]; rfl, HB⟩
    · have hj3 : j = 3 := by omega
      subst hj3
      have hd : (((3 : Nat) : Int) < 3) = False := eq_false (by omega)
      go_wp2_with fail
      · have hn : leB s.1 s.2 = true := leB_onC (by assumption)
        go_ret3
        exact ⟨_, rfl, by unfold throughF; rw [hs]; show _ = outT (finF s); unfold finF; rw [hn]; rfl, HB⟩
      · have hn : leB s.1 s.2 = false := leB_offC (by assumption)
        go_ret3
        exact ⟨_, rfl, by unfold throughF; rw [hs]; show _ = outT (finF s); unfold finF; rw [hn]; rfl, HB⟩

end Go.Proofs.YtiblmojdjnfoaaaGreat

namespace Go.Proofs.YtiblmojdjnfoaaaGreat
open Go.RowKit Fl

theorem V3.self (A : V3) : S3 A.x A.y A.z A := S3.refl _ _ _
def geB (x y : Nat) : Bool := ford x y == some .gt || ford x y == some .eq
def gtC (x y : Nat) : Bool := ford x y == some .gt
theorem ge_w {x y X Y : Nat} (hx : Sm x X) (hy : Sm y Y) : (FloatKind.f64.format.order x y == some .gt || FloatKind.f64.format.order x y == some .eq) = geB X Y := by
  rw [ordf, ford_congr hx hy]; rfl
theorem le_w {x y X Y : Nat} (hx : Sm x X) (hy : Sm y Y) : (FloatKind.f64.format.order x y == some .lt || FloatKind.f64.format.order x y == some .eq) = leB X Y := by
  rw [ordf, ford_congr hx hy]; rfl
theorem gt_w {x y X Y : Nat} (hx : Sm x X) (hy : Sm y Y) : (FloatKind.f64.format.order x y == some .gt) = gtC X Y := by
  rw [ordf, ford_congr hx hy]; rfl
theorem ge_num {x y : Nat} (h : geB x y = true) : isN x = false := by
  cases k : isN x
  · rfl
  · unfold geB at h; rw [ord_nan_left k y] at h; cases h
/-- Is a place of the plane one of the triangle? -/
def insideB (U V : Nat) : Bool := geB U 0 && geB V 0 && leB (fadd U V) 4607182418800017408

set_option maxRecDepth 100000 in
set_option maxHeartbeats 1000000 in
theorem inside_any {t u v U V : Nat} (hu : Sm u U) (hv : Sm v V) (w : World) : Ret Tryz.prog 90 #[.agg #[.int .i64 0, .float .f64 t, .float .f64 u, .float .f64 v]] w (fun z => z = .bool (insideB U V)) := by
  unfold Ret
  unfold insideB
  have g1 := ge_w hu (Sm.refl 0)
  have g2 := ge_w hv (Sm.refl 0)
  have G3 := hid (fun r (h : Eqv r (fadd U V)) => le_w h.sm (Sm.refl 4607182418800017408))
  have HU := hid hu
  have HV := hid hv
  clear hu hv
  generalize geB U 0 = p at g1 ⊢
  generalize geB V 0 = q at g2 ⊢
  generalize leB (fadd U V) 4607182418800017408 = s at G3 ⊢
  cases p
  · go_enter Tryz.func90, Tryz.ntmps90
    go_wp2_with fail
    go_ret
    exact ⟨_, rfl, rfl, by repeat (first | exact Below.refl _ _ | refine below_dr ?_ _ | refine Below.alloc ?_ (by simp) _)⟩
  cases q
  · go_enter Tryz.func90, Tryz.ntmps90
    go_wp2_with fail
    go_ret
    exact ⟨_, rfl, rfl, by repeat (first | exact Below.refl _ _ | refine below_dr ?_ _ | refine Below.alloc ?_ (by simp) _)⟩
  cases s
  · go_enter Tryz.func90, Tryz.ntmps90
    go_wp2_with fail
    refine upon_add HU.out HV.out ?_
    intro r n hr
    have g3 := G3.out r hr
    go_wp2_with fail
    go_ret
    exact ⟨_, rfl, rfl, by repeat (first | exact Below.refl _ _ | refine below_dr ?_ _ | refine Below.alloc ?_ (by simp) _)⟩
  · go_enter Tryz.func90, Tryz.ntmps90
    go_wp2_with fail
    refine upon_add HU.out HV.out ?_
    intro r n hr
    have g3 := G3.out r hr
    go_wp2_with fail
    go_ret
    exact ⟨_, rfl, rfl, by repeat (first | exact Below.refl _ _ | refine below_dr ?_ _ | refine Below.alloc ?_ (by simp) _)⟩

set_option maxRecDepth 100000 in
set_option maxHeartbeats 1000000 in
theorem asker_any (O D : V3) (w : World) : Calls Tryz.prog 66 #[.agg #[.float .f64 O.x, .float .f64 O.y, .float .f64 O.z, .float .f64 D.x, .float .f64 D.y, .float .f64 D.z]] w fun e w' => e = .returned (.func (.func 88) #[] #[.pointer (some ⟨w.heap.size, 0, none⟩)]) ∧ Below w.heap.size w w' ∧ Lp.Bk w' w.heap.size #[.float .f64 O.x, .float .f64 O.y, .float .f64 O.z, .float .f64 D.x, .float .f64 D.y, .float .f64 D.z] 27 := by
  go_enter Tryz.func66, Tryz.ntmps66
  go_wp2_with fail
  go_ret
  exact ⟨rfl, (Below.refl _ _).alloc (Nat.le_refl _) _, Lp.Bk.al _ _ _⟩

/-- Where the ray goes through the triangle's box. -/
def triGo (A B C O D : V3) : Option (Nat × Nat) := goesF (lowF (lowF (lowF pinf A.x) B.x) C.x) (lowF (lowF (lowF pinf A.y) B.y) C.y) (lowF (lowF (lowF pinf A.z) B.z) C.z) (highF (highF (highF ninf A.x) B.x) C.x) (highF (highF (highF ninf A.y) B.y) C.y) (highF (highF (highF ninf A.z) B.z) C.z) O.x O.y O.z D.x D.y D.z
def hitB (n f T U V : Nat) : Bool := insideB U V && geB T n && leB T f && gtC T 0
/-- Where the ray meets the triangle. -/
def meetF (A B C O D : V3) : Option V3 := match triGo A B C O D with
  | none => none
  | some s => if hitB s.1 s.2 (cutT A B C O D) (cutU A B C O D) (cutV A B C O D) then some ⟨cutT A B C O D, cutU A B C O D, cutV A B C O D⟩ else none
def hitV : Option V3 → Value
  | some h => .agg #[.int .i64 0, .float .f64 h.x, .float .f64 h.y, .float .f64 h.z]
  | none => .agg #[.int .i64 (-1), .float .f64 0, .float .f64 0, .float .f64 0]
theorem hit_num {n f T U V : Nat} (h : hitB n f T U V = true) : isN T = false ∧ isN U = false ∧ isN V = false := by
  unfold hitB insideB at h
  simp only [Bool.and_eq_true] at h
  exact ⟨ge_num h.1.1.2, ge_num h.1.1.1.1.1, ge_num h.1.1.1.1.2⟩
theorem hit_words {n f T U V t u z : Nat} (h : hitB n f T U V = true) (hs : S3 t u z ⟨T, U, V⟩) : t = T ∧ u = U ∧ z = V := by
  obtain ⟨h0, h1, h2⟩ := hit_num h
  exact ⟨(hs.x.symm.eq h0).symm, (hs.y.symm.eq h1).symm, (hs.z.symm.eq h2).symm⟩

set_option maxRecDepth 100000 in
set_option maxHeartbeats 2000000 in
theorem asked_any (A B C O D : V3) (b : Nat) (w : World) (BY : Lp.Bk w b #[.float .f64 O.x, .float .f64 O.y, .float .f64 O.z, .float .f64 D.x, .float .f64 D.y, .float .f64 D.z] 27) : Ret Tryz.prog 88 #[.agg #[.float .f64 A.x, .float .f64 A.y, .float .f64 A.z, .float .f64 B.x, .float .f64 B.y, .float .f64 B.z, .float .f64 C.x, .float .f64 C.y, .float .f64 C.z], .pointer (some ⟨b, 0, none⟩)] w (fun v => v = hitV (meetF A B C O D)) := by
  unfold Ret
  have HT := hid (fun w => through_any (lowF (lowF (lowF pinf A.x) B.x) C.x) (lowF (lowF (lowF pinf A.y) B.y) C.y) (lowF (lowF (lowF pinf A.z) B.z) C.z) (highF (highF (highF ninf A.x) B.x) C.x) (highF (highF (highF ninf A.y) B.y) C.y) (highF (highF (highF ninf A.z) B.z) C.z) O.x O.y O.z D.x D.y D.z w)
  have HE := hid (show goesF (lowF (lowF (lowF pinf A.x) B.x) C.x) (lowF (lowF (lowF pinf A.y) B.y) C.y) (lowF (lowF (lowF pinf A.z) B.z) C.z) (highF (highF (highF ninf A.x) B.x) C.x) (highF (highF (highF ninf A.y) B.y) C.y) (highF (highF (highF ninf A.z) B.z) C.z) O.x O.y O.z D.x D.y D.z = triGo A B C O D from rfl)
  rw [HE.out] at HT
  clear HE
  have HM := hid (show meetF A B C O D = match triGo A B C O D with | none => none | some s => if hitB s.1 s.2 (cutT A B C O D) (cutU A B C O D) (cutV A B C O D) then some ⟨cutT A B C O D, cutU A B C O D, cutV A B C O D⟩ else none from rfl)
  have HC := hid (fun w => cut_any A.self B.self C.self O.self D.self w)
  generalize meetF A B C O D = M at HM ⊢
  generalize triGo A B C O D = s at HT HM
  have HB : Cl w w := Below.refl _ _
  rcases s with _ | ⟨n, f⟩
  · simp only [outT] at HT
    go_enter Tryz.func88, Tryz.ntmps88
    go_wp2_with fail
    refine Lp.settle (fun w' => Lp.Bk w' (b) #[.float .f64 O.x, .float .f64 O.y, .float .f64 O.z, .float .f64 D.x, .float .f64 D.y, .float .f64 D.z] 27 ∧ Lp.Bk w' (w.heap.size) #[.float .f64 A.x, .float .f64 A.y, .float .f64 A.z, .float .f64 B.x, .float .f64 B.y, .float .f64 B.z, .float .f64 C.x, .float .f64 C.y, .float .f64 C.z] 60 ∧ Lp.Bk w' (w.heap.size + 1) #[.int .i64 0, .float .f64 0, .float .f64 0, .float .f64 0] 35 ∧ Cl w w') ⟨((BY).alo _).alo _, (Lp.Bk.al _ _ _).alo _, Lp.Bk.al1 _ _ _ _, ((HB).alloc _).alloc _⟩ ?_
    clear BY HB
    rintro v1 ⟨BY, BT, BR, HB⟩
    have kY := BY.cell
    have kT := BT.cell
    have kR := BR.cell
    have zR := BR.frz
    have nY0 : (b = v1.heap.size) = False := eq_false (by have := BY.lt; omega)
    have mY0 : b < v1.heap.size := by have := BY.lt; omega
    have nY1 : (b = v1.heap.size + 1) = False := eq_false (by have := BY.lt; omega)
    have mY1 : b < v1.heap.size + 1 := by have := BY.lt; omega
    have nT0 : (w.heap.size = v1.heap.size) = False := eq_false (by have := BT.lt; omega)
    have mT0 : w.heap.size < v1.heap.size := by have := BT.lt; omega
    have nT1 : (w.heap.size = v1.heap.size + 1) = False := eq_false (by have := BT.lt; omega)
    have mT1 : w.heap.size < v1.heap.size + 1 := by have := BT.lt; omega
    have nR0 : (w.heap.size + 1 = v1.heap.size) = False := eq_false (by have := BR.lt; omega)
    have mR0 : w.heap.size + 1 < v1.heap.size := by have := BR.lt; omega
    have nR1 : (w.heap.size = v1.heap.size) = False := eq_false (by have := BR.lt; omega)
    have mR1 : w.heap.size < v1.heap.size := by have := BR.lt; omega
    apply Lp.wp_region_loose _ _ 11 (by kernel_rfl) (by kernel_rfl) (by kernel_rfl) (Below.refl _ _)
    apply Lp.facts
    · intro w1 hw
      exact And.intro (BY.cl hw).cell (And.intro (BT.cl hw).cell ((BR.cl hw).cell))
    intro HF
    iterate 1 (
      apply Lp.one ?_ rfl
      · intro w hw
        obtain ⟨k0, k1, k2⟩ := HF.out _ hw
        go_simp
        exact rfl
      intro K hK
      go_simp
      refine hK.out _ ?_
      clear hK K)
    apply Lp.any rfl
    · intro w hw
      go_simp
      exact Lp.ret (of_any _ _ _ _ _ _ _ _ _ _)
    intro K hK
    rintro v rfl
    go_simp
    refine hK.out _ ?_
    clear hK K
    iterate 1 (
      apply Lp.one ?_ rfl
      · intro w hw
        obtain ⟨k0, k1, k2⟩ := HF.out _ hw
        go_simp
        exact rfl
      intro K hK
      go_simp
      refine hK.out _ ?_
      clear hK K)
    apply Lp.any rfl
    · intro w hw
      go_simp
      exact Lp.ret (HT.out _)
    intro K hK
    rintro v rfl
    go_simp
    refine hK.out _ ?_
    clear hK K
    iterate 7 (
      apply Lp.one ?_ rfl
      · intro w hw
        obtain ⟨k0, k1, k2⟩ := HF.out _ hw
        go_simp
        exact rfl
      intro K hK
      go_simp
      refine hK.out _ ?_
      clear hK K)
    rotate_left
    exact []
    intro v2 hm
    clear kY kT kR zR nY0 mY0 nY1 mY1 nT0 mT0 nT1 mT1 nR0 mR0 nR1 mR1
    replace BY := BY.keep hm
    replace BT := BT.keep hm
    replace BR := BR.keep hm
    replace HB := HB.call hm
    clear hm
    have kY := BY.cell
    have kT := BT.cell
    have kR := BR.cell
    have zR := BR.frz
    have nY0 : (b = v2.heap.size) = False := eq_false (by have := BY.lt; omega)
    have mY0 : b < v2.heap.size := by have := BY.lt; omega
    have nY1 : (b = v2.heap.size + 1) = False := eq_false (by have := BY.lt; omega)
    have mY1 : b < v2.heap.size + 1 := by have := BY.lt; omega
    have nT0 : (w.heap.size = v2.heap.size) = False := eq_false (by have := BT.lt; omega)
    have mT0 : w.heap.size < v2.heap.size := by have := BT.lt; omega
    have nT1 : (w.heap.size = v2.heap.size + 1) = False := eq_false (by have := BT.lt; omega)
    have mT1 : w.heap.size < v2.heap.size + 1 := by have := BT.lt; omega
    have nR0 : (w.heap.size + 1 = v2.heap.size) = False := eq_false (by have := BR.lt; omega)
    have mR0 : w.heap.size + 1 < v2.heap.size := by have := BR.lt; omega
    have nR1 : (w.heap.size = v2.heap.size) = False := eq_false (by have := BR.lt; omega)
    have mR1 : w.heap.size < v2.heap.size := by have := BR.lt; omega
    go_wp2_with fail
    refine Calls.mono (miss_any _) ?_
    rintro e v3 ⟨v, rfl, rfl, hm⟩
    clear kY kT kR zR nY0 mY0 nY1 mY1 nT0 mT0 nT1 mT1 nR0 mR0 nR1 mR1
    replace BY := BY.keep hm
    replace BT := BT.keep hm
    replace BR := BR.keep hm
    replace HB := HB.call hm
    clear hm
    have kY := BY.cell
    have kT := BT.cell
    have kR := BR.cell
    have zR := BR.frz
    have nY0 : (b = v3.heap.size) = False := eq_false (by have := BY.lt; omega)
    have mY0 : b < v3.heap.size := by have := BY.lt; omega
    have nY1 : (b = v3.heap.size + 1) = False := eq_false (by have := BY.lt; omega)
    have mY1 : b < v3.heap.size + 1 := by have := BY.lt; omega
    have nT0 : (w.heap.size = v3.heap.size) = False := eq_false (by have := BT.lt; omega)
    have mT0 : w.heap.size < v3.heap.size := by have := BT.lt; omega
    have nT1 : (w.heap.size = v3.heap.size + 1) = False := eq_false (by have := BT.lt; omega)
    have mT1 : w.heap.size < v3.heap.size + 1 := by have := BT.lt; omega
    have nR0 : (w.heap.size + 1 = v3.heap.size) = False := eq_false (by have := BR.lt; omega)
    have mR0 : w.heap.size + 1 < v3.heap.size := by have := BR.lt; omega
    have nR1 : (w.heap.size = v3.heap.size) = False := eq_false (by have := BR.lt; omega)
    have mR1 : w.heap.size < v3.heap.size := by have := BR.lt; omega
    go_wp2_with fail
    refine bodyPost_ret (v := .agg #[.int .i64 (-1), .float .f64 0, .float .f64 0, .float .f64 0]) (by simp [results, go_sem, kR]) rfl ⟨_, rfl, by rw [HM.out]; rfl, ?_⟩
    repeat (refine Below.setCell ?_ (by dsimp only; omega) _)
    exact HB
  · simp only [outT] at HT HM
    have HI := hid (fun t u z (h : S3 t u z ⟨cutT A B C O D, cutU A B C O D, cutV A B C O D⟩) => @inside_any t u z _ _ h.y h.z)
    have HX := hid (fun t (h : Sm t (cutT A B C O D)) => ge_w h (Sm.refl n))
    have HY := hid (fun t (h : Sm t (cutT A B C O D)) => le_w h (Sm.refl f))
    have HZ := hid (fun t (h : Sm t (cutT A B C O D)) => gt_w h (Sm.refl 0))
    have HH := hid (show hitB n f (cutT A B C O D) (cutU A B C O D) (cutV A B C O D) = (insideB (cutU A B C O D) (cutV A B C O D) && geB (cutT A B C O D) n && leB (cutT A B C O D) f && gtC (cutT A B C O D) 0) from rfl)
    have HW := hid (fun t u z (h : S3 t u z ⟨cutT A B C O D, cutU A B C O D, cutV A B C O D⟩) (k : hitB n f (cutT A B C O D) (cutU A B C O D) (cutV A B C O D) = true) => hit_words k h)
    generalize insideB (cutU A B C O D) (cutV A B C O D) = p at HI HH
    generalize geB (cutT A B C O D) n = q at HX HH
    generalize leB (cutT A B C O D) f = r at HY HH
    generalize gtC (cutT A B C O D) 0 = s at HZ HH
    cases p
    rotate_left
    cases q
    rotate_left
    cases r
    rotate_left
    cases s
    rotate_left
    · go_enter Tryz.func88, Tryz.ntmps88
      go_wp2_with fail
      refine Lp.settle (fun w' => Lp.Bk w' (b) #[.float .f64 O.x, .float .f64 O.y, .float .f64 O.z, .float .f64 D.x, .float .f64 D.y, .float .f64 D.z] 27 ∧ Lp.Bk w' (w.heap.size) #[.float .f64 A.x, .float .f64 A.y, .float .f64 A.z, .float .f64 B.x, .float .f64 B.y, .float .f64 B.z, .float .f64 C.x, .float .f64 C.y, .float .f64 C.z] 60 ∧ Lp.Bk w' (w.heap.size + 1) #[.int .i64 0, .float .f64 0, .float .f64 0, .float .f64 0] 35 ∧ Cl w w') ⟨((BY).alo _).alo _, (Lp.Bk.al _ _ _).alo _, Lp.Bk.al1 _ _ _ _, ((HB).alloc _).alloc _⟩ ?_
      clear BY HB
      rintro v1 ⟨BY, BT, BR, HB⟩
      have kY := BY.cell
      have kT := BT.cell
      have kR := BR.cell
      have zR := BR.frz
      have nY0 : (b = v1.heap.size) = False := eq_false (by have := BY.lt; omega)
      have mY0 : b < v1.heap.size := by have := BY.lt; omega
      have nY1 : (b = v1.heap.size + 1) = False := eq_false (by have := BY.lt; omega)
      have mY1 : b < v1.heap.size + 1 := by have := BY.lt; omega
      have nT0 : (w.heap.size = v1.heap.size) = False := eq_false (by have := BT.lt; omega)
      have mT0 : w.heap.size < v1.heap.size := by have := BT.lt; omega
      have nT1 : (w.heap.size = v1.heap.size + 1) = False := eq_false (by have := BT.lt; omega)
      have mT1 : w.heap.size < v1.heap.size + 1 := by have := BT.lt; omega
      have nR0 : (w.heap.size + 1 = v1.heap.size) = False := eq_false (by have := BR.lt; omega)
      have mR0 : w.heap.size + 1 < v1.heap.size := by have := BR.lt; omega
      have nR1 : (w.heap.size = v1.heap.size) = False := eq_false (by have := BR.lt; omega)
      have mR1 : w.heap.size < v1.heap.size := by have := BR.lt; omega
      apply Lp.wp_region_loose _ _ 11 (by kernel_rfl) (by kernel_rfl) (by kernel_rfl) (Below.refl _ _)
      apply Lp.facts
      · intro w1 hw
        exact And.intro (BY.cl hw).cell (And.intro (BT.cl hw).cell ((BR.cl hw).cell))
      intro HF
      iterate 1 (
        apply Lp.one ?_ rfl
        · intro w hw
          obtain ⟨k0, k1, k2⟩ := HF.out _ hw
          go_simp
          exact rfl
        intro K hK
        go_simp
        refine hK.out _ ?_
        clear hK K)
      apply Lp.any rfl
      · intro w hw
        go_simp
        exact Lp.ret (of_any _ _ _ _ _ _ _ _ _ _)
      intro K hK
      rintro v rfl
      go_simp
      refine hK.out _ ?_
      clear hK K
      iterate 1 (
        apply Lp.one ?_ rfl
        · intro w hw
          obtain ⟨k0, k1, k2⟩ := HF.out _ hw
          go_simp
          exact rfl
        intro K hK
        go_simp
        refine hK.out _ ?_
        clear hK K)
      apply Lp.any rfl
      · intro w hw
        go_simp
        exact Lp.ret (HT.out _)
      intro K hK
      rintro v rfl
      go_simp
      refine hK.out _ ?_
      clear hK K
      iterate 7 (
        apply Lp.one ?_ rfl
        · intro w hw
          obtain ⟨k0, k1, k2⟩ := HF.out _ hw
          go_simp
          exact rfl
        intro K hK
        go_simp
        refine hK.out _ ?_
        clear hK K)
      rotate_left
      exact []
      intro v2 hm
      clear kY kT kR zR nY0 mY0 nY1 mY1 nT0 mT0 nT1 mT1 nR0 mR0 nR1 mR1
      replace BY := BY.keep hm
      replace BT := BT.keep hm
      replace BR := BR.keep hm
      replace HB := HB.call hm
      clear hm
      have kY := BY.cell
      have kT := BT.cell
      have kR := BR.cell
      have zR := BR.frz
      have nY0 : (b = v2.heap.size) = False := eq_false (by have := BY.lt; omega)
      have mY0 : b < v2.heap.size := by have := BY.lt; omega
      have nY1 : (b = v2.heap.size + 1) = False := eq_false (by have := BY.lt; omega)
      have mY1 : b < v2.heap.size + 1 := by have := BY.lt; omega
      have nT0 : (w.heap.size = v2.heap.size) = False := eq_false (by have := BT.lt; omega)
      have mT0 : w.heap.size < v2.heap.size := by have := BT.lt; omega
      have nT1 : (w.heap.size = v2.heap.size + 1) = False := eq_false (by have := BT.lt; omega)
      have mT1 : w.heap.size < v2.heap.size + 1 := by have := BT.lt; omega
      have nR0 : (w.heap.size + 1 = v2.heap.size) = False := eq_false (by have := BR.lt; omega)
      have mR0 : w.heap.size + 1 < v2.heap.size := by have := BR.lt; omega
      have nR1 : (w.heap.size = v2.heap.size) = False := eq_false (by have := BR.lt; omega)
      have mR1 : w.heap.size < v2.heap.size := by have := BR.lt; omega
      go_wp2_with fail
      refine Calls.mono (HC.out _) ?_
      rintro e v3 ⟨v, rfl, ⟨t, u, z, rfl, hs, hw⟩, hm⟩
      clear kY kT kR zR nY0 mY0 nY1 mY1 nT0 mT0 nT1 mT1 nR0 mR0 nR1 mR1
      replace BY := BY.keep hm
      replace BT := BT.keep hm
      replace BR := BR.keep hm
      replace HB := HB.call hm
      clear hm
      have kY := BY.cell
      have kT := BT.cell
      have kR := BR.cell
      have zR := BR.frz
      have nY0 : (b = v3.heap.size) = False := eq_false (by have := BY.lt; omega)
      have mY0 : b < v3.heap.size := by have := BY.lt; omega
      have nY1 : (b = v3.heap.size + 1) = False := eq_false (by have := BY.lt; omega)
      have mY1 : b < v3.heap.size + 1 := by have := BY.lt; omega
      have nT0 : (w.heap.size = v3.heap.size) = False := eq_false (by have := BT.lt; omega)
      have mT0 : w.heap.size < v3.heap.size := by have := BT.lt; omega
      have nT1 : (w.heap.size = v3.heap.size + 1) = False := eq_false (by have := BT.lt; omega)
      have mT1 : w.heap.size < v3.heap.size + 1 := by have := BT.lt; omega
      have nR0 : (w.heap.size + 1 = v3.heap.size) = False := eq_false (by have := BR.lt; omega)
      have mR0 : w.heap.size + 1 < v3.heap.size := by have := BR.lt; omega
      have nR1 : (w.heap.size = v3.heap.size) = False := eq_false (by have := BR.lt; omega)
      have mR1 : w.heap.size < v3.heap.size := by have := BR.lt; omega
      go_wp2_with fail
      refine Lp.settleC (fun w' => Lp.Bk w' (b) #[.float .f64 O.x, .float .f64 O.y, .float .f64 O.z, .float .f64 D.x, .float .f64 D.y, .float .f64 D.z] 27 ∧ Lp.Bk w' (w.heap.size) #[.float .f64 A.x, .float .f64 A.y, .float .f64 A.z, .float .f64 B.x, .float .f64 B.y, .float .f64 B.z, .float .f64 C.x, .float .f64 C.y, .float .f64 C.z] 60 ∧ Lp.Bk w' (w.heap.size + 1) #[.int .i64 0, .float .f64 0, .float .f64 0, .float .f64 0] 35 ∧ Lp.Bk w' (v3.heap.size) #[.int .i64 0, .float .f64 t, .float .f64 u, .float .f64 z] 35 ∧ Cl w w') ⟨(BY).alo _, (BT).alo _, (BR).alo _, Lp.Bk.al _ _ _, (HB).alloc _⟩ ?_
      clear kY kT kR zR nY0 mY0 nY1 mY1 nT0 mT0 nT1 mT1 nR0 mR0 nR1 mR1
      clear BY BT BR HB
      rintro v4 ⟨BY, BT, BR, BH, HB⟩
      have kY := BY.cell
      have kT := BT.cell
      have kR := BR.cell
      have kH := BH.cell
      have zR := BR.frz
      have nY0 : (b = v4.heap.size) = False := eq_false (by have := BY.lt; omega)
      have mY0 : b < v4.heap.size := by have := BY.lt; omega
      have nY1 : (b = v4.heap.size + 1) = False := eq_false (by have := BY.lt; omega)
      have mY1 : b < v4.heap.size + 1 := by have := BY.lt; omega
      have nT0 : (w.heap.size = v4.heap.size) = False := eq_false (by have := BT.lt; omega)
      have mT0 : w.heap.size < v4.heap.size := by have := BT.lt; omega
      have nT1 : (w.heap.size = v4.heap.size + 1) = False := eq_false (by have := BT.lt; omega)
      have mT1 : w.heap.size < v4.heap.size + 1 := by have := BT.lt; omega
      have nR0 : (w.heap.size + 1 = v4.heap.size) = False := eq_false (by have := BR.lt; omega)
      have mR0 : w.heap.size + 1 < v4.heap.size := by have := BR.lt; omega
      have nR1 : (w.heap.size = v4.heap.size) = False := eq_false (by have := BR.lt; omega)
      have mR1 : w.heap.size < v4.heap.size := by have := BR.lt; omega
      have nH0 : (v3.heap.size = v4.heap.size) = False := eq_false (by have := BH.lt; omega)
      have mH0 : v3.heap.size < v4.heap.size := by have := BH.lt; omega
      have nH1 : (v3.heap.size = v4.heap.size + 1) = False := eq_false (by have := BH.lt; omega)
      have mH1 : v3.heap.size < v4.heap.size + 1 := by have := BH.lt; omega
      have hx := HX.out t hs.x
      have hy := HY.out t hs.x
      have hz := HZ.out t hs.x
      refine Calls.mono (HI.out t u z hs _) ?_
      rintro e v5 ⟨v, rfl, rfl, hm⟩
      clear kY kT kR kH zR nY0 mY0 nY1 mY1 nT0 mT0 nT1 mT1 nR0 mR0 nR1 mR1 nH0 mH0 nH1 mH1
      replace BY := BY.keep hm
      replace BT := BT.keep hm
      replace BR := BR.keep hm
      replace BH := BH.keep hm
      replace HB := HB.call hm
      clear hm
      have kY := BY.cell
      have kT := BT.cell
      have kR := BR.cell
      have kH := BH.cell
      have zR := BR.frz
      have nY0 : (b = v5.heap.size) = False := eq_false (by have := BY.lt; omega)
      have mY0 : b < v5.heap.size := by have := BY.lt; omega
      have nY1 : (b = v5.heap.size + 1) = False := eq_false (by have := BY.lt; omega)
      have mY1 : b < v5.heap.size + 1 := by have := BY.lt; omega
      have nT0 : (w.heap.size = v5.heap.size) = False := eq_false (by have := BT.lt; omega)
      have mT0 : w.heap.size < v5.heap.size := by have := BT.lt; omega
      have nT1 : (w.heap.size = v5.heap.size + 1) = False := eq_false (by have := BT.lt; omega)
      have mT1 : w.heap.size < v5.heap.size + 1 := by have := BT.lt; omega
      have nR0 : (w.heap.size + 1 = v5.heap.size) = False := eq_false (by have := BR.lt; omega)
      have mR0 : w.heap.size + 1 < v5.heap.size := by have := BR.lt; omega
      have nR1 : (w.heap.size = v5.heap.size) = False := eq_false (by have := BR.lt; omega)
      have mR1 : w.heap.size < v5.heap.size := by have := BR.lt; omega
      have nH0 : (v3.heap.size = v5.heap.size) = False := eq_false (by have := BH.lt; omega)
      have mH0 : v3.heap.size < v5.heap.size := by have := BH.lt; omega
      have nH1 : (v3.heap.size = v5.heap.size + 1) = False := eq_false (by have := BH.lt; omega)
      have mH1 : v3.heap.size < v5.heap.size + 1 := by have := BH.lt; omega
      go_wp2_with fail
      obtain ⟨e1, e2, e3⟩ := HW.out t u z hs HH.out
      refine bodyPost_ret (v := .agg #[.int .i64 0, .float .f64 t, .float .f64 u, .float .f64 z]) (by simp [results, go_sem, kR]) rfl ⟨_, rfl, by rw [HM.out, HH.out, e1, e2, e3]; rfl, ?_⟩
      repeat (refine Below.setCell ?_ (by dsimp only; omega) _)
      exact HB
    all_goals
      go_enter Tryz.func88, Tryz.ntmps88
      go_wp2_with fail
      refine Lp.settle (fun w' => Lp.Bk w' (b) #[.float .f64 O.x, .float .f64 O.y, .float .f64 O.z, .float .f64 D.x, .float .f64 D.y, .float .f64 D.z] 27 ∧ Lp.Bk w' (w.heap.size) #[.float .f64 A.x, .float .f64 A.y, .float .f64 A.z, .float .f64 B.x, .float .f64 B.y, .float .f64 B.z, .float .f64 C.x, .float .f64 C.y, .float .f64 C.z] 60 ∧ Lp.Bk w' (w.heap.size + 1) #[.int .i64 0, .float .f64 0, .float .f64 0, .float .f64 0] 35 ∧ Cl w w') ⟨((BY).alo _).alo _, (Lp.Bk.al _ _ _).alo _, Lp.Bk.al1 _ _ _ _, ((HB).alloc _).alloc _⟩ ?_
      clear BY HB
      rintro v1 ⟨BY, BT, BR, HB⟩
      have kY := BY.cell
      have kT := BT.cell
      have kR := BR.cell
      have zR := BR.frz
      have nY0 : (b = v1.heap.size) = False := eq_false (by have := BY.lt; omega)
      have mY0 : b < v1.heap.size := by have := BY.lt; omega
      have nY1 : (b = v1.heap.size + 1) = False := eq_false (by have := BY.lt; omega)
      have mY1 : b < v1.heap.size + 1 := by have := BY.lt; omega
      have nT0 : (w.heap.size = v1.heap.size) = False := eq_false (by have := BT.lt; omega)
      have mT0 : w.heap.size < v1.heap.size := by have := BT.lt; omega
      have nT1 : (w.heap.size = v1.heap.size + 1) = False := eq_false (by have := BT.lt; omega)
      have mT1 : w.heap.size < v1.heap.size + 1 := by have := BT.lt; omega
      have nR0 : (w.heap.size + 1 = v1.heap.size) = False := eq_false (by have := BR.lt; omega)
      have mR0 : w.heap.size + 1 < v1.heap.size := by have := BR.lt; omega
      have nR1 : (w.heap.size = v1.heap.size) = False := eq_false (by have := BR.lt; omega)
      have mR1 : w.heap.size < v1.heap.size := by have := BR.lt; omega
      apply Lp.wp_region_loose _ _ 11 (by kernel_rfl) (by kernel_rfl) (by kernel_rfl) (Below.refl _ _)
      apply Lp.facts
      · intro w1 hw
        exact And.intro (BY.cl hw).cell (And.intro (BT.cl hw).cell ((BR.cl hw).cell))
      intro HF
      iterate 1 (
        apply Lp.one ?_ rfl
        · intro w hw
          obtain ⟨k0, k1, k2⟩ := HF.out _ hw
          go_simp
          exact rfl
        intro K hK
        go_simp
        refine hK.out _ ?_
        clear hK K)
      apply Lp.any rfl
      · intro w hw
        go_simp
        exact Lp.ret (of_any _ _ _ _ _ _ _ _ _ _)
      intro K hK
      rintro v rfl
      go_simp
      refine hK.out _ ?_
      clear hK K
      iterate 1 (
        apply Lp.one ?_ rfl
        · intro w hw
          obtain ⟨k0, k1, k2⟩ := HF.out _ hw
          go_simp
          exact rfl
        intro K hK
        go_simp
        refine hK.out _ ?_
        clear hK K)
      apply Lp.any rfl
      · intro w hw
        go_simp
        exact Lp.ret (HT.out _)
      intro K hK
      rintro v rfl
      go_simp
      refine hK.out _ ?_
      clear hK K
      iterate 7 (
        apply Lp.one ?_ rfl
        · intro w hw
          obtain ⟨k0, k1, k2⟩ := HF.out _ hw
          go_simp
          exact rfl
        intro K hK
        go_simp
        refine hK.out _ ?_
        clear hK K)
      rotate_left
      exact []
      intro v2 hm
      clear kY kT kR zR nY0 mY0 nY1 mY1 nT0 mT0 nT1 mT1 nR0 mR0 nR1 mR1
      replace BY := BY.keep hm
      replace BT := BT.keep hm
      replace BR := BR.keep hm
      replace HB := HB.call hm
      clear hm
      have kY := BY.cell
      have kT := BT.cell
      have kR := BR.cell
      have zR := BR.frz
      have nY0 : (b = v2.heap.size) = False := eq_false (by have := BY.lt; omega)
      have mY0 : b < v2.heap.size := by have := BY.lt; omega
      have nY1 : (b = v2.heap.size + 1) = False := eq_false (by have := BY.lt; omega)
      have mY1 : b < v2.heap.size + 1 := by have := BY.lt; omega
      have nT0 : (w.heap.size = v2.heap.size) = False := eq_false (by have := BT.lt; omega)
      have mT0 : w.heap.size < v2.heap.size := by have := BT.lt; omega
      have nT1 : (w.heap.size = v2.heap.size + 1) = False := eq_false (by have := BT.lt; omega)
      have mT1 : w.heap.size < v2.heap.size + 1 := by have := BT.lt; omega
      have nR0 : (w.heap.size + 1 = v2.heap.size) = False := eq_false (by have := BR.lt; omega)
      have mR0 : w.heap.size + 1 < v2.heap.size := by have := BR.lt; omega
      have nR1 : (w.heap.size = v2.heap.size) = False := eq_false (by have := BR.lt; omega)
      have mR1 : w.heap.size < v2.heap.size := by have := BR.lt; omega
      go_wp2_with fail
      refine Calls.mono (HC.out _) ?_
      rintro e v3 ⟨v, rfl, ⟨t, u, z, rfl, hs, hw⟩, hm⟩
      clear kY kT kR zR nY0 mY0 nY1 mY1 nT0 mT0 nT1 mT1 nR0 mR0 nR1 mR1
      replace BY := BY.keep hm
      replace BT := BT.keep hm
      replace BR := BR.keep hm
      replace HB := HB.call hm
      clear hm
      have kY := BY.cell
      have kT := BT.cell
      have kR := BR.cell
      have zR := BR.frz
      have nY0 : (b = v3.heap.size) = False := eq_false (by have := BY.lt; omega)
      have mY0 : b < v3.heap.size := by have := BY.lt; omega
      have nY1 : (b = v3.heap.size + 1) = False := eq_false (by have := BY.lt; omega)
      have mY1 : b < v3.heap.size + 1 := by have := BY.lt; omega
      have nT0 : (w.heap.size = v3.heap.size) = False := eq_false (by have := BT.lt; omega)
      have mT0 : w.heap.size < v3.heap.size := by have := BT.lt; omega
      have nT1 : (w.heap.size = v3.heap.size + 1) = False := eq_false (by have := BT.lt; omega)
      have mT1 : w.heap.size < v3.heap.size + 1 := by have := BT.lt; omega
      have nR0 : (w.heap.size + 1 = v3.heap.size) = False := eq_false (by have := BR.lt; omega)
      have mR0 : w.heap.size + 1 < v3.heap.size := by have := BR.lt; omega
      have nR1 : (w.heap.size = v3.heap.size) = False := eq_false (by have := BR.lt; omega)
      have mR1 : w.heap.size < v3.heap.size := by have := BR.lt; omega
      go_wp2_with fail
      refine Lp.settleC (fun w' => Lp.Bk w' (b) #[.float .f64 O.x, .float .f64 O.y, .float .f64 O.z, .float .f64 D.x, .float .f64 D.y, .float .f64 D.z] 27 ∧ Lp.Bk w' (w.heap.size) #[.float .f64 A.x, .float .f64 A.y, .float .f64 A.z, .float .f64 B.x, .float .f64 B.y, .float .f64 B.z, .float .f64 C.x, .float .f64 C.y, .float .f64 C.z] 60 ∧ Lp.Bk w' (w.heap.size + 1) #[.int .i64 0, .float .f64 0, .float .f64 0, .float .f64 0] 35 ∧ Lp.Bk w' (v3.heap.size) #[.int .i64 0, .float .f64 t, .float .f64 u, .float .f64 z] 35 ∧ Cl w w') ⟨(BY).alo _, (BT).alo _, (BR).alo _, Lp.Bk.al _ _ _, (HB).alloc _⟩ ?_
      clear kY kT kR zR nY0 mY0 nY1 mY1 nT0 mT0 nT1 mT1 nR0 mR0 nR1 mR1
      clear BY BT BR HB
      rintro v4 ⟨BY, BT, BR, BH, HB⟩
      have kY := BY.cell
      have kT := BT.cell
      have kR := BR.cell
      have kH := BH.cell
      have zR := BR.frz
      have nY0 : (b = v4.heap.size) = False := eq_false (by have := BY.lt; omega)
      have mY0 : b < v4.heap.size := by have := BY.lt; omega
      have nY1 : (b = v4.heap.size + 1) = False := eq_false (by have := BY.lt; omega)
      have mY1 : b < v4.heap.size + 1 := by have := BY.lt; omega
      have nT0 : (w.heap.size = v4.heap.size) = False := eq_false (by have := BT.lt; omega)
      have mT0 : w.heap.size < v4.heap.size := by have := BT.lt; omega
      have nT1 : (w.heap.size = v4.heap.size + 1) = False := eq_false (by have := BT.lt; omega)
      have mT1 : w.heap.size < v4.heap.size + 1 := by have := BT.lt; omega
      have nR0 : (w.heap.size + 1 = v4.heap.size) = False := eq_false (by have := BR.lt; omega)
      have mR0 : w.heap.size + 1 < v4.heap.size := by have := BR.lt; omega
      have nR1 : (w.heap.size = v4.heap.size) = False := eq_false (by have := BR.lt; omega)
      have mR1 : w.heap.size < v4.heap.size := by have := BR.lt; omega
      have nH0 : (v3.heap.size = v4.heap.size) = False := eq_false (by have := BH.lt; omega)
      have mH0 : v3.heap.size < v4.heap.size := by have := BH.lt; omega
      have nH1 : (v3.heap.size = v4.heap.size + 1) = False := eq_false (by have := BH.lt; omega)
      have mH1 : v3.heap.size < v4.heap.size + 1 := by have := BH.lt; omega
      have hx := HX.out t hs.x
      have hy := HY.out t hs.x
      have hz := HZ.out t hs.x
      refine Calls.mono (HI.out t u z hs _) ?_
      rintro e v5 ⟨v, rfl, rfl, hm⟩
      clear kY kT kR kH zR nY0 mY0 nY1 mY1 nT0 mT0 nT1 mT1 nR0 mR0 nR1 mR1 nH0 mH0 nH1 mH1
      replace BY := BY.keep hm
      replace BT := BT.keep hm
      replace BR := BR.keep hm
      replace BH := BH.keep hm
      replace HB := HB.call hm
      clear hm
      have kY := BY.cell
      have kT := BT.cell
      have kR := BR.cell
      have kH := BH.cell
      have zR := BR.frz
      have nY0 : (b = v5.heap.size) = False := eq_false (by have := BY.lt; omega)
      have mY0 : b < v5.heap.size := by have := BY.lt; omega
      have nY1 : (b = v5.heap.size + 1) = False := eq_false (by have := BY.lt; omega)
      have mY1 : b < v5.heap.size + 1 := by have := BY.lt; omega
      have nT0 : (w.heap.size = v5.heap.size) = False := eq_false (by have := BT.lt; omega)
      have mT0 : w.heap.size < v5.heap.size := by have := BT.lt; omega
      have nT1 : (w.heap.size = v5.heap.size + 1) = False := eq_false (by have := BT.lt; omega)
      have mT1 : w.heap.size < v5.heap.size + 1 := by have := BT.lt; omega
      have nR0 : (w.heap.size + 1 = v5.heap.size) = False := eq_false (by have := BR.lt; omega)
      have mR0 : w.heap.size + 1 < v5.heap.size := by have := BR.lt; omega
      have nR1 : (w.heap.size = v5.heap.size) = False := eq_false (by have := BR.lt; omega)
      have mR1 : w.heap.size < v5.heap.size := by have := BR.lt; omega
      have nH0 : (v3.heap.size = v5.heap.size) = False := eq_false (by have := BH.lt; omega)
      have mH0 : v3.heap.size < v5.heap.size := by have := BH.lt; omega
      have nH1 : (v3.heap.size = v5.heap.size + 1) = False := eq_false (by have := BH.lt; omega)
      have mH1 : v3.heap.size < v5.heap.size + 1 := by have := BH.lt; omega
      go_wp2_with fail
      refine Calls.mono (miss_any _) ?_
      rintro e v6 ⟨v, rfl, rfl, hm⟩
      clear kY kT kR kH zR nY0 mY0 nY1 mY1 nT0 mT0 nT1 mT1 nR0 mR0 nR1 mR1 nH0 mH0 nH1 mH1
      replace BY := BY.keep hm
      replace BT := BT.keep hm
      replace BR := BR.keep hm
      replace BH := BH.keep hm
      replace HB := HB.call hm
      clear hm
      have kY := BY.cell
      have kT := BT.cell
      have kR := BR.cell
      have kH := BH.cell
      have zR := BR.frz
      have nY0 : (b = v6.heap.size) = False := eq_false (by have := BY.lt; omega)
      have mY0 : b < v6.heap.size := by have := BY.lt; omega
      have nY1 : (b = v6.heap.size + 1) = False := eq_false (by have := BY.lt; omega)
      have mY1 : b < v6.heap.size + 1 := by have := BY.lt; omega
      have nT0 : (w.heap.size = v6.heap.size) = False := eq_false (by have := BT.lt; omega)
      have mT0 : w.heap.size < v6.heap.size := by have := BT.lt; omega
      have nT1 : (w.heap.size = v6.heap.size + 1) = False := eq_false (by have := BT.lt; omega)
      have mT1 : w.heap.size < v6.heap.size + 1 := by have := BT.lt; omega
      have nR0 : (w.heap.size + 1 = v6.heap.size) = False := eq_false (by have := BR.lt; omega)
      have mR0 : w.heap.size + 1 < v6.heap.size := by have := BR.lt; omega
      have nR1 : (w.heap.size = v6.heap.size) = False := eq_false (by have := BR.lt; omega)
      have mR1 : w.heap.size < v6.heap.size := by have := BR.lt; omega
      have nH0 : (v3.heap.size = v6.heap.size) = False := eq_false (by have := BH.lt; omega)
      have mH0 : v3.heap.size < v6.heap.size := by have := BH.lt; omega
      have nH1 : (v3.heap.size = v6.heap.size + 1) = False := eq_false (by have := BH.lt; omega)
      have mH1 : v3.heap.size < v6.heap.size + 1 := by have := BH.lt; omega
      go_wp2_with fail
      refine bodyPost_ret (v := .agg #[.int .i64 (-1), .float .f64 0, .float .f64 0, .float .f64 0]) (by simp [results, go_sem, kR]) rfl ⟨_, rfl, by rw [HM.out, HH.out]; rfl, ?_⟩
      repeat (refine Below.setCell ?_ (by dsimp only; omega) _)
      exact HB

end Go.Proofs.YtiblmojdjnfoaaaGreat

namespace Go.Proofs.YtiblmojdjnfoaaaGreat
open Go.RowKit Fl

/-- A determinant by which one may divide. -/
def okd (d : Nat) : Bool := ford d 0 == some .lt || ford d 0 == some .gt
theorem read_nought : F64.read 0 = .number false 0 (-1074) := by decide +kernel
theorem read_one : F64.read 4607182418800017408 = .number false 4503599627370496 (-52) := by decide +kernel
theorem okd_off {d : Nat} (h : okd d = false) : isN d = true ∨ ∃ s e, F64.read d = .number s 0 e := by
  unfold okd ford Ieee.Format.order at h
  rw [read_nought] at h
  cases hr : F64.read d with
  | nan s f => exact .inl (by unfold isN; rw [hr]; rfl)
  | infinity s => rw [hr] at h; cases s <;> cases h
  | number s m e =>
    refine .inr ⟨s, e, ?_⟩
    rw [hr] at h
    by_cases hm : m = 0
    · rw [hm]
    · exfalso
      have hn : Num d := ⟨s, m, e, hr⟩
      have hs := num_sign hr hm
      have h2 : okd d = false := by unfold okd ford Ieee.Format.order; rw [read_nought, hr]; exact h
      unfold okd at h2
      rw [Bool.or_eq_false_iff] at h2
      have a := lt_val hn num_zero
      have b := gt_val hn num_zero
      rw [val_zero] at a b
      have a2 := h2.1
      have b2 := h2.2
      rw [a] at a2
      rw [b] at b2
      have a3 := of_decide_eq_false a2
      have b3 := of_decide_eq_false b2
      cases s
      · have : 0 < val d := by simpa using hs
        exact b3 (by grind)
      · have : val d < 0 := by simpa using hs
        exact a3 (by grind)
theorem inv_zero {d : Nat} {s : Bool} {e : Int} (h : F64.read d = .number s 0 e) : ∃ t, F64.read (fdiv 4607182418800017408 d) = .infinity t := by
  refine ⟨(false ^^ s), ?_⟩
  unfold fdiv Ieee.Format.div
  rw [read_one, h]
  simp only [Ieee.Datum.quotient, if_true, if_neg (show ¬ (4503599627370496 : Nat) = 0 by decide), Option.map_some, Option.getD_some]
  exact write_inf _
theorem mul_inf_any {x i : Nat} {s : Bool} (h : F64.read i = .infinity s) : isN (fmul x i) = true ∨ ∃ t, F64.read (fmul x i) = .infinity t := by
  cases hr : F64.read x with
  | nan t f => exact .inl (by unfold fmul; rw [mul_nan_left (by unfold isN; rw [hr]; rfl)]; exact isN_qnan)
  | infinity t => exact .inr ⟨_, mul_inf_inf hr h⟩
  | number t m e =>
    by_cases hm : m = 0
    · subst hm; exact .inl (mul_zero_inf hr h)
    · exact .inr ⟨_, mul_num_inf hr h hm⟩
theorem ge_nan {x : Nat} (h : isN x = true) : geB x 0 = false := by unfold geB; rw [ord_nan_left h]; rfl
theorem ge_inf {x : Nat} {t : Bool} (h : F64.read x = .infinity t) (k : geB x 0 = true) : F64.read x = .infinity false := by
  cases t
  · exact h
  · unfold geB ford Ieee.Format.order at k
    rw [h, read_nought] at k
    cases k
theorem le_inf {x : Nat} (h : F64.read x = .infinity false) : leB x 4607182418800017408 = false := by
  unfold leB ford Ieee.Format.order
  rw [h, read_one]
  rfl
theorem inside_det {a b d : Nat} (h : okd d = false) : insideB (fmul a (fdiv 4607182418800017408 d)) (fmul b (fdiv 4607182418800017408 d)) = false := by
  unfold insideB
  cases hu : geB (fmul a (fdiv 4607182418800017408 d)) 0
  · rfl
  cases hv : geB (fmul b (fdiv 4607182418800017408 d)) 0
  · rfl
  rcases okd_off h with hn | ⟨s, e, hr⟩
  · have : isN (fdiv 4607182418800017408 d) = true := by unfold fdiv; rw [div_nan_right hn]; exact isN_qnan
    have k : isN (fmul a (fdiv 4607182418800017408 d)) = true := by
      show isN ((F64.mul _ _).getD qnan) = true
      rw [mul_nan_right this]; exact isN_qnan
    rw [ge_nan k] at hu
    cases hu
  · obtain ⟨t, hi⟩ := inv_zero hr
    rcases mul_inf_any (x := a) hi with k | ⟨t1, k⟩
    · rw [ge_nan k] at hu; cases hu
    rcases mul_inf_any (x := b) hi with k2 | ⟨t2, k2⟩
    · rw [ge_nan k2] at hv; cases hv
    rw [le_inf (add_inf_left (ge_inf k hu) (.inr (ge_inf k2 hv)))]
    rfl
theorem inside_one {U V : Nat} (h : insideB U V = true) : leB U 4607182418800017408 = true := by
  unfold insideB at h
  simp only [Bool.and_eq_true] at h
  obtain ⟨⟨hu, hv⟩, hs⟩ := h
  have nu : Nn U := nn_of_le (by rw [← geB_eq]; exact hu)
  have nv : Nn V := nn_of_le (by rw [← geB_eq]; exact hv)
  rcases nu with ⟨nu, u0⟩ | iu
  · rcases nv with ⟨nv, v0⟩ | iv
    · exact leB_trans (le_add nu nv v0) hs
    · rw [le_inf (add_inf_right iv (.inl ⟨nu, u0⟩))] at hs; cases hs
  · rw [le_inf (add_inf_left iu nv)] at hs; cases hs
end Go.Proofs.YtiblmojdjnfoaaaGreat

namespace Go.Proofs.YtiblmojdjnfoaaaGreat
open Go.RowKit Fl

set_option maxRecDepth 100000 in
set_option maxHeartbeats 1000000 in
theorem rjoin_any (a0 a1 a2 a3 a4 a5 b0 b1 b2 b3 b4 b5 : Nat) (w : World) : Ret Tryz.prog 69 #[.agg #[.float .f64 a0, .float .f64 a1, .float .f64 a2, .float .f64 a3, .float .f64 a4, .float .f64 a5], .agg #[.float .f64 b0, .float .f64 b1, .float .f64 b2, .float .f64 b3, .float .f64 b4, .float .f64 b5]] w (fun v => v = .agg #[.float .f64 (lowF a0 b0), .float .f64 (lowF a1 b1), .float .f64 (lowF a2 b2), .float .f64 (highF a3 b3), .float .f64 (highF a4 b4), .float .f64 (highF a5 b5)]) := by
  unfold Ret
  go_enter Tryz.func69, Tryz.ntmps69
  go_wp2_with fail
  apply Lp.wp_region_loose _ _ 45 (by kernel_rfl) (by kernel_rfl) (by kernel_rfl) (Below.refl _ _)
  apply Lp.facts
  · intro w1 hw
    exact And.intro (Lp.c3 hw (w.heap.size) 0 1 2 (by go_simp; exact rfl) (by go_simp; exact rfl) (by go_simp; exact rfl) (by go_simp; done)) (And.intro (Lp.c3 hw (w.heap.size) 3 4 5 (by go_simp; exact rfl) (by go_simp; exact rfl) (by go_simp; exact rfl) (by go_simp; done)) (And.intro (Lp.c3 hw (w.heap.size + 1) 0 1 2 (by go_simp; exact rfl) (by go_simp; exact rfl) (by go_simp; exact rfl) (by go_simp; done)) ((Lp.c3 hw (w.heap.size + 1) 3 4 5 (by go_simp; exact rfl) (by go_simp; exact rfl) (by go_simp; exact rfl) (by go_simp; done)))))
  intro HF
  iterate 6 (
    apply Lp.one ?_ rfl
    · intro w hw
      obtain ⟨⟨c0, c1, c2⟩, ⟨⟨c3, c4, c5⟩, ⟨⟨c6, c7, c8⟩, ⟨c9, c10, c11⟩⟩⟩⟩ := HF.out _ hw
      go_simp
      exact rfl
    intro K hK
    go_simp
    refine hK.out _ ?_
    clear hK K)
  apply Lp.any rfl
  · intro w hw
    go_simp
    exact Lp.ret (Ret.of_same (rlow_any _ _ _))
  intro K hK
  rintro v rfl
  go_simp
  refine hK.out _ ?_
  clear hK K
  iterate 6 (
    apply Lp.one ?_ rfl
    · intro w hw
      obtain ⟨⟨c0, c1, c2⟩, ⟨⟨c3, c4, c5⟩, ⟨⟨c6, c7, c8⟩, ⟨c9, c10, c11⟩⟩⟩⟩ := HF.out _ hw
      go_simp
      exact rfl
    intro K hK
    go_simp
    refine hK.out _ ?_
    clear hK K)
  apply Lp.any rfl
  · intro w hw
    go_simp
    exact Lp.ret (Ret.of_same (rlow_any _ _ _))
  intro K hK
  rintro v rfl
  go_simp
  refine hK.out _ ?_
  clear hK K
  iterate 6 (
    apply Lp.one ?_ rfl
    · intro w hw
      obtain ⟨⟨c0, c1, c2⟩, ⟨⟨c3, c4, c5⟩, ⟨⟨c6, c7, c8⟩, ⟨c9, c10, c11⟩⟩⟩⟩ := HF.out _ hw
      go_simp
      exact rfl
    intro K hK
    go_simp
    refine hK.out _ ?_
    clear hK K)
  apply Lp.any rfl
  · intro w hw
    go_simp
    exact Lp.ret (Ret.of_same (rlow_any _ _ _))
  intro K hK
  rintro v rfl
  go_simp
  refine hK.out _ ?_
  clear hK K
  iterate 7 (
    apply Lp.one ?_ rfl
    · intro w hw
      obtain ⟨⟨c0, c1, c2⟩, ⟨⟨c3, c4, c5⟩, ⟨⟨c6, c7, c8⟩, ⟨c9, c10, c11⟩⟩⟩⟩ := HF.out _ hw
      go_simp
      exact rfl
    intro K hK
    go_simp
    refine hK.out _ ?_
    clear hK K)
  apply Lp.any rfl
  · intro w hw
    go_simp
    exact Lp.ret (Ret.of_same (rhigh_any _ _ _))
  intro K hK
  rintro v rfl
  go_simp
  refine hK.out _ ?_
  clear hK K
  iterate 6 (
    apply Lp.one ?_ rfl
    · intro w hw
      obtain ⟨⟨c0, c1, c2⟩, ⟨⟨c3, c4, c5⟩, ⟨⟨c6, c7, c8⟩, ⟨c9, c10, c11⟩⟩⟩⟩ := HF.out _ hw
      go_simp
      exact rfl
    intro K hK
    go_simp
    refine hK.out _ ?_
    clear hK K)
  apply Lp.any rfl
  · intro w hw
    go_simp
    exact Lp.ret (Ret.of_same (rhigh_any _ _ _))
  intro K hK
  rintro v rfl
  go_simp
  refine hK.out _ ?_
  clear hK K
  iterate 6 (
    apply Lp.one ?_ rfl
    · intro w hw
      obtain ⟨⟨c0, c1, c2⟩, ⟨⟨c3, c4, c5⟩, ⟨⟨c6, c7, c8⟩, ⟨c9, c10, c11⟩⟩⟩⟩ := HF.out _ hw
      go_simp
      exact rfl
    intro K hK
    go_simp
    refine hK.out _ ?_
    clear hK K)
  apply Lp.any rfl
  · intro w hw
    go_simp
    exact Lp.ret (Ret.of_same (rhigh_any _ _ _))
  intro K hK
  rintro v rfl
  go_simp
  refine hK.out _ ?_
  clear hK K
  iterate 2 (
    apply Lp.one ?_ rfl
    · intro w hw
      obtain ⟨⟨c0, c1, c2⟩, ⟨⟨c3, c4, c5⟩, ⟨⟨c6, c7, c8⟩, ⟨c9, c10, c11⟩⟩⟩⟩ := HF.out _ hw
      go_simp
      exact rfl
    intro K hK
    go_simp
    refine hK.out _ ?_
    clear hK K)
  rotate_left
  exact []
  intro w' hw'
  have HW : Hid _ := hw'
  obtain ⟨hc, hf⟩ := Lp.bcell hw'
  clear hw'
  go_wp2_with fail
  refine bodyPost_ret (v := .agg #[.float .f64 (lowF a0 b0), .float .f64 (lowF a1 b1), .float .f64 (lowF a2 b2), .float .f64 (highF a3 b3), .float .f64 (highF a4 b4), .float .f64 (highF a5 b5)]) (by simp [results, go_sem, hc]) rfl ⟨_, rfl, rfl, ?_⟩
  repeat (refine Below.setCell ?_ (by simp <;> omega) _)
  exact Cl.out3 HW.out

end Go.Proofs.YtiblmojdjnfoaaaGreat
