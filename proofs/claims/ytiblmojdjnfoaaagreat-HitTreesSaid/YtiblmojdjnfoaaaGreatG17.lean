/- Package bvh: together, cost. Package bvh: binner: the function that tells a number's bin. Package bvh: binned: all that a list names is laid into bins. Package bvh: cheapest. -/
import Derived.Deep.LoopGhost
import Derived.Deep.WholeRow
import Derived.Test.YtiblmojdjnfoaaaGreatG16
import Derived.Test.YtiblmojdjnfoaaaGreatG8
import Derived.Test.YtiblmojdjnfoaaaGreatG7
import Derived.Test.YtiblmojdjnfoaaaGreatG10
import Derived.Test.YtiblmojdjnfoaaaGreatG4
import Derived.Test.YtiblmojdjnfoaaaGreatG9
namespace Go.Proofs.YtiblmojdjnfoaaaGreat
open Go.RowKit Fl Lm

def gat (F : Nat → Nat × Bx) (n : Nat) : Nat × Bx := gather ((List.range n).map F)
theorem gat_more (F : Nat → Nat × Bx) (n : Nat) : gat F (n + 1) = ((gat F n).1 + (F n).1, (gat F n).2.join (F n).2) := by
  unfold gat gather
  rw [List.range_succ, List.map_append, List.foldl_append]
  rfl

set_option maxRecDepth 100000 in
set_option maxHeartbeats 1000000 in
theorem together_any (F : Nat → Nat × Bx) (n c : Nat) (ao : Option Addr) (w : World) (h : Sl w ao n 7 fun i => ncs (F i)) (hn : n ≤ 8) (hF : ∀ i, i < n → (F i).1 ≤ 512) :
    Ret Tryz.prog 116 #[.slice ao n c] w (fun v => v = nxv (gat F n)) := by
  unfold Ret
  have HX := hid h
  have HF := aside hF
  clear h hF
  go_enter Tryz.func116, Tryz.ntmps116
  go_wp2_with fail
  refine Lp.settleC (fun w' => Lp.Bk w' (w.heap.size) #[.int .i64 0, .float .f64 0, .float .f64 0, .float .f64 0, .float .f64 0, .float .f64 0, .float .f64 0] 137 ∧ Cl w w') ⟨Lp.Bk.al _ _ _, (Below.refl _ _).alloc (by simp <;> omega) _⟩ ?_
  rintro v1 ⟨BR, HB⟩
  have kR := BR.cell
  have nR0 : (w.heap.size = v1.heap.size) = False := eq_false (by have := BR.lt; omega)
  have mR0 : w.heap.size < v1.heap.size := by have := BR.lt; omega
  have nR1 : (w.heap.size = v1.heap.size + 1) = False := eq_false (by have := BR.lt; omega)
  have mR1 : w.heap.size < v1.heap.size + 1 := by have := BR.lt; omega
  refine Calls.mono (empty_any _) ?_
  rintro e v2 ⟨v, rfl, rfl, hm⟩
  clear kR nR0 mR0 nR1 mR1
  replace BR := BR.keep hm
  replace HB := HB.call hm
  clear hm
  have kR := BR.cell
  have nR0 : (w.heap.size = v2.heap.size) = False := eq_false (by have := BR.lt; omega)
  have mR0 : w.heap.size < v2.heap.size := by have := BR.lt; omega
  have nR1 : (w.heap.size = v2.heap.size + 1) = False := eq_false (by have := BR.lt; omega)
  have mR1 : w.heap.size < v2.heap.size + 1 := by have := BR.lt; omega
  go_wp2_with fail
  clear kR nR0 mR0 nR1 mR1
  have HVS := aside BR.lt
  go_loopg [10] n (fun k i wr => ∃ (j : Nat) (a : Nat × Bx), k + j = n ∧ i = .int .i64 (j : Int) ∧ a = gat F j ∧ a.1 ≤ 512 * j ∧ Lp.Bk wr (w.heap.size) #[.int .i64 0, .float .f64 0, .float .f64 0, .float .f64 0, .float .f64 0, .float .f64 0, .float .f64 0] 137 ∧ Lp.Bk wr (v2.heap.size) #[.int .i64 (a.1 : Int), .float .f64 a.2.a0, .float .f64 a.2.a1, .float .f64 a.2.a2, .float .f64 a.2.a3, .float .f64 a.2.a4, .float .f64 a.2.a5] 137 ∧ Cl w wr)
  case atStart => exact ⟨0, (0, Bx.none), Nat.add_zero _, rfl, rfl, Nat.le_refl _, BR.alo _, Lp.Bk.al _ _ _, HB.alloc _⟩
  case round =>
    clear BR HB
    obtain ⟨g0, hg0⟩ : ∃ g0, g0 = gk := ⟨_, rfl⟩
    subst hg0
    obtain ⟨j, a, hk, rfl, hb, ha, BR, BV, HB⟩ := hrel
    have HK := aside hk
    have HV := aside hb
    clear hk hb
    have hv := HVS.out
    by_cases hj : j < n
    · have hd : ((j : Int) < (n : Int)) = True := eq_true (by omega)
      have hf := HF.out j hj
      have HV2 := aside (show gat F (j + 1) = (a.1 + (F j).1, a.2.join (F j).2) by rw [gat_more, ← HV.out])
      obtain ⟨g, o, rfl, E⟩ := (HX.out.keep HB).get hj
      obtain ⟨k0, k1, k2, k3, k4, k5, k6⟩ := nat E hj
      have hj5 : j < 8 := by omega
      have hjl := aside hj
      clear E hj
      generalize F j = f at *
      have hw1 : (a.1 : Int) + (f.1 : Int) < 1000000 := by omega
      have hw0 : 0 ≤ (a.1 : Int) + (f.1 : Int) := by omega
      have kV := BV.cell
      have zV := BV.frz
      have hml : v2.heap.size < wr.heap.size := BV.lt
      have hmn : (v2.heap.size = wr.heap.size) = False := eq_false (by omega)
      go_wp2_with fail
      refine Lp.settleC (fun w' => Lp.Bk w' w.heap.size #[.int .i64 0, .float .f64 0, .float .f64 0, .float .f64 0, .float .f64 0, .float .f64 0, .float .f64 0] 137 ∧ Lp.Bk w' v2.heap.size #[.int .i64 ((a.1 + f.1 : Nat) : Int), .float .f64 a.2.a0, .float .f64 a.2.a1, .float .f64 a.2.a2, .float .f64 a.2.a3, .float .f64 a.2.a4, .float .f64 a.2.a5] 137 ∧ Cl w w') ⟨(BR.seto (by dsimp only; omega) _).alo _, (BV.set 0 (.int .i64 ((a.1 : Int) + (f.1 : Int)))).alo _, (HB.setCell (by dsimp only; omega) _).alloc _⟩ ?_
      clear k0 k1 k2 k3 k4 k5 k6 kV zV hml hmn BR BV HB
      rintro v5 ⟨BR, BV, HB⟩
      refine Calls.mono (join_any _ _ _ _ _ _ _ _ _ _ _ _ _) ?_
      rintro e v6 ⟨v, rfl, rfl, hm⟩
      replace BR := BR.keep hm
      replace BV := BV.keep hm
      replace HB := HB.call hm
      clear hm
      have kV := BV.cell
      have zV := BV.frz
      go_wp2_with fail
      go_roundg (g0 - 1)
      case measure => have := HK.out; have := hjl.out; omega
      case rel =>
        have hjl := hjl.out
        refine ⟨j + 1, (a.1 + f.1, a.2.join f.2), by have := HK.out; omega, by go_num, HV2.out.symm, by show a.1 + f.1 ≤ _; omega, ?_, ((((((BV.set 1 _).set 2 _).set 3 _).set 4 _).set 5 _).set 6 _), ?_⟩
        · (repeat (refine Lp.Bk.seto ?_ (by dsimp only; omega) _)); exact BR
        · (repeat (refine Below.setCell ?_ (by dsimp only; omega) _)); exact HB
    · have hd : ((j : Int) < (n : Int)) = False := eq_false (by omega)
      have hjl : j = n := by have := HK.out; omega
      subst hjl
      have HV2 := aside (show nxv a = nxv (gat F j) by rw [HV.out])
      clear hj
      have kV := BV.cell
      have kR := BR.cell
      have zR := BR.frz
      go_wp2_with fail
      refine bodyPost_ret (v := nxv a) (by simp [results, go_sem, kR, nxv]) rfl ⟨_, rfl, HV2.out, ?_⟩
      repeat (refine Below.setCell ?_ (by dsimp only; omega) _)
      exact HB

theorem convB (n : Int) (w : World) : (convert 3 23 (.int .i64 n)).run Tryz.prog w = .ok (.float .f64 (floatOfInt .f64 n)) w := by
  kernel_rfl
theorem convC {m : Nat} {z : Int} (h : floatToIntVal .f64 m .i64 = some z) (w : World) : (convert 23 3 (.float .f64 m)).run Tryz.prog w = .ok (.int .i64 z) w :=
  run_convert_float_int (w := w) _ _ _ _ _ _ (by rw [Tryz.underlying23]; rfl) Tryz.underlying3 h
theorem halfF_c (b : Bx) (w : World) : Ret Tryz.prog 135 #[bxv b] w (isF b.halfw) := half_any _ _ _ _ _ _ w

set_option maxRecDepth 100000 in
set_option maxHeartbeats 1000000 in
theorem cost_any (a : Nat × Bx) (w : World) : Ret Tryz.prog 117 #[nxv a] w (isF (costF a.2 a.1)) := by
  unfold Ret nxv
  have HH := hid (fun w => halfF_c a.2 w)
  have hc := convB (a.1 : Int)
  unfold bxv at HH
  go_enter Tryz.func117, Tryz.ntmps117
  go_wp2_with fail
  refine Lp.settle (fun w' => Lp.Bk w' (w.heap.size) #[.int .i64 (a.1 : Int), .float .f64 a.2.a0, .float .f64 a.2.a1, .float .f64 a.2.a2, .float .f64 a.2.a3, .float .f64 a.2.a4, .float .f64 a.2.a5] 137 ∧ Cl w w') ⟨Lp.Bk.al _ _ _, (Below.refl _ _).alloc (by simp <;> omega) _⟩ ?_
  rintro v1 ⟨BA, HB⟩
  have kA := BA.cell
  have nA0 : (w.heap.size = v1.heap.size) = False := eq_false (by have := BA.lt; omega)
  have mA0 : w.heap.size < v1.heap.size := by have := BA.lt; omega
  have nA1 : (w.heap.size = v1.heap.size + 1) = False := eq_false (by have := BA.lt; omega)
  have mA1 : w.heap.size < v1.heap.size + 1 := by have := BA.lt; omega
  apply Lw.region _ _ 8 (by kernel_rfl) (by kernel_rfl) (by kernel_rfl) (Below.refl _ _)
  apply Lw.facts
  · intro w1 hw
    exact (BA.cl hw).cell
  intro HF
  iterate 2 (
    apply Lw.one ?_ rfl
    · intro w hw
      have k0 := HF.out _ hw
      go_simp
      exact rfl
    intro K hK
    go_simp
    refine hK.out _ ?_
    clear hK K)
  apply Lw.any rfl
  · intro w hw
    go_simp
    exact Lw.ret (HH.out _)
  intro K hK
  rintro v ⟨r, rfl, hr⟩
  go_simp
  refine hK.out _ ?_
  clear hK K
  iterate 3 (
    apply Lw.one ?_ rfl
    · intro w hw
      have k0 := HF.out _ hw
      go_simp
      exact rfl
    intro K hK
    go_simp
    refine hK.out _ ?_
    clear hK K)
  apply Lw.any rfl
  · intro w hw
    go_simp
    exact Lw.mul (by first | exact Eqv.sm (by assumption) | exact Sm.refl _) (by first | exact Eqv.sm (by assumption) | exact Sm.refl _)
  intro K hK
  rintro v ⟨rq0, rfl, hq0⟩
  go_simp
  refine hK.out _ ?_
  clear hK K
  iterate 1 (
    apply Lw.one ?_ rfl
    · intro w hw
      have k0 := HF.out _ hw
      go_simp
      exact rfl
    intro K hK
    go_simp
    refine hK.out _ ?_
    clear hK K)
  rotate_left
  exact []
  refine Lw.fin ?_
  intro v2 hm
  clear kA nA0 mA0 nA1 mA1
  replace BA := BA.keep hm
  replace HB := HB.call hm
  clear hm
  have kA := BA.cell
  have nA0 : (w.heap.size = v2.heap.size) = False := eq_false (by have := BA.lt; omega)
  have mA0 : w.heap.size < v2.heap.size := by have := BA.lt; omega
  have nA1 : (w.heap.size = v2.heap.size + 1) = False := eq_false (by have := BA.lt; omega)
  have mA1 : w.heap.size < v2.heap.size + 1 := by have := BA.lt; omega
  go_wp2_with fail
  go_ret
  exact ⟨_, rfl, ⟨_, rfl, hq0⟩, HB⟩

end Go.Proofs.YtiblmojdjnfoaaaGreat

namespace Go.Proofs.YtiblmojdjnfoaaaGreat
open Go.RowKit Fl Lm

/-- A function that tells a number's bin, between two parts on an axis. -/
structure BinFn (w : World) (n : Nat) (am : Option Addr) (k lo hi : Nat) (b0 b1 b2 b3 : Nat) : Prop where
  sh : ∃ ab cb cm, Lp.Bk w b0 #[.slice ab n cb, .slice am n cm] 77
  ax : Lp.Bk w b1 #[.int .i64 (k : Int)] 3
  lo : Lp.Bk w b2 #[.float .f64 lo] 23
  hi : Lp.Bk w b3 #[.float .f64 hi] 23
theorem BinFn.keep {w w' : World} {n : Nat} {am : Option Addr} {k lo hi b0 b1 b2 b3 : Nat} (h : BinFn w n am k lo hi b0 b1 b2 b3) (hb : Below w.heap.size w w') : BinFn w' n am k lo hi b0 b1 b2 b3 :=
  ⟨h.sh.imp fun _ h => h.imp fun _ h => h.imp fun _ h => h.keep hb, h.ax.keep hb, h.lo.keep hb, h.hi.keep hb⟩
def binV (b0 b1 b2 b3 : Nat) : Value := .func (.func 95) #[] #[.pointer (some ⟨b0, 0, none⟩), .pointer (some ⟨b1, 0, none⟩), .pointer (some ⟨b2, 0, none⟩), .pointer (some ⟨b3, 0, none⟩)]

set_option maxRecDepth 100000 in
set_option maxHeartbeats 1000000 in
theorem bin1_any (T : Nat → Tr) (hT : ∀ i, (T i).Mo) (n k lo hi b0 b1 b2 b3 i : Nat) (am : Option Addr) (w : World) (h : BinFn w n am k lo hi b0 b1 b2 b3) (hM : Sl w am n 3 fun i => pcs (T i).box.mid) (hi' : i < n) (hl : Num lo) (hh : Num hi) (hB : Bin lo hi (keyT T k i)) :
    Ret Tryz.prog 95 #[.int .i64 (i : Int), .pointer (some ⟨b0, 0, none⟩), .pointer (some ⟨b1, 0, none⟩), .pointer (some ⟨b2, 0, none⟩), .pointer (some ⟨b3, 0, none⟩)] w (fun v => v = .int .i64 (binF lo hi (keyT T k i))) := by
  unfold Ret
  obtain ⟨⟨ab, cb, cm, hS⟩, hA, hLo, hHi⟩ := h
  obtain ⟨g, o, rfl, E⟩ := hM.get hi'
  have HE := hid E
  have HP := hid (fun w => (gpart_any (T i).box.mid (k : Int) w).ret)
  have e1 : partV (T i).box.mid (k : Int) = keyT T k i := rfl
  rw [e1] at HP
  have hx := (key_mo hT k i).num
  unfold binF
  have HD1 := hid (fun w => run_sub_num (P := Tryz.prog) (w := w) 23 hx hl)
  have HD2 := hid (fun w => run_sub_num (P := Tryz.prog) (w := w) 23 hh hl)
  have HD3 := hid (fun w => run_quo_num (P := Tryz.prog) (w := w) 23 hB.s1 hB.s2 (fun e => by have := hB.s2p; rw [e] at this; exact absurd this (by decide)))
  have HD4 := hid (fun w => run_mul_num (P := Tryz.prog) (w := w) 23 num_k8 hB.q1)
  have HD5 := hid (fun w => convC hB.conv w)
  have HMN := aside (show (if (7 : Int) < truncF (q8F lo hi (keyT T k i)) then (7 : Int) else truncF (q8F lo hi (keyT T k i))) = min (truncF (q8F lo hi (keyT T k i))) 7 by split <;> omega)
  unfold q8F at *
  generalize min (truncF (fmul k8 (fdiv (fsub (keyT T k i) lo) (fsub hi lo)))) 7 = z at *
  generalize truncF (fmul k8 (fdiv (fsub (keyT T k i) lo) (fsub hi lo))) = y at *
  have HD4' : Hid (∀ w, (binOp .mul 23 (.float .f64 4620693217682128896) (.float .f64 (fdiv (fsub (keyT T k i) lo) (fsub hi lo)))).run Tryz.prog w = .ok (.float .f64 (fmul k8 (fdiv (fsub (keyT T k i) lo) (fsub hi lo)))) w) := HD4
  clear HD4
  generalize fmul k8 (fdiv (fsub (keyT T k i) lo) (fsub hi lo)) = x4 at *
  generalize fdiv (fsub (keyT T k i) lo) (fsub hi lo) = x3 at *
  generalize fsub (keyT T k i) lo = x1 at *
  generalize fsub hi lo = x2 at *
  generalize keyT T k i = x at *
  have hil := aside hi'
  clear hM E e1 hi' hB hl hh hx
  go_enter Tryz.func95, Tryz.ntmps95
  go_wp2_with fail
  apply Lw.region _ _ 17 (by kernel_rfl) (by kernel_rfl) (by kernel_rfl) (Below.refl _ _)
  apply Lw.facts
  · intro w1 hw
    exact And.intro (hS.keep hw).cell (And.intro (hA.keep hw).cell (And.intro (hLo.keep hw).cell (And.intro (hHi.keep hw).cell (pat (HE.out.keep hw) hil.out))))
  intro HF
  iterate 6 (
    apply Lw.one ?_ rfl
    · intro w1 hw
      obtain ⟨k0, k1, k2, k3, k4, k5, k6⟩ := HF.out _ hw
      have hx1 := hil.out
      go_simp
      exact rfl
    intro K hK
    go_simp
    refine hK.out _ ?_
    clear hK K)
  apply Lw.any rfl
  · intro w hw
    go_simp
    exact Lw.ret (HP.out _)
  intro K hK
  rintro v rfl
  go_simp
  refine hK.out _ ?_
  clear hK K
  iterate 10 (
    apply Lw.one ?_ rfl
    · intro w1 hw
      obtain ⟨k0, k1, k2, k3, k4, k5, k6⟩ := HF.out _ hw
      have hx1 := hil.out
      have d1 := HD1.out
      have d2 := HD2.out
      have d3 := HD3.out
      have d4 := HD4'.out
      have d5 := HD5.out
      have d6 := HMN.out
      go_simp
      exact rfl
    intro K hK
    go_simp
    refine hK.out _ ?_
    clear hK K)
  rotate_left
  exact []
  refine Lw.fin ?_
  intro v1 hm
  go_wp2_with fail
  go_ret
  exact ⟨_, rfl, rfl, hm⟩

set_option maxRecDepth 100000 in
set_option maxHeartbeats 1000000 in
theorem binner_any (n cb cm k lo hi : Nat) (ab am : Option Addr) (w : World) : Calls Tryz.prog 76 #[.agg #[.slice ab n cb, .slice am n cm], .int .i64 (k : Int), .float .f64 lo, .float .f64 hi] w fun e w' => ∃ b0 b1 b2 b3, e = .returned (binV b0 b1 b2 b3) ∧ BinFn w' n am k lo hi b0 b1 b2 b3 ∧ Cl w w' := by
  go_enter Tryz.func76, Tryz.ntmps76
  go_wp2_with fail
  go_ret
  exact ⟨w.heap.size, w.heap.size + 1, w.heap.size + 1 + 1, w.heap.size + 1 + 1 + 1, rfl, ⟨⟨ab, cb, cm, (((Lp.Bk.al w _ _).alo _).alo _).alo _⟩, ((Lp.Bk.al1 w _ _ _).alo _).alo _, (Lp.Bk.al2 w _ _ _ _).alo _, Lp.Bk.al3 w _ _ _ _ _⟩, ((((Below.refl _ _).alloc (by simp <;> omega) _).alloc (by simp <;> omega) _).alloc (by simp <;> omega) _).alloc (by simp <;> omega) _⟩

end Go.Proofs.YtiblmojdjnfoaaaGreat

namespace Go.Proofs.YtiblmojdjnfoaaaGreat
open Go.RowKit Fl Lm

section
variable {P : Program} {ops : Array Oper} {rest : List Oper} {o : Oper} {a : Act} {Q : Exit → Act → World → Prop} {w : World}
theorem wpList_alloc0 (hgd : o.guard = none) (ty : TypeId) (ho : o.op = .alloc ty) (z : Array Value) (hz : ∀ w, (zeroValue ty).run P w = .ok (.agg z) w) (h : wpList P ops Q rest (a.put o.dst (.pointer (some ⟨w.heap.size, 0, none⟩))) (w.alloc (.cells z ty))) : wpList P ops Q (o :: rest) a w :=
  wpList_plain hgd fun _ hK => by
    unfold Oper.wp execOp
    simp only [ho, Instr.alloc, Sem.run_bind, Sem.run_pure, Result.andThen_ok, hz]
    exact hK _ _ h
theorem wpList_box0 (hgd : o.guard = none) (ty : TypeId) (x : Operand) (ho : o.op = .box ty x) (z : Array Value) (hx : a.eval x = .agg z) (h : wpList P ops Q rest (a.put o.dst (.pointer (some ⟨w.heap.size, 0, none⟩))) (w.alloc (.cells z ty))) : wpList P ops Q (o :: rest) a w :=
  wpList_plain hgd fun _ hK => by
    unfold Oper.wp execOp
    simp only [ho, hx, Instr.box, Sem.run_bind, Sem.run_pure]
    exact hK _ _ h
theorem wpList_build0 (hgd : o.guard = none) (ty : TypeId) (ho : o.op = .build ty #[]) (hb : (P.built ty []).isSome = true) {Z : Array Value} (hZ : (P.built ty []).getD #[] = Z) (h : wpList P ops Q rest (a.put o.dst (.agg Z)) w) : wpList P ops Q (o :: rest) a w :=
  wpList_build hgd ty #[] ho (by simpa using hb) (by simpa [hZ] using h)
end
/-- The cells of eight bins. -/
def binA (F : Nat → Nat × Bx) : Array Value := (flat 8 fun i => ncs (F i)).toArray
theorem binA_size (F : Nat → Nat × Bx) : (binA F).size = 56 := by
  have := flat_len (n := 8) (k := 7) (e := fun i => ncs (F i)) (fun _ _ => rfl)
  simpa [binA] using this
theorem binA_at (F : Nat → Nat × Bx) {i j : Nat} (hi : i < 8) (hj : j < 7) : (binA F)[i * 7 + j]? = (ncs (F i))[j]? := by
  rw [← flat_at (n := 8) (k := 7) (e := fun i => ncs (F i)) (fun _ _ => rfl) hi hj]
  simp [binA]
theorem binA_one (F : Nat → Nat × Bx) : (binA F).all (·.oneCell') = true := by
  rw [Array.all_eq_true_iff_forall_mem]
  intro x hx
  exact flat_one (n := 8) (e := fun i => ncs (F i)) (fun i _ => ncs_one _) x (by simpa [binA] using hx)
/-- A bin's cells turned. -/
theorem binA_set (F : Nat → Nat × Bx) (k : Nat) (hk : k < 8) (v : Nat × Bx) : ((((((((binA F).setIfInBounds (k * 7) (.int .i64 (v.1 : Int))).setIfInBounds (k * 7 + 1) (.float .f64 v.2.a0)).setIfInBounds (k * 7 + 2) (.float .f64 v.2.a1)).setIfInBounds (k * 7 + 3) (.float .f64 v.2.a2)).setIfInBounds (k * 7 + 4) (.float .f64 v.2.a3)).setIfInBounds (k * 7 + 5) (.float .f64 v.2.a4)).setIfInBounds (k * 7 + 6) (.float .f64 v.2.a5)) = binA (updB F k v) := by
  apply Array.ext_getElem?
  intro m
  have hs := binA_size F
  by_cases hm : m < 56
  · obtain ⟨i, j, rfl, hi, hj⟩ : ∃ i j, m = i * 7 + j ∧ i < 8 ∧ j < 7 := ⟨m / 7, m % 7, by omega, by omega, by omega⟩
    rw [binA_at _ hi hj]
    by_cases e : i = k
    · subst e
      have e2 : updB F i v i = v := by unfold updB; rw [if_pos rfl]
      rw [e2]
      simp only [Array.getElem?_setIfInBounds, Array.size_setIfInBounds, hs]
      match j, hj with
      | 0, _ => simp [ncs]; omega
      | 1, _ => simp [ncs]; omega
      | 2, _ => simp [ncs]; omega
      | 3, _ => simp [ncs]; omega
      | 4, _ => simp [ncs]; omega
      | 5, _ => simp [ncs]; omega
      | 6, _ => simp [ncs]; omega
    · have e2 : updB F k v i = F i := by unfold updB; rw [if_neg e]
      rw [e2, ← binA_at F hi hj]
      have n : ∀ c, c < 7 → k * 7 + c ≠ i * 7 + j := fun c hc h => by omega
      have n0 : k * 7 ≠ i * 7 + j := n 0 (by omega)
      rw [Array.getElem?_setIfInBounds_ne (n 6 (by omega)), Array.getElem?_setIfInBounds_ne (n 5 (by omega)), Array.getElem?_setIfInBounds_ne (n 4 (by omega)), Array.getElem?_setIfInBounds_ne (n 3 (by omega)), Array.getElem?_setIfInBounds_ne (n 2 (by omega)), Array.getElem?_setIfInBounds_ne (n 1 (by omega)), Array.getElem?_setIfInBounds_ne n0]
  · rw [Array.getElem?_eq_none (by simp only [Array.size_setIfInBounds]; omega), Array.getElem?_eq_none (by rw [binA_size]; omega)]
theorem Bk.els {w : World} {b : Nat} {F : Nat → Nat × Bx} {t : TypeId} (h : Lp.Bk w b (binA F) t) : Els w b 0 8 7 fun i => ncs (F i) :=
  ⟨h.lt, fun i hi j hj => by rw [Nat.zero_add, h.cell, binA_at F hi hj]⟩

theorem Bk.bin {w : World} {b : Nat} {F : Nat → Nat × Bx} {t : TypeId} (h : Lp.Bk w b (binA F) t) {i : Nat} (hi : i < 8) : w.cell? ⟨b, i * 7, none⟩ = some (.int .i64 ((F i).1 : Int)) ∧ w.cell? ⟨b, i * 7 + 1, none⟩ = some (.float .f64 (F i).2.a0) ∧ w.cell? ⟨b, i * 7 + 2, none⟩ = some (.float .f64 (F i).2.a1) ∧ w.cell? ⟨b, i * 7 + 3, none⟩ = some (.float .f64 (F i).2.a2) ∧ w.cell? ⟨b, i * 7 + 4, none⟩ = some (.float .f64 (F i).2.a3) ∧ w.cell? ⟨b, i * 7 + 5, none⟩ = some (.float .f64 (F i).2.a4) ∧ w.cell? ⟨b, i * 7 + 6, none⟩ = some (.float .f64 (F i).2.a5) := by
  refine ⟨?_, ?_, ?_, ?_, ?_, ?_, ?_⟩
  · exact (h.cell (i * 7)).trans (binA_at F hi (j := 0) (by omega))
  · exact (h.cell (i * 7 + 1)).trans (binA_at F hi (j := 1) (by omega))
  · exact (h.cell (i * 7 + 2)).trans (binA_at F hi (j := 2) (by omega))
  · exact (h.cell (i * 7 + 3)).trans (binA_at F hi (j := 3) (by omega))
  · exact (h.cell (i * 7 + 4)).trans (binA_at F hi (j := 4) (by omega))
  · exact (h.cell (i * 7 + 5)).trans (binA_at F hi (j := 5) (by omega))
  · exact (h.cell (i * 7 + 6)).trans (binA_at F hi (j := 6) (by omega))
theorem two_sl {w : World} {b : Nat} {f g : Nat × Bx} {t : TypeId} (h : Lp.Bk w b #[.int .i64 (f.1 : Int), .float .f64 f.2.a0, .float .f64 f.2.a1, .float .f64 f.2.a2, .float .f64 f.2.a3, .float .f64 f.2.a4, .float .f64 f.2.a5, .int .i64 (g.1 : Int), .float .f64 g.2.a0, .float .f64 g.2.a1, .float .f64 g.2.a2, .float .f64 g.2.a3, .float .f64 g.2.a4, .float .f64 g.2.a5] t) :
    Sl w (some ⟨b, 0, none⟩) 2 7 fun i => ncs (if i = 0 then f else g) := by
  refine .inr ⟨b, 0, rfl, h.lt, fun i hi j hj => ?_⟩
  rw [Nat.zero_add, h.cell]
  match i, hi, j, hj with
  | 0, _, 0, _ => rfl
  | 0, _, 1, _ => rfl
  | 0, _, 2, _ => rfl
  | 0, _, 3, _ => rfl
  | 0, _, 4, _ => rfl
  | 0, _, 5, _ => rfl
  | 0, _, 6, _ => rfl
  | 1, _, 0, _ => rfl
  | 1, _, 1, _ => rfl
  | 1, _, 2, _ => rfl
  | 1, _, 3, _ => rfl
  | 1, _, 4, _ => rfl
  | 1, _, 5, _ => rfl
  | 1, _, 6, _ => rfl

theorem setRow_bk {w : World} {b : Nat} {vs cs : Array Value} {t : TypeId} (h : Lp.Bk w b vs t) : Lp.Bk (w.setRow b cs) b cs t := by
  unfold Lp.Bk at *
  show (w.heap.modify b _)[b]? = _
  rw [Array.getElem?_modify, if_pos rfl, h]
  rfl
theorem setRow_cl {W w : World} {b : Nat} {cs : Array Value} (h : Cl W w) (hb : W.heap.size ≤ b) : Cl W (w.setRow b cs) := by
  refine ⟨h.os, h.tape, h.output, ?_, fun k hk => ?_⟩
  · show W.heap.size ≤ (w.heap.modify b _).size
    rw [Array.size_modify]
    exact h.size
  · show (w.heap.modify b _)[k]? = _
    rw [Array.getElem?_modify, if_neg (by omega)]
    exact h.block k hk
/-- The bins behind a list, one number behind another. -/
def stepG (bn : Nat → Nat) (T : Nat → Tr) (f : Nat → Nat × Bx) (i : Nat) : Nat → Nat × Bx := updB f (bn i) (gather [f (bn i), (1, (T i).box)])
def binsG (bn : Nat → Nat) (T : Nat → Tr) (l : List Nat) : Nat → Nat × Bx := l.foldl (stepG bn T) (fun _ => gather [])
theorem binsG_more (bn : Nat → Nat) (T : Nat → Tr) {l : List Nat} {j : Nat} (hj : j < l.length) : binsG bn T (l.take (j + 1)) = stepG bn T (binsG bn T (l.take j)) (l.getD j 0) := by
  unfold binsG; rw [take_more hj, List.foldl_append]; rfl
theorem binA_congr {F G : Nat → Nat × Bx} (h : ∀ i, i < 8 → F i = G i) : binA F = binA G := by
  unfold binA
  rw [flat_congr fun i hi => by rw [h i hi]]

theorem info_bins : (Tryz.prog.info? 138).map (fun i => (i.zero, i.size)) = some (some (.agg #[.int .i64 0, .float .f64 0, .float .f64 0, .float .f64 0, .float .f64 0, .float .f64 0, .float .f64 0, .int .i64 0, .float .f64 0, .float .f64 0, .float .f64 0, .float .f64 0, .float .f64 0, .float .f64 0, .int .i64 0, .float .f64 0, .float .f64 0, .float .f64 0, .float .f64 0, .float .f64 0, .float .f64 0, .int .i64 0, .float .f64 0, .float .f64 0, .float .f64 0, .float .f64 0, .float .f64 0, .float .f64 0, .int .i64 0, .float .f64 0, .float .f64 0, .float .f64 0, .float .f64 0, .float .f64 0, .float .f64 0, .int .i64 0, .float .f64 0, .float .f64 0, .float .f64 0, .float .f64 0, .float .f64 0, .float .f64 0, .int .i64 0, .float .f64 0, .float .f64 0, .float .f64 0, .float .f64 0, .float .f64 0, .float .f64 0, .int .i64 0, .float .f64 0, .float .f64 0, .float .f64 0, .float .f64 0, .float .f64 0, .float .f64 0]), 56) := by kernel_rfl

theorem size_bins : (Tryz.prog.info? 138).map (·.size) = some 56 := (zero_of_info info_bins).2

theorem zero_bins : ∃ Z : Array Value, Z = binA (fun _ => (0, ⟨0, 0, 0, 0, 0, 0⟩)) ∧ ∀ w, (zeroValue 138).run Tryz.prog w = .ok (.agg Z) w := by
  refine ⟨_, rfl, fun w => ?_⟩
  rw [(zero_of_info info_bins).1 w]
  rfl

theorem under_bins : Tryz.prog.underlying 138 = some (.array 8 137) := by kernel_rfl

theorem built_bins : ∃ Z : Array Value, Z = binA (fun _ => (0, ⟨0, 0, 0, 0, 0, 0⟩)) ∧ (Tryz.prog.built 138 []).isSome = true ∧ (Tryz.prog.built 138 []).getD #[] = Z := by
  refine ⟨_, rfl, by kernel_rfl, ?_⟩
  have h : Tryz.prog.built 138 [] = some #[.int .i64 0, .float .f64 0, .float .f64 0, .float .f64 0, .float .f64 0, .float .f64 0, .float .f64 0, .int .i64 0, .float .f64 0, .float .f64 0, .float .f64 0, .float .f64 0, .float .f64 0, .float .f64 0, .int .i64 0, .float .f64 0, .float .f64 0, .float .f64 0, .float .f64 0, .float .f64 0, .float .f64 0, .int .i64 0, .float .f64 0, .float .f64 0, .float .f64 0, .float .f64 0, .float .f64 0, .float .f64 0, .int .i64 0, .float .f64 0, .float .f64 0, .float .f64 0, .float .f64 0, .float .f64 0, .float .f64 0, .int .i64 0, .float .f64 0, .float .f64 0, .float .f64 0, .float .f64 0, .float .f64 0, .float .f64 0, .int .i64 0, .float .f64 0, .float .f64 0, .float .f64 0, .float .f64 0, .float .f64 0, .float .f64 0, .int .i64 0, .float .f64 0, .float .f64 0, .float .f64 0, .float .f64 0, .float .f64 0, .float .f64 0] := by kernel_rfl
  rw [h]
  rfl

set_option maxRecDepth 100000 in
set_option maxHeartbeats 1000000 in
theorem binned_any (T : Nat → Tr) (hT : ∀ i, (T i).Mo) (n cb cm cl k lo hi b0 b1 b2 b3 : Nat) (ab am ao : Option Addr) (l : List Nat) (w : World) (hS : Shp T w n ab am) (hL : Sl w ao l.length 1 (lvs l)) (hl : ∀ i, i ∈ l → i < n) (h5 : l.length ≤ 512)
    (hF : BinFn w n am k lo hi b0 b1 b2 b3) (nl : Num lo) (nh : Num hi) (hB : ∀ i, i ∈ l → Bin lo hi (keyT T k i)) :
    Ret Tryz.prog 94 #[.agg #[.slice ab n cb, .slice am n cm], .slice ao l.length cl, binV b0 b1 b2 b3] w (fun v => v = .agg (binA (binsG (fun i => (binF lo hi (keyT T k i)).toNat) T l))) := by
  unfold Ret
  obtain ⟨Z, hZ, hz⟩ := zero_bins
  obtain ⟨Z2, hZ2, hbs, hbd⟩ := built_bins
  obtain rfl : Z2 = Z := hZ2.trans hZ.symm
  have HZ := aside hZ
  clear hZ hZ2
  have HS := hid hS
  have HL := hid hL
  have HM := aside hl
  have HF := hid hF
  have HBN := aside hB
  have HTO := hid (fun (w : World) => together_any (fun _ => (0, Bx.none)) 0 0 none w (.inl rfl) (by omega) (fun i hi => by omega))
  clear hS hL hl hF hB
  go_enter Tryz.func94, Tryz.ntmps94
  refine wp_seq (wp_region_lit ?_)
  refine wpList_box0 rfl 77 (.tmp 0) rfl #[.slice ab n cb, .slice am n cm] rfl ?_
  refine wpList_alloc0 rfl 138 rfl Z2 hz ?_
  refine wpList_nil ?_
  refine wp_seq (wp_region_lit ?_)
  refine wpList_build0 rfl 138 rfl hbs hbd ?_
  refine wpList_alloc0 rfl 138 rfl Z2 hz ?_
  refine wpList_store_row rfl 138 (.tmp 7) (.tmp 12) rfl ((w.alloc (.cells #[.slice ab n cb, .slice am n cm] 77)).alloc (.cells Z2 138)).heap.size Z2 rfl rfl 138 Z2 (heap_alloc_last _ _) ?_ rfl ?_ ?_
  · rw [HZ.out, binA_size]; exact size_bins
  · rw [HZ.out]; exact binA_one _
  rw [World.setRow_alloc_new]
  clear hbs hbd hz
  refine wpList_nil ?_
  refine wp_seq_k fun K1 hK1 => ?_
  have HK1 := hid hK1
  clear hK1
  have BS0 := Lp.Bk.alo (Lp.Bk.alo (Lp.Bk.al w #[.slice ab n cb, .slice am n cm] 77) (.cells Z2 138)) (.cells Z2 138)
  have BR0 := Lp.Bk.alo (Lp.Bk.al1 w (.cells #[.slice ab n cb, .slice am n cm] 77) Z2 138) (.cells Z2 138)
  have BV0 := Lp.Bk.al2 w (.cells #[.slice ab n cb, .slice am n cm] 77) (.cells Z2 138) Z2 138
  have HB0 : Cl w _ := (((Below.refl w.heap.size w).alloc (Nat.le_refl _) (.cells #[.slice ab n cb, .slice am n cm] 77)).alloc (by simp) (.cells Z2 138)).alloc (by simp; omega) (.cells Z2 138)
  refine Lp.settle (fun w' => Lp.Bk w' w.heap.size #[.slice ab n cb, .slice am n cm] 77 ∧ Lp.Bk w' (w.heap.size + 1) Z2 138 ∧ Lp.Bk w' (w.heap.size + 1 + 1) Z2 138 ∧ Cl w w') ⟨BS0, BR0, BV0, HB0⟩ ?_
  clear BS0 BR0 BV0 HB0
  rintro v1 ⟨BS, BR, BV, HB⟩
  have hZ3 := HZ.out
  have HZS := aside (show Z2.size = 56 by rw [HZ.out]; exact binA_size _)
  rw [hZ3] at BV
  clear hZ3 HZ
  unfold binV
  go_wp2_with fail
  go_loopg [13] 8 (fun kk i wr => ∃ (j : Nat) (F : Nat → Nat × Bx), kk + j = 8 ∧ i = .int .i64 (j : Int) ∧ (∀ i, i < j → F i = gather []) ∧ Lp.Bk wr w.heap.size #[.slice ab n cb, .slice am n cm] 77 ∧ Lp.Bk wr (w.heap.size + 1) Z2 138 ∧ Lp.Bk wr (w.heap.size + 1 + 1) (binA F) 138 ∧ Cl w wr)
  case atStart => exact ⟨0, _, Nat.add_zero _, rfl, fun i hi => by omega, BS, BR, BV, HB⟩
  case round =>
    clear BS BR BV HB
    obtain ⟨g0, hg0⟩ : ∃ g0, g0 = gk := ⟨_, rfl⟩
    subst hg0
    obtain ⟨j, F, hk, rfl, hF, BS, BR, BV, HB⟩ := hrel
    have HK := aside hk
    have HFF := aside hF
    clear hk hF
    by_cases hj : j < 8
    · have hd : ((j : Int) < 8) = True := eq_true (by omega)
      have hjl := aside hj
      go_wp2_with fail
      refine Calls.mono (HTO.out _) ?_
      rintro e v2 ⟨v, rfl, rfl, hm⟩
      replace BS := BS.keep hm
      replace BR := BR.keep hm
      replace BV := BV.keep hm
      replace HB := HB.call hm
      clear hm
      obtain ⟨k0, k1, k2, k3, k4, k5, k6⟩ := Bk.bin BV hj
      have zV := BV.frz
      unfold nxv
      go_wp2_with fail
      clear k0 k1 k2 k3 k4 k5 k6 zV
      go_roundg (g0 - 1)
      case measure => have := HK.out; have := hjl.out; omega
      case rel =>
        have hjl := hjl.out
        refine ⟨j + 1, updB F j (gat (fun _ => (0, Bx.none)) 0), by have := HK.out; omega, by go_num, fun i hi => ?_, ?_, ?_, ?_, ?_⟩
        · unfold updB
          by_cases e : i = j
          · rw [if_pos e]; rfl
          · rw [if_neg e]; exact HFF.out i (by omega)
        · (repeat (refine Lp.Bk.seto ?_ (by dsimp only; omega) _)); exact BS
        · (repeat (refine Lp.Bk.seto ?_ (by dsimp only; omega) _)); exact BR
        · have := ((((((BV.set (j * 7) (.int .i64 (((gat (fun _ => (0, Bx.none)) 0).1 : Nat) : Int))).set (j * 7 + 1) (.float .f64 (gat (fun _ => (0, Bx.none)) 0).2.a0)).set (j * 7 + 2) (.float .f64 (gat (fun _ => (0, Bx.none)) 0).2.a1)).set (j * 7 + 3) (.float .f64 (gat (fun _ => (0, Bx.none)) 0).2.a2)).set (j * 7 + 4) (.float .f64 (gat (fun _ => (0, Bx.none)) 0).2.a3)).set (j * 7 + 5) (.float .f64 (gat (fun _ => (0, Bx.none)) 0).2.a4)).set (j * 7 + 6) (.float .f64 (gat (fun _ => (0, Bx.none)) 0).2.a5)
          rw [binA_set F j hjl (gat (fun _ => (0, Bx.none)) 0)] at this
          exact this
        · (repeat (refine Below.setCell ?_ (by dsimp only; omega) _)); exact HB
    · have hd : ((j : Int) < 8) = False := eq_false (by omega)
      have hj8 : j = 8 := by have := HK.out; omega
      subst hj8
      have e0 : binA F = binA (binsG (fun i => (binF lo hi (keyT T k i)).toNat) T []) := binA_congr fun i hi => HFF.out i hi
      rw [e0] at BV
      clear hj e0 HFF
      go_wp2_with fail
      refine HK1.out _ _ ?_
      clear HK1 HK
      refine wp_seq_k fun K2 hK2 => ?_
      have HK2 := hid hK2
      clear hK2
      go_wp2_with fail
      go_loopg [22] l.length (fun kk i wr => ∃ (j : Nat) (F : Nat → Nat × Bx), kk + j = l.length ∧ i = .int .i64 (j : Int) ∧ F = binsG (fun i => (binF lo hi (keyT T k i)).toNat) T (l.take j) ∧ (∀ i, (F i).1 ≤ j) ∧ Lp.Bk wr w.heap.size #[.slice ab n cb, .slice am n cm] 77 ∧ Lp.Bk wr (w.heap.size + 1) Z2 138 ∧ Lp.Bk wr (w.heap.size + 1 + 1) (binA F) 138 ∧ Cl w wr)
      case atStart => exact ⟨0, _, Nat.add_zero _, rfl, rfl, fun i => Nat.le_refl _, BS, BR, BV, HB⟩
      case round =>
        clear BS BR BV HB
        obtain ⟨g0, hg0⟩ : ∃ g0, g0 = gk := ⟨_, rfl⟩
        subst hg0
        obtain ⟨j, F, hk, rfl, hF, hc, BS, BR, BV, HB⟩ := hrel
        have HK := aside hk
        have HFF := aside hF
        have HCC := aside hc
        clear hk hF hc
        by_cases hj : j < l.length
        · have hd : ((j : Int) < (l.length : Int)) = True := eq_true (by omega)
          have hmem := getD_mem hj
          have hx := HM.out _ hmem
          have hbx := HBN.out _ hmem
          have HF2 := aside (show binsG (fun i => (binF lo hi (keyT T k i)).toNat) T (l.take (j + 1)) = stepG (fun i => (binF lo hi (keyT T k i)).toNat) T F (l.getD j 0) by rw [HFF.out]; exact binsG_more _ T hj)
          obtain ⟨gl, ol, rfl, EL⟩ := (HL.out.keep HB).get hj
          have hS2 := HS.out.keep HB
          obtain ⟨gb, ob, rfl, EX⟩ := hS2.bx.get hx
          have hM2 := hS2.md
          have kL := EL.num hj
          have hjl := aside hj
          have hj5 : j < 512 := by omega
          clear hj hmem EL hS2
          generalize l.getD j 0 = x at *
          have HBI := hid (fun w' (hw : Below wr.heap.size wr w') => bin1_any T hT n k lo hi b0 b1 b2 b3 x am w' (HF.out.keep (HB.call hw)) (hM2.keep hw) hx nl nh hbx)
          have hbi := bin_in hbx
          have hF3 : stepG (fun i => (binF lo hi (keyT T k i)).toNat) T F x = updB F (binF lo hi (keyT T k x)).toNat (gather [F (binF lo hi (keyT T k x)).toNat, (1, (T x).box)]) := rfl
          rw [hF3] at HF2
          clear hF3 hM2 hbx
          obtain ⟨m, hm⟩ : ∃ m : Nat, binF lo hi (keyT T k x) = (m : Int) := ⟨(binF lo hi (keyT T k x)).toNat, by omega⟩
          rw [hm] at HBI HF2 hbi
          have hm8 : m < 8 := by omega
          have em : ((m : Int)).toNat = m := rfl
          rw [em] at HF2
          clear hm hbi em
          have HXX := hid EX
          clear EX
          go_wp2_with fail
          refine Calls.mono (HBI.out _ (Below.refl _ _)) ?_
          rintro e v5 ⟨v, rfl, rfl, hm⟩
          clear kL HBI
          replace BS := BS.keep hm
          replace BR := BR.keep hm
          replace BV := BV.keep hm
          replace HB := HB.call hm
          replace HXX := hid (HXX.out.keep hm)
          clear hm
          have HTO2 := hid (fun b (w' : World) h => together_any (fun i => if i = 0 then F m else (1, (T x).box)) 2 2 (some ⟨b, 0, none⟩) w' (two_sl (t := 137) h) (by omega) (fun i hi => by
            show (if i = 0 then F m else (1, (T x).box)).1 ≤ 512
            split
            · have := HCC.out m; omega
            · show 1 ≤ 512; omega))
          have hg2 : gat (fun i => if i = 0 then F m else (1, (T x).box)) 2 = gather [F m, (1, (T x).box)] := rfl
          rw [hg2] at HTO2
          clear hg2
          have HM8 := aside hm8
          have HFM := aside (show (gather [F m, (1, (T x).box)]).1 ≤ j + 1 by have := HCC.out m; show 0 + (F m).1 + 1 ≤ j + 1; omega)
          have BVH := hid BV
          have HXL := aside hx
          have HCX := hid (fun w' (hw : Below v5.heap.size v5 w') => bat (HXX.out.keep hw) HXL.out)
          have HCB := hid (fun w' (hw : Below v5.heap.size v5 w') => Bk.bin (BV.keep hw) hm8)
          generalize F m = f at *
          generalize gather [f, (1, (T x).box)] = fr at *
          generalize (T x).box = bx at *
          go_wp2_with fail
          apply Lw.region _ _ 13 (by kernel_rfl) (by kernel_rfl) (by kernel_rfl) (Below.refl _ _)
          apply Lw.facts
          · intro w1 hw
            exact And.intro (BS.keep hw).cell (And.intro (HCB.out _ hw) (HCX.out _ hw))
          intro HF9
          iterate 10 (
            apply Lw.one ?_ rfl
            · intro w1 hw
              obtain ⟨k0, ⟨p0, p1, p2, p3, p4, p5, p6⟩, ⟨q0, q1, q2, q3, q4, q5⟩⟩ := HF9.out _ hw
              have hx1 := HXL.out
              have hm1 : (m : Int) < 8 := by have := HM8.out; omega
              go_simp
              exact rfl
            intro K hK
            go_simp
            refine hK.out _ ?_
            clear hK K)
          apply Lw.anyW (V := fun v w' => ∃ b, v = .slice (some ⟨b, 0, none⟩) 2 2 ∧ Lp.Bk w' b #[.int .i64 (f.1 : Int), .float .f64 f.2.a0, .float .f64 f.2.a1, .float .f64 f.2.a2, .float .f64 f.2.a3, .float .f64 f.2.a4, .float .f64 f.2.a5, .int .i64 (((1, bx) : Nat × Bx).1 : Int), .float .f64 bx.a0, .float .f64 bx.a1, .float .f64 bx.a2, .float .f64 bx.a3, .float .f64 bx.a4, .float .f64 bx.a5] 137) rfl
          · exact fun v x y hb ⟨b, e, h⟩ => ⟨b, e, Lp.Bk.keep h hb⟩
          · intro w1 hw _
            go_simp
            exact ⟨⟨_, rfl, Lp.Bk.al _ _ _⟩, (Below.refl _ _).alloc (Nat.le_refl _) _⟩
          intro K hK v hv
          obtain ⟨_, _, bb, rfl, _⟩ := hv
          go_simp
          refine hK.out _ _ ?_
          clear hK K
          apply Lw.anyN rfl
          · intro w1 hw hN
            obtain ⟨b', e, hk⟩ := (hN 10 (by kernel_rfl)).2 rfl
            simp only [Value.slice.injEq, Option.some.injEq, Addr.mk.injEq, and_true] at e
            subst e
            clear hN
            go_simp
            exact Lw.ret (HTO2.out _ _ hk)
          intro K hK
          rintro v rfl
          unfold nxv
          go_simp
          refine hK.out _ ?_
          clear hK K
          iterate 1 (
            apply Lw.one ?_ rfl
            · intro w1 hw
              obtain ⟨k0, ⟨p0, p1, p2, p3, p4, p5, p6⟩, ⟨q0, q1, q2, q3, q4, q5⟩⟩ := HF9.out _ hw
              have hx1 := HXL.out
              have hm1 : (m : Int) < 8 := by have := HM8.out; omega
              go_simp
              exact rfl
            intro K hK
            go_simp
            refine hK.out _ ?_
            clear hK K)
          rotate_left
          exact []
          refine Lw.fin ?_
          intro v6 hm6
          clear HF9
          obtain ⟨p0, p1, p2, p3, p4, p5, p6⟩ := HCB.out _ hm6
          replace BS := BS.keep hm6
          replace BR := BR.keep hm6
          replace BV := BV.keep hm6
          replace HB := HB.call hm6
          clear hm6 HCB HCX BVH HXX HTO2
          have zV := BV.frz
          go_wp2_with fail
          clear p0 p1 p2 p3 p4 p5 p6 zV
          go_roundg (g0 - 1)
          case measure => have := HK.out; have := hjl.out; omega
          case rel =>
            have hjl := hjl.out
            have hm8 := HM8.out
            refine ⟨j + 1, updB F m fr, by have := HK.out; omega, by go_num, HF2.out.symm, fun i => ?_, ?_, ?_, ?_, ?_⟩
            · unfold updB
              split
              · exact HFM.out
              · have := HCC.out i; omega
            · (repeat (refine Lp.Bk.seto ?_ (by dsimp only; omega) _)); exact BS
            · (repeat (refine Lp.Bk.seto ?_ (by dsimp only; omega) _)); exact BR
            · have := ((((((BV.set (m * 7) (.int .i64 (fr.1 : Int))).set (m * 7 + 1) (.float .f64 fr.2.a0)).set (m * 7 + 2) (.float .f64 fr.2.a1)).set (m * 7 + 3) (.float .f64 fr.2.a2)).set (m * 7 + 4) (.float .f64 fr.2.a3)).set (m * 7 + 5) (.float .f64 fr.2.a4)).set (m * 7 + 6) (.float .f64 fr.2.a5)
              rw [binA_set F m hm8 fr] at this
              exact this
            · (repeat (refine Below.setCell ?_ (by dsimp only; omega) _)); exact HB
        · have hd : ((j : Int) < (l.length : Int)) = False := eq_false (by omega)
          have hjl : j = l.length := by have := HK.out; omega
          subst hjl
          have hFe := HFF.out
          rw [List.take_of_length_le (Nat.le_refl _)] at hFe
          subst hFe
          have HZS2 := HZS.out
          clear hj
          go_wp2_with fail
          refine HK2.out _ _ ?_
          clear HK2
          refine wp_seq (wp_region_lit ?_)
          refine wpList_load_row rfl 138 (.tmp 7) rfl (w.heap.size + 1 + 1) rfl 138 _ (0, 0) _ BV under_bins rfl ?_ ?_
          · rw [binA_size]; exact size_bins
          refine wpList_store_row rfl 138 (.tmp 6) (.tmp 43) rfl (w.heap.size + 1) _ rfl rfl 138 Z2 BR ?_ ?_ ?_ ?_
          · rw [binA_size]; exact size_bins
          · rw [binA_size]; exact HZS2
          · exact binA_one _
          refine wpList_nil ?_
          refine wp_ret ?_
          have BRR := setRow_bk BR (cs := binA (binsG (fun i => (binF lo hi (keyT T k i)).toNat) T l))
          have HCL := setRow_cl HB (b := w.heap.size + 1) (cs := binA (binsG (fun i => (binF lo hi (keyT T k i)).toNat) T l)) (by omega)
          refine bodyPost_ret (results_cell_row (p := 6) (ty := 138) (by kernel_rfl) _ _ (w.heap.size + 1) 138 _ (0, 0) _ rfl BRR under_bins rfl (by rw [binA_size]; exact size_bins)) rfl ⟨_, rfl, rfl, HCL⟩

end Go.Proofs.YtiblmojdjnfoaaaGreat

namespace Go.Proofs.YtiblmojdjnfoaaaGreat
open Go.RowKit Fl Lm

/-- What it costs to part the bins at the k-th. -/
def cP (F : Nat → Nat × Bx) (k : Nat) : Nat := sumC (gat F k) (gat (fun j => F (k + j)) (8 - k))
theorem Bk.low {w : World} {b : Nat} {F : Nat → Nat × Bx} {t : TypeId} (h : Lp.Bk w b (binA F) t) {k : Nat} (hk : k ≤ 8) : Sl w (some ⟨b, 0, none⟩) k 7 fun i => ncs (F i) := .inr ⟨b, 0, rfl, (Bk.els h).less hk⟩
theorem Bk.high {w : World} {b : Nat} {F : Nat → Nat × Bx} {t : TypeId} (h : Lp.Bk w b (binA F) t) {k : Nat} (hk : k ≤ 8) : Sl w (some ⟨b, k * 7, none⟩) (8 - k) 7 fun i => ncs (F (k + i)) :=
  .inr ⟨b, k * 7, rfl, by have := (Bk.els h).part (m := k) (l := 8 - k) (by omega); rwa [Nat.zero_add] at this⟩

set_option maxRecDepth 100000 in
set_option maxHeartbeats 1000000 in
theorem cheapest_any (F : Nat → Nat × Bx) (hF : ∀ i, i < 8 → (F i).1 ≤ 512) (hc : ∀ k, 1 ≤ k → k ≤ 7 → Num (cP F k)) (w : World) : Ret Tryz.prog 93 #[.agg (binA F)] w (fun v => v = .int .i64 ((bestP (cP F) 7).1 : Int)) := by
  unfold Ret
  have HF := aside hF
  have HC := aside hc
  have HTL := hid (fun k (hk : k ≤ 8) (w' : World) (h : Sl w' (some ⟨w.heap.size, 0, none⟩) k 7 fun i => ncs (F i)) => together_any F k 8 _ w' h hk (fun i hi => hF i (by omega)))
  have HTH := hid (fun k (hk : k ≤ 8) (w' : World) (h : Sl w' (some ⟨w.heap.size, k * 7, none⟩) (8 - k) 7 fun i => ncs (F (k + i))) => together_any (fun i => F (k + i)) (8 - k) (8 - k) _ w' h (by omega) (fun i hi => hF (k + i) (by omega)))
  unfold nxv at HTL HTH
  have HB2 := hid (Lp.Bk.al w (binA F) 138)
  clear hF hc
  go_enter Tryz.func93, Tryz.ntmps93
  have HB3 : Hid (∀ k, k ≤ 8 → ∀ w1, Below (w.alloc (.cells (binA F) 138)).heap.size (w.alloc (.cells (binA F) 138)) w1 → Sl w1 (some ⟨w.heap.size, 0, none⟩) k 7 (fun i => ncs (F i)) ∧ Sl w1 (some ⟨w.heap.size, k * 7, none⟩) (8 - k) 7 (fun i => ncs (F (k + i)))) := fun k hk w1 hw => ⟨Bk.low (HB2.out.keep hw) hk, Bk.high (HB2.out.keep hw) hk⟩
  clear HB2
  generalize binA F = Z at *
  go_wp2_with fail
  refine Calls.mono (inf_pos _) ?_
  rintro e w' ⟨rfl, hw⟩
  obtain rfl := hw.symm
  clear hw
  go_wp2_with fail
  go_loopg [3, 4, 5] 7 (fun kk b l i wr => ∃ (j : Nat), kk + j = 7 ∧ i = .int .i64 ((j : Int) + 1) ∧ b = .int .i64 ((bestP (cP F) j).1 : Int) ∧ l = .float .f64 (bestP (cP F) j).2 ∧ Below (w.alloc (.cells Z 138)).heap.size (w.alloc (.cells Z 138)) wr)
  case atStart => exact ⟨0, Nat.add_zero _, rfl, rfl, rfl, Below.refl _ _⟩
  case round =>
    obtain ⟨g0, hg0⟩ : ∃ g0, g0 = gk := ⟨_, rfl⟩
    subst hg0
    obtain ⟨j, hk, rfl, rfl, rfl, HB⟩ := hrel
    have HK := aside hk
    clear hk
    by_cases hj : j < 7
    · have hd : ((j : Int) + 1 < 8) = True := eq_true (by omega)
      have hn := HC.out (j + 1) (by omega) (by omega)
      have HN := aside (not_nan_num hn)
      have HCP := aside (show cP F (j + 1) = fadd (costF (gat F (j + 1)).2 (gat F (j + 1)).1) (costF (gat (fun i => F (j + 1 + i)) (8 - (j + 1))).2 (gat (fun i => F (j + 1 + i)) (8 - (j + 1))).1) from rfl)
      have HST := aside (show bestP (cP F) (j + 1) = if ford (cP F (j + 1)) (bestP (cP F) j).2 == some .lt then (j + 1, cP F (j + 1)) else bestP (cP F) j from rfl)
      have HTL1 := hid (HTL.out (j + 1) (by omega))
      have HTH1 := hid (HTH.out (j + 1) (by omega))
      have HS1 := hid (HB3.out (j + 1) (by omega))
      have e8 : 8 - (j + 1) = 7 - j := by omega
      rw [e8] at HTH1 HS1 HCP
      clear e8
      generalize gat F (j + 1) = x1 at *
      generalize gat (fun i => F (j + 1 + i)) (7 - j) = x2 at *
      generalize cP F (j + 1) = c at *
      generalize bestP (cP F) j = bl at *
      have hjl := aside hj
      have hj7 : j ≤ 6 := by omega
      have e1 : ((j : Int) + 1).toNat = j + 1 := by omega
      have hh1 : 0 ≤ (j : Int) + 1 := by omega
      have hh2 : (j : Int) + 1 ≤ 8 := by omega
      have hh3 : (8 = j + 1) = False := eq_false (by omega)
      have hh4 : (j + 1 = 8) = False := eq_false (by omega)
      have hh5 : (j = 7) = False := eq_false (by omega)
      have hh6 : (7 = j) = False := eq_false (by omega)
      have e2 : (8 - ((j : Int) + 1)).toNat = 8 - (j + 1) := by omega
      clear hj hn
      have HS2 := hid (fun w1 (hw : Below wr.heap.size wr w1) => HS1.out _ (HB.trans (hw.mono HB.size)))
      clear HS1
      go_wp2_with fail
      apply Lw.region _ _ 10 (by kernel_rfl) (by kernel_rfl) (by kernel_rfl) (Below.refl _ _)
      iterate 2 (
        apply Lw.one ?_ rfl
        · intro w hw
          go_simp
          exact rfl
        intro K hK
        go_simp
        refine hK.out _ ?_
        clear hK K)
      apply Lw.any rfl
      · intro w hw
        go_simp
        exact Lw.ret (HTL1.out _ (HS2.out _ hw).1)
      intro K hK
      rintro v rfl
      go_simp
      refine hK.out _ ?_
      clear hK K
      apply Lw.any rfl
      · intro w hw
        go_simp
        exact Lw.ret (cost_any x1 _)
      intro K hK
      rintro v ⟨r1, rfl, hr1⟩
      go_simp
      refine hK.out _ ?_
      clear hK K
      iterate 2 (
        apply Lw.one ?_ rfl
        · intro w hw
          go_simp
          exact rfl
        intro K hK
        go_simp
        refine hK.out _ ?_
        clear hK K)
      apply Lw.any rfl
      · intro w hw
        go_simp
        exact Lw.ret (HTH1.out _ (HS2.out _ hw).2)
      intro K hK
      rintro v rfl
      go_simp
      refine hK.out _ ?_
      clear hK K
      apply Lw.any rfl
      · intro w hw
        go_simp
        exact Lw.ret (cost_any x2 _)
      intro K hK
      rintro v ⟨r2, rfl, hr2⟩
      go_simp
      refine hK.out _ ?_
      clear hK K
      apply Lw.any rfl
      · intro w hw
        go_simp
        exact Lw.add (by first | exact Eqv.sm (by assumption) | exact Sm.refl _) (by first | exact Eqv.sm (by assumption) | exact Sm.refl _)
      intro K hK
      rintro v ⟨rq0, rfl, hq0⟩
      go_simp
      refine hK.out _ ?_
      clear hK K
      iterate 1 (
        apply Lw.one ?_ rfl
        · intro w hw
          go_simp
          exact rfl
        intro K hK
        go_simp
        refine hK.out _ ?_
        clear hK K)
      rotate_left
      exact []
      refine Lw.fin ?_
      intro v7 hm
      replace HB := HB.trans (hm.mono HB.size)
      clear hm HTL1 HTH1 HS2
      have hr : rq0 = c := ((hq0.sm.trans (Sm.of_eq HCP.out.symm)).symm.eq HN.out).symm
      subst hr
      have hp : (FloatKind.f64.format.order rq0 bl.2 == some .lt) = (ford rq0 bl.2 == some .lt) := rfl
      generalize (ford rq0 bl.2 == some .lt) = p at hp HST
      cases p
      · have HST2 := aside (HST.out.trans (if_neg Bool.false_ne_true))
        clear HST
        go_wp2_with fail
        go_roundg (g0 - 1)
        case measure => have := HK.out; have := hjl.out; omega
        case rel => exact ⟨j + 1, by have := HK.out; have := hjl.out; omega, by go_num, by rw [HST2.out], by rw [HST2.out], HB⟩
      · have HST2 := aside (HST.out.trans (if_pos rfl))
        clear HST
        go_wp2_with fail
        go_roundg (g0 - 1)
        case measure => have := HK.out; have := hjl.out; omega
        case rel => exact ⟨j + 1, by have := HK.out; have := hjl.out; omega, by go_num, by rw [HST2.out]; go_num, by rw [HST2.out], HB⟩
    · have hd : ((j : Int) + 1 < 8) = False := eq_false (by omega)
      have hj8 : j = 7 := by have := HK.out; omega
      subst hj8
      clear hj
      generalize hbl : bestP (cP F) 7 = bl at *
      have HBL := aside hbl
      clear hbl
      go_wp2_with fail
      go_ret
      exact ⟨_, rfl, by rw [HBL.out]; rfl, ((Below.refl _ _).alloc (Nat.le_refl _) _).trans (HB.mono (by simp))⟩

end Go.Proofs.YtiblmojdjnfoaaaGreat
