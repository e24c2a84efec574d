/- Package bvh: around, amid: the box of all that a list names, and of their middles. How two numbers of triangles are held against each other: cmp.Compare, cmp.Or, and the function of an axis. What a call owns: rows that lie apart, from some block on; what append leaves. The types' data. Package bvh: together, cost. Package bvh: binner: the function that tells a number's bin. -/
import Derived.Deep.LoopGhost
import Derived.Sort.Grow
import Derived.Laws.MakeOwn
import Derived.Test.YtijoaklknpkdoaaG9
import Derived.Test.YtijoaklknpkdoaaG7
import Derived.Test.YtijoaklknpkdoaaG5
namespace Go.Proofs.Ytijoaklknpkdoaa
open Go.RowKit Fl Lm

/-- Shapes in memory: of each triangle its box, and that box's middle. -/
structure Shp (T : Nat → Tr) (w : World) (n : Nat) (ab am : Option Addr) : Prop where
  bx : Sl w ab n 6 fun i => bcs (T i).box
  md : Sl w am n 3 fun i => pcs (T i).box.mid
theorem Shp.keep {T : Nat → Tr} {w w' : World} {n : Nat} {ab am : Option Addr} (h : Shp T w n ab am) (hb : Below w.heap.size w w') : Shp T w' n ab am := ⟨h.bx.keep hb, h.md.keep hb⟩
theorem bxs_more (T : Nat → Tr) {l : List Nat} {j : Nat} (hj : j < l.length) : bxs T (l.take (j + 1)) = (bxs T (l.take j)).join (T (l.getD j 0)).box := by
  unfold bxs; rw [take_more hj, List.map_append]; exact Bx.all_snoc _ _
theorem mds_more (T : Nat → Tr) {l : List Nat} {j : Nat} (hj : j < l.length) : mds T (l.take (j + 1)) = (mds T (l.take j)).join (T (l.getD j 0)).box.midpt := by
  unfold mds; rw [take_more hj, List.map_append]; exact Bx.all_snoc _ _

set_option maxRecDepth 100000 in
set_option maxHeartbeats 600000 in
theorem around_any (T : Nat → Tr) (n cb cm cl : Nat) (ab am ao : Option Addr) (l : List Nat) (w : World) (hS : Shp T w n ab am) (hL : Sl w ao l.length 1 (lvs l)) (hl : ∀ i, i ∈ l → i < n) (h5 : l.length ≤ 512) :
    Ret Try.prog 25 #[.agg #[.slice ab n cb, .slice am n cm], .slice ao l.length cl] w (fun v => v = bxv (bxs T l)) := by
  unfold Ret
  have HS := hid hS
  have HL := hid hL
  have HM := aside hl
  clear hS hL hl
  go_enter Try.func25, Try.ntmps25
  go_wp2_with fail
  refine Lp.settleC (fun w' => Lp.Bk w' (w.heap.size) #[.slice ab n cb, .slice am n cm] 58 ∧ Lp.Bk w' (w.heap.size + 1) #[.float .f64 0, .float .f64 0, .float .f64 0, .float .f64 0, .float .f64 0, .float .f64 0] 27 ∧ Cl w w') ⟨(Lp.Bk.al _ _ _).alo _, Lp.Bk.al1 _ _ _ _, ((Below.refl _ _).alloc (by simp <;> omega) _).alloc (by simp <;> omega) _⟩ ?_
  rintro v1 ⟨BS, BR, HB⟩
  have kS := BS.cell
  have kR := BR.cell
  have nS0 : (w.heap.size = v1.heap.size) = False := eq_false (by have := BS.lt; omega)
  have mS0 : w.heap.size < v1.heap.size := by have := BS.lt; omega
  have nS1 : (w.heap.size = v1.heap.size + 1) = False := eq_false (by have := BS.lt; omega)
  have mS1 : w.heap.size < v1.heap.size + 1 := by have := BS.lt; omega
  have nR0 : (w.heap.size + 1 = v1.heap.size) = False := eq_false (by have := BR.lt; omega)
  have mR0 : w.heap.size + 1 < v1.heap.size := by have := BR.lt; omega
  have nR1 : (w.heap.size = v1.heap.size) = False := eq_false (by have := BR.lt; omega)
  have mR1 : w.heap.size < v1.heap.size := by have := BR.lt; omega
  refine Calls.mono (empty_any _) ?_
  rintro e v2 ⟨v, rfl, rfl, hm⟩
  clear kS kR nS0 mS0 nS1 mS1 nR0 mR0 nR1 mR1
  replace BS := BS.keep hm
  replace BR := BR.keep hm
  replace HB := HB.call hm
  clear hm
  have kS := BS.cell
  have kR := BR.cell
  have nS0 : (w.heap.size = v2.heap.size) = False := eq_false (by have := BS.lt; omega)
  have mS0 : w.heap.size < v2.heap.size := by have := BS.lt; omega
  have nS1 : (w.heap.size = v2.heap.size + 1) = False := eq_false (by have := BS.lt; omega)
  have mS1 : w.heap.size < v2.heap.size + 1 := by have := BS.lt; omega
  have nR0 : (w.heap.size + 1 = v2.heap.size) = False := eq_false (by have := BR.lt; omega)
  have mR0 : w.heap.size + 1 < v2.heap.size := by have := BR.lt; omega
  have nR1 : (w.heap.size = v2.heap.size) = False := eq_false (by have := BR.lt; omega)
  have mR1 : w.heap.size < v2.heap.size := by have := BR.lt; omega
  go_wp2_with fail
  clear kS kR nS0 mS0 nS1 mS1 nR0 mR0 nR1 mR1
  have HVS := aside BR.lt
  go_loopg [11] l.length (fun k i wr => ∃ (j : Nat) (b : Bx), k + j = l.length ∧ i = .int .i64 (j : Int) ∧ b = bxs T (l.take j) ∧ Lp.Bk wr (w.heap.size) #[.slice ab n cb, .slice am n cm] 58 ∧ Lp.Bk wr (w.heap.size + 1) #[.float .f64 0, .float .f64 0, .float .f64 0, .float .f64 0, .float .f64 0, .float .f64 0] 27 ∧ Lp.Bk wr (v2.heap.size) #[.float .f64 b.a0, .float .f64 b.a1, .float .f64 b.a2, .float .f64 b.a3, .float .f64 b.a4, .float .f64 b.a5] 27 ∧ Cl w wr)
  case atStart => exact ⟨0, Bx.none, Nat.add_zero _, rfl, rfl, BS.alo _, BR.alo _, Lp.Bk.al _ _ _, HB.alloc _⟩
  case round =>
    clear BS BR HB
    obtain ⟨g0, hg0⟩ : ∃ g0, g0 = gk := ⟨_, rfl⟩
    subst hg0
    obtain ⟨j, b, hk, rfl, hb, BS, BR, BV, HB⟩ := hrel
    have HK := aside hk
    have HV := aside hb
    clear hk hb
    have hv := HVS.out
    by_cases hj : j < l.length
    · have hd : ((j : Int) < (l.length : Int)) = True := eq_true (by omega)
      have HV2 := aside (show bxs T (l.take (j + 1)) = b.join (T (l.getD j 0)).box by rw [HV.out]; exact bxs_more T hj)
      have hx := HM.out _ (getD_mem hj)
      obtain ⟨gl, ol, rfl, EL⟩ := (HL.out.keep HB).get hj
      obtain ⟨gb, ob, rfl, EX⟩ := (HS.out.bx.keep HB).get hx
      have kL := EL.num hj
      have hjl := aside hj
      have hj5 : j < 512 := by omega
      clear hj
      generalize l.getD j 0 = x at hx kL HV2
      have kS := BS.cell
      have kR := BR.cell
      have kV := BV.cell
      have nS0 : (w.heap.size = wr.heap.size) = False := eq_false (by have := BS.lt; omega)
      have mS0 : w.heap.size < wr.heap.size := by have := BS.lt; omega
      have nS1 : (w.heap.size = wr.heap.size + 1) = False := eq_false (by have := BS.lt; omega)
      have mS1 : w.heap.size < wr.heap.size + 1 := by have := BS.lt; omega
      have nR0 : (w.heap.size + 1 = wr.heap.size) = False := eq_false (by have := BR.lt; omega)
      have mR0 : w.heap.size + 1 < wr.heap.size := by have := BR.lt; omega
      have nR1 : (w.heap.size = wr.heap.size) = False := eq_false (by have := BR.lt; omega)
      have mR1 : w.heap.size < wr.heap.size := by have := BR.lt; omega
      have nV0 : (v2.heap.size = wr.heap.size) = False := eq_false (by have := BV.lt; omega)
      have mV0 : v2.heap.size < wr.heap.size := by have := BV.lt; omega
      have nV1 : (v2.heap.size = wr.heap.size + 1) = False := eq_false (by have := BV.lt; omega)
      have mV1 : v2.heap.size < wr.heap.size + 1 := by have := BV.lt; omega
      go_wp2_with fail
      clear kS kR kV nS0 mS0 nS1 mS1 nR0 mR0 nR1 mR1 nV0 mV0 nV1 mV1
      clear kL
      apply Lw.region _ _ 7 (by kernel_rfl) (by kernel_rfl) (by kernel_rfl) (Below.refl _ _)
      apply Lw.facts
      · intro w1 hw
        exact And.intro (BS.cl hw).cell (And.intro (BV.cl hw).cell ((bat (EX.keep hw) hx)))
      intro HF
      iterate 6 (
        apply Lw.one ?_ rfl
        · intro w hw
          obtain ⟨k0, k1, ⟨k4, k5, k6, k7, k8, k9⟩⟩ := HF.out _ hw
          go_simp
          exact rfl
        intro K hK
        go_simp
        refine hK.out _ ?_
        clear hK K)
      apply Lw.any rfl
      · intro w hw
        go_simp
        exact Lw.ret (join_any _ _ _ _ _ _ _ _ _ _ _ _ _)
      intro K hK
      rintro v rfl
      go_simp
      refine hK.out _ ?_
      clear hK K
      rotate_left
      exact []
      refine Lw.fin ?_
      intro v7 hm
      replace BS := BS.keep hm
      replace BR := BR.keep hm
      replace BV := BV.keep hm
      replace HB := HB.call hm
      clear hm EX EL
      have kV := BV.cell
      have zV := BV.frz
      go_wp2_with fail
      go_roundg (g0 - 1)
      case measure => have := HK.out; have := hjl.out; omega
      case rel =>
        have := HB.size
        have hjl := hjl.out
        refine ⟨j + 1, b.join (T x).box, by have := HK.out; omega, by go_num, HV2.out.symm, ?_, ?_, BV.set6, ?_⟩
        · (repeat (refine Lp.Bk.seto ?_ (by dsimp only; omega) _)); exact BS
        · (repeat (refine Lp.Bk.seto ?_ (by dsimp only; omega) _)); exact BR
        · (repeat (refine Below.setCell ?_ (by dsimp only; omega) _)); exact HB
    · have hd : ((j : Int) < (l.length : Int)) = False := eq_false (by omega)
      have hjl : j = l.length := by have := HK.out; omega
      subst hjl
      have HV2 := aside (show bxv b = bxv (bxs T l) by rw [HV.out, List.take_of_length_le (Nat.le_refl _)])
      clear hj
      have kV := BV.cell
      have kR := BR.cell
      have zR := BR.frz
      go_wp2_with fail
      refine bodyPost_ret (v := bxv b) (by simp [results, go_sem, kR, bxv]) rfl ⟨_, rfl, HV2.out, ?_⟩
      repeat (refine Below.setCell ?_ (by dsimp only; omega) _)
      exact HB

set_option maxRecDepth 100000 in
set_option maxHeartbeats 600000 in
theorem amid_any (T : Nat → Tr) (n cb cm cl : Nat) (ab am ao : Option Addr) (l : List Nat) (w : World) (hS : Shp T w n ab am) (hL : Sl w ao l.length 1 (lvs l)) (hl : ∀ i, i ∈ l → i < n) (h5 : l.length ≤ 512) :
    Ret Try.prog 29 #[.agg #[.slice ab n cb, .slice am n cm], .slice ao l.length cl] w (fun v => v = bxv (mds T l)) := by
  unfold Ret
  have HS := hid hS
  have HL := hid hL
  have HM := aside hl
  clear hS hL hl
  go_enter Try.func29, Try.ntmps29
  go_wp2_with fail
  refine Lp.settleC (fun w' => Lp.Bk w' (w.heap.size) #[.slice ab n cb, .slice am n cm] 58 ∧ Lp.Bk w' (w.heap.size + 1) #[.float .f64 0, .float .f64 0, .float .f64 0, .float .f64 0, .float .f64 0, .float .f64 0] 27 ∧ Cl w w') ⟨(Lp.Bk.al _ _ _).alo _, Lp.Bk.al1 _ _ _ _, ((Below.refl _ _).alloc (by simp <;> omega) _).alloc (by simp <;> omega) _⟩ ?_
  rintro v1 ⟨BS, BR, HB⟩
  have kS := BS.cell
  have kR := BR.cell
  have nS0 : (w.heap.size = v1.heap.size) = False := eq_false (by have := BS.lt; omega)
  have mS0 : w.heap.size < v1.heap.size := by have := BS.lt; omega
  have nS1 : (w.heap.size = v1.heap.size + 1) = False := eq_false (by have := BS.lt; omega)
  have mS1 : w.heap.size < v1.heap.size + 1 := by have := BS.lt; omega
  have nR0 : (w.heap.size + 1 = v1.heap.size) = False := eq_false (by have := BR.lt; omega)
  have mR0 : w.heap.size + 1 < v1.heap.size := by have := BR.lt; omega
  have nR1 : (w.heap.size = v1.heap.size) = False := eq_false (by have := BR.lt; omega)
  have mR1 : w.heap.size < v1.heap.size := by have := BR.lt; omega
  refine Calls.mono (empty_any _) ?_
  rintro e v2 ⟨v, rfl, rfl, hm⟩
  clear kS kR nS0 mS0 nS1 mS1 nR0 mR0 nR1 mR1
  replace BS := BS.keep hm
  replace BR := BR.keep hm
  replace HB := HB.call hm
  clear hm
  have kS := BS.cell
  have kR := BR.cell
  have nS0 : (w.heap.size = v2.heap.size) = False := eq_false (by have := BS.lt; omega)
  have mS0 : w.heap.size < v2.heap.size := by have := BS.lt; omega
  have nS1 : (w.heap.size = v2.heap.size + 1) = False := eq_false (by have := BS.lt; omega)
  have mS1 : w.heap.size < v2.heap.size + 1 := by have := BS.lt; omega
  have nR0 : (w.heap.size + 1 = v2.heap.size) = False := eq_false (by have := BR.lt; omega)
  have mR0 : w.heap.size + 1 < v2.heap.size := by have := BR.lt; omega
  have nR1 : (w.heap.size = v2.heap.size) = False := eq_false (by have := BR.lt; omega)
  have mR1 : w.heap.size < v2.heap.size := by have := BR.lt; omega
  go_wp2_with fail
  clear kS kR nS0 mS0 nS1 mS1 nR0 mR0 nR1 mR1
  have HVS := aside BR.lt
  go_loopg [11] l.length (fun k i wr => ∃ (j : Nat) (b : Bx), k + j = l.length ∧ i = .int .i64 (j : Int) ∧ b = mds T (l.take j) ∧ Lp.Bk wr (w.heap.size) #[.slice ab n cb, .slice am n cm] 58 ∧ Lp.Bk wr (w.heap.size + 1) #[.float .f64 0, .float .f64 0, .float .f64 0, .float .f64 0, .float .f64 0, .float .f64 0] 27 ∧ Lp.Bk wr (v2.heap.size) #[.float .f64 b.a0, .float .f64 b.a1, .float .f64 b.a2, .float .f64 b.a3, .float .f64 b.a4, .float .f64 b.a5] 27 ∧ Cl w wr)
  case atStart => exact ⟨0, Bx.none, Nat.add_zero _, rfl, rfl, BS.alo _, BR.alo _, Lp.Bk.al _ _ _, HB.alloc _⟩
  case round =>
    clear BS BR HB
    obtain ⟨g0, hg0⟩ : ∃ g0, g0 = gk := ⟨_, rfl⟩
    subst hg0
    obtain ⟨j, b, hk, rfl, hb, BS, BR, BV, HB⟩ := hrel
    have HK := aside hk
    have HV := aside hb
    clear hk hb
    have hv := HVS.out
    by_cases hj : j < l.length
    · have hd : ((j : Int) < (l.length : Int)) = True := eq_true (by omega)
      have HV2 := aside (show mds T (l.take (j + 1)) = b.join (T (l.getD j 0)).box.midpt by rw [HV.out]; exact mds_more T hj)
      have hx := HM.out _ (getD_mem hj)
      obtain ⟨gl, ol, rfl, EL⟩ := (HL.out.keep HB).get hj
      obtain ⟨gb, ob, rfl, EX⟩ := (HS.out.md.keep HB).get hx
      have kL := EL.num hj
      have hjl := aside hj
      have hj5 : j < 512 := by omega
      clear hj
      generalize l.getD j 0 = x at hx kL HV2
      have kS := BS.cell
      have kR := BR.cell
      have kV := BV.cell
      have nS0 : (w.heap.size = wr.heap.size) = False := eq_false (by have := BS.lt; omega)
      have mS0 : w.heap.size < wr.heap.size := by have := BS.lt; omega
      have nS1 : (w.heap.size = wr.heap.size + 1) = False := eq_false (by have := BS.lt; omega)
      have mS1 : w.heap.size < wr.heap.size + 1 := by have := BS.lt; omega
      have nR0 : (w.heap.size + 1 = wr.heap.size) = False := eq_false (by have := BR.lt; omega)
      have mR0 : w.heap.size + 1 < wr.heap.size := by have := BR.lt; omega
      have nR1 : (w.heap.size = wr.heap.size) = False := eq_false (by have := BR.lt; omega)
      have mR1 : w.heap.size < wr.heap.size := by have := BR.lt; omega
      have nV0 : (v2.heap.size = wr.heap.size) = False := eq_false (by have := BV.lt; omega)
      have mV0 : v2.heap.size < wr.heap.size := by have := BV.lt; omega
      have nV1 : (v2.heap.size = wr.heap.size + 1) = False := eq_false (by have := BV.lt; omega)
      have mV1 : v2.heap.size < wr.heap.size + 1 := by have := BV.lt; omega
      go_wp2_with fail
      clear kS kR kV nS0 mS0 nS1 mS1 nR0 mR0 nR1 mR1 nV0 mV0 nV1 mV1
      clear kL
      apply Lw.region _ _ 7 (by kernel_rfl) (by kernel_rfl) (by kernel_rfl) (Below.refl _ _)
      apply Lw.facts
      · intro w1 hw
        exact And.intro (BS.cl hw).cell (And.intro (BV.cl hw).cell ((pat (EX.keep hw) hx)))
      intro HF
      iterate 6 (
        apply Lw.one ?_ rfl
        · intro w hw
          obtain ⟨k0, k1, ⟨k4, k5, k6⟩⟩ := HF.out _ hw
          go_simp
          exact rfl
        intro K hK
        go_simp
        refine hK.out _ ?_
        clear hK K)
      apply Lw.any rfl
      · intro w hw
        go_simp
        exact Lw.ret (grow_any _ _ _ _ _ _ _ _ _ _)
      intro K hK
      rintro v rfl
      go_simp
      refine hK.out _ ?_
      clear hK K
      rotate_left
      exact []
      refine Lw.fin ?_
      intro v7 hm
      replace BS := BS.keep hm
      replace BR := BR.keep hm
      replace BV := BV.keep hm
      replace HB := HB.call hm
      clear hm EX EL
      have kV := BV.cell
      have zV := BV.frz
      go_wp2_with fail
      go_roundg (g0 - 1)
      case measure => have := HK.out; have := hjl.out; omega
      case rel =>
        have := HB.size
        have hjl := hjl.out
        refine ⟨j + 1, b.join (T x).box.midpt, by have := HK.out; omega, by go_num, HV2.out.symm, ?_, ?_, BV.set6, ?_⟩
        · (repeat (refine Lp.Bk.seto ?_ (by dsimp only; omega) _)); exact BS
        · (repeat (refine Lp.Bk.seto ?_ (by dsimp only; omega) _)); exact BR
        · (repeat (refine Below.setCell ?_ (by dsimp only; omega) _)); exact HB
    · have hd : ((j : Int) < (l.length : Int)) = False := eq_false (by omega)
      have hjl : j = l.length := by have := HK.out; omega
      subst hjl
      have HV2 := aside (show bxv b = bxv (mds T l) by rw [HV.out, List.take_of_length_le (Nat.le_refl _)])
      clear hj
      have kV := BV.cell
      have kR := BR.cell
      have zR := BR.frz
      go_wp2_with fail
      refine bodyPost_ret (v := bxv b) (by simp [results, go_sem, kR, bxv]) rfl ⟨_, rfl, HV2.out, ?_⟩
      repeat (refine Below.setCell ?_ (by dsimp only; omega) _)
      exact HB

end Go.Proofs.Ytijoaklknpkdoaa

namespace Go.Proofs.Ytijoaklknpkdoaa
open Go.RowKit Fl Lm

/-- What was there is as it was; no draw is given back. -/
structure Gr (w w' : World) : Prop where
  bel : Below w.heap.size w w'
  drawn : w.drawn ≤ w'.drawn
section
variable {w w' w'' : World}
theorem Gr.refl (w : World) : Gr w w := ⟨Below.refl _ _, Nat.le_refl _⟩
theorem Gr.trans (h : Gr w w') (k : Gr w' w'') : Gr w w'' := ⟨h.bel.trans (k.bel.mono h.bel.size), Nat.le_trans h.drawn k.drawn⟩
theorem Gr.alloc (h : Gr w w') (o : Obj) : Gr w (w'.alloc o) := ⟨Below.alloc h.bel h.bel.size o, h.drawn⟩
theorem Gr.drew (h : Gr w w') : Gr w w'.drew := ⟨h.bel.drew, Nat.le_succ_of_le h.drawn⟩
theorem Gr.setCell (h : Gr w w') {p : Addr} (hp : w.heap.size ≤ p.block) (u : Value) : Gr w (w'.setCell p u) := ⟨Below.setCell h.bel hp u, h.drawn⟩
theorem Gr.eq (h : Gr w w') : ∃ q os, w' = Sort.grow (w.drewN q) os := by
  refine ⟨w'.drawn - w.drawn, w'.heap.extract w.heap.size w'.heap.size, ?_⟩
  have hh : w'.heap = w.heap ++ w'.heap.extract w.heap.size w'.heap.size := by
    apply Array.ext_getElem?
    intro k
    rw [Array.getElem?_append]
    by_cases hk : k < w.heap.size
    · rw [if_pos hk]; exact h.bel.block k hk
    · have := h.bel.size
      rw [if_neg hk, Array.getElem?_extract]
      by_cases hk2 : k < w'.heap.size
      · rw [if_pos (by omega), show w.heap.size + (k - w.heap.size) = k by omega]
      · rw [if_neg (by omega), Array.getElem?_eq_none (by omega)]
  have hd : w.drawn + (w'.drawn - w.drawn) = w'.drawn := by have := h.drawn; omega
  obtain ⟨h1, h2, h3, h4, h5⟩ := w'
  obtain ⟨e1, e2, e3, e4, e5⟩ := h.bel
  unfold Sort.grow World.drewN
  dsimp only at *
  rw [← hh, hd, e1, e2, e3]
theorem Gr.along (W : World) : Lw.Along Gr (Gr W) := fun _ _ hr h => h.trans hr
end
/-- A call that only grows. -/
def RetG (P : Program) (f : FuncId) (args : Array Value) (w : World) (V : Value → Prop) : Prop :=
  Calls P f args w fun e w' => ∃ v, e = .returned v ∧ V v ∧ Gr w w'
theorem RetG.ret {P : Program} {f : FuncId} {args : Array Value} {w : World} {V : Value → Prop} (h : RetG P f args w V) : Ret P f args w V :=
  Calls.mono h fun _ _ ⟨v, he, hv, hg⟩ => ⟨v, he, hv, hg.bel⟩
theorem retG {P : Program} {f : FuncId} {args : Array Value} {w : World} {V : Value → Prop} (h : RetG P f args w V) : Lw.Upon P Gr w (fun v _ => V v) (.ok (.enter f args) w) := h

set_option maxRecDepth 100000 in
set_option maxHeartbeats 1000000 in
theorem gpart_any (p : V3) (i : Int) (w : World) : RetG Try.prog 21 #[.agg #[.float .f64 p.x, .float .f64 p.y, .float .f64 p.z], .int .i64 i] w (fun v => v = .float .f64 (partV p i)) := by
  unfold RetG partV partF
  by_cases h0 : i = 0
  · subst h0
    go_enter Try.func21, Try.ntmps21
    go_wp2_with fail
    go_ret
    exact ⟨_, rfl, rfl, (Gr.refl _).alloc _⟩
  · by_cases h1 : i = 1
    · subst h1
      go_enter Try.func21, Try.ntmps21
      go_wp2_with fail
      go_ret
      exact ⟨_, rfl, rfl, (Gr.refl _).alloc _⟩
    · rw [if_neg h0, if_neg h1]
      have b0 : (i == 0) = false := by simpa using h0
      have b1 : (i == 1) = false := by simpa using h1
      clear h0 h1
      go_enter Try.func21, Try.ntmps21
      go_wp2_with fail
      go_ret
      exact ⟨_, rfl, rfl, (Gr.refl _).alloc _⟩

set_option maxRecDepth 100000 in
set_option maxHeartbeats 1000000 in
theorem fnan_any {x : Nat} (h : Num x) (w : World) : Calls Try.prog 86 #[.float .f64 x] w fun e w' => e = .returned (.bool false) ∧ w' = w := by
  have hp : (FloatKind.f64.format.order x x != some .eq) = false := by
    have : (FloatKind.f64.format.order x x == some .eq) = true := eq_self h
    simp [bne, this]
  clear h
  go_enter Try.func86, Try.ntmps86
  go_wp2_with fail
  go_ret
  exact ⟨rfl, rfl⟩

set_option maxRecDepth 100000 in
set_option maxHeartbeats 1000000 in
theorem inan_any (x : Int) (w : World) : Calls Try.prog 87 #[.int .i64 x] w fun e w' => e = .returned (.bool false) ∧ w' = w := by
  have hp : (x != x) = false := by simp
  go_enter Try.func87, Try.ntmps87
  go_wp2_with fail
  go_ret
  exact ⟨rfl, rfl⟩

/-- -1: less; 1: greater. -/
def cmpF (x y : Nat) : Int := if (ford x y == some .lt) = true then -1 else if (ford x y == some .gt) = true then 1 else 0
def cmpI (x y : Int) : Int := if x < y then -1 else if y < x then 1 else 0

set_option maxRecDepth 100000 in
set_option maxHeartbeats 1000000 in
theorem fcmp_any {x y : Nat} (hx : Num x) (hy : Num y) (w : World) : Calls Try.prog 63 #[.float .f64 x, .float .f64 y] w fun e w' => e = .returned (.int .i64 (cmpF x y)) ∧ w' = w := by
  have HX := hid (fun w => fnan_any hx w)
  have HY := hid (fun w => fnan_any hy w)
  clear hx hy
  unfold cmpF
  have hp : (FloatKind.f64.format.order x y == some .lt) = (ford x y == some .lt) := rfl
  have hq : (FloatKind.f64.format.order x y == some .gt) = (ford x y == some .gt) := rfl
  generalize (ford x y == some .lt) = p at hp ⊢
  generalize (ford x y == some .gt) = q at hq ⊢
  cases p
  · cases q <;>
    · go_enter Try.func63, Try.ntmps63
      go_wp2_with fail
      refine Calls.mono (HX.out _) ?_
      rintro e w' ⟨rfl, hw⟩
      obtain rfl := hw.symm
      clear hw
      go_wp2_with fail
      refine Calls.mono (HY.out _) ?_
      rintro e w' ⟨rfl, hw⟩
      obtain rfl := hw.symm
      clear hw
      go_wp2_with fail
      go_ret
      exact ⟨rfl, rfl⟩
  · go_enter Try.func63, Try.ntmps63
    go_wp2_with fail
    refine Calls.mono (HX.out _) ?_
    rintro e w' ⟨rfl, hw⟩
    obtain rfl := hw.symm
    clear hw
    go_wp2_with fail
    refine Calls.mono (HY.out _) ?_
    rintro e w' ⟨rfl, hw⟩
    obtain rfl := hw.symm
    clear hw
    go_wp2_with fail
    go_ret
    exact ⟨rfl, rfl⟩

set_option maxRecDepth 100000 in
set_option maxHeartbeats 1000000 in
theorem icmp_any (x y : Int) (w : World) : Calls Try.prog 64 #[.int .i64 x, .int .i64 y] w fun e w' => e = .returned (.int .i64 (cmpI x y)) ∧ w' = w := by
  unfold cmpI
  by_cases h1 : x < y
  · have d1 : (x < y) = True := eq_true h1
    rw [if_pos h1]
    go_enter Try.func64, Try.ntmps64
    go_wp2_with fail
    refine Calls.mono (inan_any _ _) ?_
    rintro e w' ⟨rfl, hw⟩
    obtain rfl := hw.symm
    clear hw
    go_wp2_with fail
    refine Calls.mono (inan_any _ _) ?_
    rintro e w' ⟨rfl, hw⟩
    obtain rfl := hw.symm
    clear hw
    go_wp2_with fail
    go_ret
    exact ⟨rfl, rfl⟩
  · have d1 : (x < y) = False := eq_false h1
    rw [if_neg h1]
    by_cases h2 : y < x
    · have d2 : (y < x) = True := eq_true h2
      rw [if_pos h2]
      go_enter Try.func64, Try.ntmps64
      go_wp2_with fail
      refine Calls.mono (inan_any _ _) ?_
      rintro e w' ⟨rfl, hw⟩
      obtain rfl := hw.symm
      clear hw
      go_wp2_with fail
      refine Calls.mono (inan_any _ _) ?_
      rintro e w' ⟨rfl, hw⟩
      obtain rfl := hw.symm
      clear hw
      go_wp2_with fail
      go_ret
      exact ⟨rfl, rfl⟩
    · have d2 : (y < x) = False := eq_false h2
      rw [if_neg h2]
      go_enter Try.func64, Try.ntmps64
      go_wp2_with fail
      refine Calls.mono (inan_any _ _) ?_
      rintro e w' ⟨rfl, hw⟩
      obtain rfl := hw.symm
      clear hw
      go_wp2_with fail
      refine Calls.mono (inan_any _ _) ?_
      rintro e w' ⟨rfl, hw⟩
      obtain rfl := hw.symm
      clear hw
      go_wp2_with fail
      go_ret
      exact ⟨rfl, rfl⟩

def orI (x y : Int) : Int := if x = 0 then y else x

set_option maxRecDepth 100000 in
set_option maxHeartbeats 1000000 in
theorem or_any (x y : Int) (g : Nat) (w : World) (hB : Lp.Bk w g #[.int .i64 x, .int .i64 y] 3) : Calls Try.prog 62 #[.slice (some ⟨g, 0, none⟩) 2 2] w fun e w' => e = .returned (.int .i64 (orI x y)) ∧ w' = w := by
  have kB := hB.cell
  clear hB
  unfold orI
  by_cases h1 : x = 0
  · rw [if_pos h1]
    subst h1
    by_cases h2 : y = 0
    · subst h2
      go_enter Try.func62, Try.ntmps62
      go_wp2_with fail
      refine wp_loop_rounds 3 ?_
      rw [rounds_succ]
      go_wp2_with fail
      rw [rounds_succ]
      go_wp2_with fail
      rw [rounds_succ]
      go_wp2_with fail
      go_ret
      exact ⟨rfl, rfl⟩
    · have d2 : (y = 0) = False := eq_false h2
      have e2 : (y != 0) = true := by simpa using h2
      go_enter Try.func62, Try.ntmps62
      go_wp2_with fail
      refine wp_loop_rounds 2 ?_
      rw [rounds_succ]
      go_wp2_with fail
      rw [rounds_succ]
      go_wp2_with fail
      go_ret
      exact ⟨rfl, rfl⟩
  · rw [if_neg h1]
    have d1 : (x = 0) = False := eq_false h1
    have e1 : (x != 0) = true := by simpa using h1
    go_enter Try.func62, Try.ntmps62
    go_wp2_with fail
    refine wp_loop_rounds 1 ?_
    rw [rounds_succ]
    go_wp2_with fail
    go_ret
    exact ⟨rfl, rfl⟩

/-- What the function of an axis tells of two numbers. -/
def cfT (T : Nat → Tr) (k i j : Nat) : Int := orI (cmpF (keyT T k i) (keyT T k j)) (cmpI i j)

set_option maxRecDepth 100000 in
set_option maxHeartbeats 1000000 in
theorem along1_any (T : Nat → Tr) (hT : ∀ i, (T i).Mo) (n cb cm gs ga k i j : Nat) (ab am : Option Addr) (w : World) (hS : Lp.Bk w gs #[.slice ab n cb, .slice am n cm] 58) (hA : Lp.Bk w ga #[.int .i64 (k : Int)] 3) (hM : Shp T w n ab am) (hi : i < n) (hj : j < n) :
    RetG Try.prog 61 #[.int .i64 (i : Int), .int .i64 (j : Int), .pointer (some ⟨gs, 0, none⟩), .pointer (some ⟨ga, 0, none⟩)] w (fun v => v = .int .i64 (cfT T k i j)) := by
  unfold RetG
  obtain ⟨g, o, rfl, E⟩ := hM.md.get hi
  have HC := hid (fun w => fcmp_any (key_mo hT k i).num (key_mo hT k j).num w)
  have HP := hid (fun w => gpart_any (T i).box.mid (k : Int) w)
  have HQ := hid (fun w => gpart_any (T j).box.mid (k : Int) w)
  have e1 : partV (T i).box.mid (k : Int) = keyT T k i := rfl
  have e2 : partV (T j).box.mid (k : Int) = keyT T k j := rfl
  rw [e1] at HP
  rw [e2] at HQ
  unfold cfT
  generalize keyT T k i = x at *
  generalize keyT T k j = y at *
  have HE := hid E
  have hil := aside hi
  have hjl := aside hj
  clear hM E e1 e2
  have HBS := hid hS
  have HBA := hid hA
  clear hS hA
  go_enter Try.func61, Try.ntmps61
  go_wp2_with fail
  apply Lw.wp_region_loose Gr (Gr w) _ 16 (by kernel_rfl) (by kernel_rfl) (by kernel_rfl) (Gr.along w) (Gr.refl w).drew
  apply Lw.facts
  · intro w1 hw
    exact And.intro (HBS.out.keep hw.bel).cell (And.intro (HBA.out.keep hw.bel).cell (And.intro (pat (HE.out.keep hw.bel) hil.out) (pat (HE.out.keep hw.bel) hjl.out)))
  intro HF
  iterate 6 (
    apply Lw.one ?_ rfl
    · intro w1 hw
      obtain ⟨k0, k1, ⟨k2, k3, k4⟩, ⟨k5, k6, k7⟩⟩ := HF.out _ hw
      have hx1 := hil.out
      have hx2 := hjl.out
      go_simp
      exact rfl
    intro K hK
    go_simp
    refine hK.out _ ?_
    clear hK K)
  apply Lw.any rfl
  · intro w1 hw
    go_simp
    exact retG (HP.out _)
  intro K hK
  rintro v rfl
  go_simp
  refine hK.out _ ?_
  clear hK K
  iterate 6 (
    apply Lw.one ?_ rfl
    · intro w1 hw
      obtain ⟨k0, k1, ⟨k2, k3, k4⟩, ⟨k5, k6, k7⟩⟩ := HF.out _ hw
      have hx1 := hil.out
      have hx2 := hjl.out
      go_simp
      exact rfl
    intro K hK
    go_simp
    refine hK.out _ ?_
    clear hK K)
  apply Lw.any rfl
  · intro w1 hw
    go_simp
    exact retG (HQ.out _)
  intro K hK
  rintro v rfl
  go_simp
  refine hK.out _ ?_
  clear hK K
  iterate 2 (
    apply Lw.one ?_ rfl
    · intro w1 hw
      go_simp
      exact rfl
    intro K hK
    go_simp
    refine hK.out _ ?_
    clear hK K)
  rotate_left
  exact []
  refine Lw.fin ?_
  intro v1 hm
  clear HF
  go_wp2_with fail
  refine Calls.mono (HC.out _) ?_
  rintro e w' ⟨rfl, hw⟩
  obtain rfl := hw.symm
  clear hw
  go_wp2_with fail
  refine Calls.mono (icmp_any _ _ _) ?_
  rintro e w' ⟨rfl, hw⟩
  obtain rfl := hw.symm
  clear hw
  go_wp2_with fail
  refine Calls.mono (or_any _ _ _ _ (Lp.Bk.al _ _ _)) ?_
  rintro e w' ⟨rfl, hw⟩
  obtain rfl := hw.symm
  clear hw
  go_wp2_with fail
  go_ret
  exact ⟨_, rfl, rfl, hm.alloc _⟩

end Go.Proofs.Ytijoaklknpkdoaa

namespace Go.Proofs.Ytijoaklknpkdoaa
open Go.RowKit Fl Lm

/-- A row that is the call's own, in a block from N on. -/
structure Own (N : Nat) (w : World) (ty : TypeId) (k : Nat) (v : Value) (n : Nat) (e : Nat → List Value) : Prop where
  row : w.ownsRow 0 ty k v n (flat n e)
  lo : ∀ g, v.ownBlock = some g → N ≤ g
/-- Two rows' blocks are not the same. -/
def Apart2 (u v : Value) : Prop := ∀ g, u.ownBlock = some g → v.ownBlock ≠ some g
theorem Apart2.symm {u v : Value} (h : Apart2 u v) : Apart2 v u := fun g h1 h2 => h g h2 h1
section
variable {N : Nat} {w w' : World} {ty : TypeId} {k n : Nat} {v v' : Value} {e e' : Nat → List Value} {row : Option Nat}
theorem Own.nil (N : Nat) (w : World) (ty : TypeId) (k : Nat) (e : Nat → List Value) : Own N w ty k (.slice none 0 0) 0 e := ⟨World.ownsRow_nil _ _ _ _, fun g h => by cases h⟩
theorem Own.keep (h : Own N w ty k v n e) (hb : Below w.heap.size w w') : Own N w' ty k v n e := ⟨owns_same h.row hb, h.lo⟩
theorem Own.slice (h : Own N w ty k v n e) : ∃ ao cap, v = .slice ao n cap := by
  obtain ⟨ao, cap, e, _⟩ := owns_slice h.row
  exact ⟨ao, cap, e⟩
theorem Own.lt (h : Own N w ty k v n e) : ∀ g, v.ownBlock = some g → g < w.heap.size := fun g hg => (h.row.lt g hg).2
theorem Own.other (h : Own N w ty k v n e) (hg : w.grownBy w' row) (ha : ∀ g, v.ownBlock = some g → row ≠ some g) : Own N w' ty k v n e := by
  refine ⟨h.row.kept hg ?_, h.lo⟩
  cases hv : v.ownBlock with
  | none => exact .inl rfl
  | some g => exact .inr fun e => ha g hv e.symm
theorem Own.setc (h : Own N w ty k v n e) {p : Addr} (hne : p.block < N) (u : Value) : Own N (w.setCell p u) ty k v n e := by
  refine ⟨?_, h.lo⟩
  obtain ⟨h1, h2⟩ := h.row
  refine ⟨h1, ?_⟩
  rcases h2 with h2 | ⟨g, cap, cur, hv, hg, hh, r⟩
  · exact .inl h2
  · refine .inr ⟨g, cap, cur, hv, hg, ?_, r⟩
    have := h.lo g (by rw [hv]; rfl)
    rw [Below.heap_setCell _ _ _ _ (by omega)]
    exact hh
theorem Own.weak (h : Own N w ty k v n e) {M : Nat} (hm : M ≤ N) : Own M w ty k v n e := ⟨h.row, fun g hg => Nat.le_trans hm (h.lo g hg)⟩
theorem Own.congr (h : Own N w ty k v n e) (he : ∀ i, i < n → e i = e' i) : Own N w ty k v n e' := ⟨by rw [← flat_congr he]; exact h.row, h.lo⟩
theorem Own.cut {ao : Option Addr} {cap m : Nat} (h : Own N w ty k (.slice ao n cap) n e) (he : ∀ i, i < n → (e i).length = k) (hm : m ≤ n) : Own N w ty k (.slice ao m cap) m e := by
  refine ⟨owns_cut h.row he hm, fun g hg => h.lo g ?_⟩
  cases ao with
  | none => cases hg
  | some a => exact hg
theorem Own.sl {ao : Option Addr} {cap : Nat} (h : Own N w ty k (.slice ao n cap) n e) (he : ∀ i, i < n → (e i).length = k) : Sl w ao n k e := Sl.of_owns h.row he
/-- Behind append. -/
theorem Own.push {x : List Value} (h : Own N w ty k v n e) (h1 : w'.ownsRow 0 ty k v' (n + 1) (flat n e ++ x)) (hb : v'.ownBlock = v.ownBlock ∨ ∀ g, v'.ownBlock = some g → w.heap.size ≤ g) (hN : N ≤ w.heap.size) (he : ∀ i, i < n → e i = e' i) (hx : e' n = x) : Own N w' ty k v' (n + 1) e' := by
  refine ⟨owns_flat h1 he hx, fun g hg => ?_⟩
  rcases hb with hb | hb
  · exact h.lo g (hb ▸ hg)
  · exact Nat.le_trans hN (hb g hg)
theorem Apart2.push {u : Value} {M : Nat} {ty2 : TypeId} {k2 n2 : Nat} {e2 : Nat → List Value} (ha : Apart2 v u) (hu : Own M w ty2 k2 u n2 e2) (hb : v'.ownBlock = v.ownBlock ∨ ∀ g, v'.ownBlock = some g → w.heap.size ≤ g) : Apart2 v' u := fun g hg hug => by
  rcases hb with hb | hb
  · exact ha g (hb ▸ hg) hug
  · have := hb g hg
    have := hu.lt g hug
    omega
theorem Bk_grown {b : Nat} {vs : Array Value} {t : TypeId} (h : Lp.Bk w b vs t) (hg : w.grownBy w' row) (hn : ∀ g, row = some g → b < g) : Lp.Bk w' b vs t :=
  (hg.block b h.lt fun e => Nat.lt_irrefl _ (hn b e.symm)).trans h
theorem Cl_grown {W : World} (h : Cl W w) (hg : w.grownBy w' row) (hn : ∀ g, row = some g → W.heap.size ≤ g) : Cl W w' :=
  ⟨hg.os.trans h.os, hg.tape.trans h.tape, hg.output.trans h.output, Nat.le_trans h.size hg.size, fun i hi => (hg.block i (Nat.lt_of_lt_of_le hi h.size) fun e => by have := hn i e.symm; omega).trans (h.block i hi)⟩
theorem Els_grown {g off m k2 : Nat} {e2 : Nat → List Value} (h : Els w g off m k2 e2) (hg : w.grownBy w' row) (hn : row ≠ some g) : Els w' g off m k2 e2 := h.same (hg.block g h.lt fun e => hn e.symm)
end
theorem cells_at0 {w : World} {b : Nat} {xs : List Value} {t : TypeId} (h : Lp.Bk w b xs.toArray t) : ∀ j u, xs[j]? = some u → w.cell? ((⟨b, 0, none⟩ : Addr).add j) = some u := by
  intro j u hj
  rw [addr_off, Nat.zero_add, h.cell j, ← hj, List.getElem?_toArray]

theorem info_int : ∃ i, Try.prog.info? 3 = some i ∧ i.zero = some (.int .i64 0) ∧ i.size = 1 ∧ i.bytes = 8 := by
  have h : (Try.prog.info? 3).map (fun i => (i.zero, i.size, i.bytes)) = some (some (.int .i64 0), 1, 8) := by kernel_rfl
  obtain ⟨i, hi, hz⟩ := Option.map_eq_some_iff.1 h
  simp only [Prod.mk.injEq] at hz
  exact ⟨i, hi, hz.1, hz.2.1, hz.2.2⟩

theorem under_ints : Try.prog.underlying 36 = some (.slice 3) := by kernel_rfl

theorem info_box : ∃ i, Try.prog.info? 27 = some i ∧ i.zero = some (.agg #[.float .f64 0, .float .f64 0, .float .f64 0, .float .f64 0, .float .f64 0, .float .f64 0]) ∧ i.size = 6 ∧ i.bytes = 48 := by
  have h : (Try.prog.info? 27).map (fun i => (i.zero, i.size, i.bytes)) = some (some (.agg #[.float .f64 0, .float .f64 0, .float .f64 0, .float .f64 0, .float .f64 0, .float .f64 0]), 6, 48) := by kernel_rfl
  obtain ⟨i, hi, hz⟩ := Option.map_eq_some_iff.1 h
  simp only [Prod.mk.injEq] at hz
  exact ⟨i, hi, hz.1, hz.2.1, hz.2.2⟩

theorem under_boxes : Try.prog.underlying 55 = some (.slice 27) := by kernel_rfl

theorem info_vec : ∃ i, Try.prog.info? 25 = some i ∧ i.zero = some (.agg #[.float .f64 0, .float .f64 0, .float .f64 0]) ∧ i.size = 3 ∧ i.bytes = 24 := by
  have h : (Try.prog.info? 25).map (fun i => (i.zero, i.size, i.bytes)) = some (some (.agg #[.float .f64 0, .float .f64 0, .float .f64 0]), 3, 24) := by kernel_rfl
  obtain ⟨i, hi, hz⟩ := Option.map_eq_some_iff.1 h
  simp only [Prod.mk.injEq] at hz
  exact ⟨i, hi, hz.1, hz.2.1, hz.2.2⟩

theorem under_vecs : Try.prog.underlying 56 = some (.slice 25) := by kernel_rfl

theorem info_node : ∃ i, Try.prog.info? 29 = some i ∧ i.zero = some (.agg #[.float .f64 0, .float .f64 0, .float .f64 0, .float .f64 0, .float .f64 0, .float .f64 0, .int .i64 0, .int .i64 0, .int .i64 0, .int .i64 0]) ∧ i.size = 10 ∧ i.bytes = 80 := by
  have h : (Try.prog.info? 29).map (fun i => (i.zero, i.size, i.bytes)) = some (some (.agg #[.float .f64 0, .float .f64 0, .float .f64 0, .float .f64 0, .float .f64 0, .float .f64 0, .int .i64 0, .int .i64 0, .int .i64 0, .int .i64 0]), 10, 80) := by kernel_rfl
  obtain ⟨i, hi, hz⟩ := Option.map_eq_some_iff.1 h
  simp only [Prod.mk.injEq] at hz
  exact ⟨i, hi, hz.1, hz.2.1, hz.2.2⟩

theorem under_nodes : Try.prog.underlying 34 = some (.slice 29) := by kernel_rfl

end Go.Proofs.Ytijoaklknpkdoaa

namespace Go.Proofs.Ytijoaklknpkdoaa
open Go.RowKit Fl Lm

def gat (F : Nat → Nat × Bx) (n : Nat) : Nat × Bx := gather ((List.range n).map F)
theorem gat_more (F : Nat → Nat × Bx) (n : Nat) : gat F (n + 1) = ((gat F n).1 + (F n).1, (gat F n).2.join (F n).2) := by
  unfold gat gather
  rw [List.range_succ, List.map_append, List.foldl_append]
  rfl

set_option maxRecDepth 100000 in
set_option maxHeartbeats 1000000 in
theorem together_any (F : Nat → Nat × Bx) (n c : Nat) (ao : Option Addr) (w : World) (h : Sl w ao n 7 fun i => ncs (F i)) (hn : n ≤ 8) (hF : ∀ i, i < n → (F i).1 ≤ 512) :
    Ret Try.prog 58 #[.slice ao n c] w (fun v => v = nxv (gat F n)) := by
  unfold Ret
  have HX := hid h
  have HF := aside hF
  clear h hF
  go_enter Try.func58, Try.ntmps58
  go_wp2_with fail
  refine Lp.settleC (fun w' => Lp.Bk w' (w.heap.size) #[.int .i64 0, .float .f64 0, .float .f64 0, .float .f64 0, .float .f64 0, .float .f64 0, .float .f64 0] 85 ∧ Cl w w') ⟨Lp.Bk.al _ _ _, (Below.refl _ _).alloc (by simp <;> omega) _⟩ ?_
  rintro v1 ⟨BR, HB⟩
  have kR := BR.cell
  have nR0 : (w.heap.size = v1.heap.size) = False := eq_false (by have := BR.lt; omega)
  have mR0 : w.heap.size < v1.heap.size := by have := BR.lt; omega
  have nR1 : (w.heap.size = v1.heap.size + 1) = False := eq_false (by have := BR.lt; omega)
  have mR1 : w.heap.size < v1.heap.size + 1 := by have := BR.lt; omega
  refine Calls.mono (empty_any _) ?_
  rintro e v2 ⟨v, rfl, rfl, hm⟩
  clear kR nR0 mR0 nR1 mR1
  replace BR := BR.keep hm
  replace HB := HB.call hm
  clear hm
  have kR := BR.cell
  have nR0 : (w.heap.size = v2.heap.size) = False := eq_false (by have := BR.lt; omega)
  have mR0 : w.heap.size < v2.heap.size := by have := BR.lt; omega
  have nR1 : (w.heap.size = v2.heap.size + 1) = False := eq_false (by have := BR.lt; omega)
  have mR1 : w.heap.size < v2.heap.size + 1 := by have := BR.lt; omega
  go_wp2_with fail
  clear kR nR0 mR0 nR1 mR1
  have HVS := aside BR.lt
  go_loopg [10] n (fun k i wr => ∃ (j : Nat) (a : Nat × Bx), k + j = n ∧ i = .int .i64 (j : Int) ∧ a = gat F j ∧ a.1 ≤ 512 * j ∧ Lp.Bk wr (w.heap.size) #[.int .i64 0, .float .f64 0, .float .f64 0, .float .f64 0, .float .f64 0, .float .f64 0, .float .f64 0] 85 ∧ Lp.Bk wr (v2.heap.size) #[.int .i64 (a.1 : Int), .float .f64 a.2.a0, .float .f64 a.2.a1, .float .f64 a.2.a2, .float .f64 a.2.a3, .float .f64 a.2.a4, .float .f64 a.2.a5] 85 ∧ Cl w wr)
  case atStart => exact ⟨0, (0, Bx.none), Nat.add_zero _, rfl, rfl, Nat.le_refl _, BR.alo _, Lp.Bk.al _ _ _, HB.alloc _⟩
  case round =>
    clear BR HB
    obtain ⟨g0, hg0⟩ : ∃ g0, g0 = gk := ⟨_, rfl⟩
    subst hg0
    obtain ⟨j, a, hk, rfl, hb, ha, BR, BV, HB⟩ := hrel
    have HK := aside hk
    have HV := aside hb
    clear hk hb
    have hv := HVS.out
    by_cases hj : j < n
    · have hd : ((j : Int) < (n : Int)) = True := eq_true (by omega)
      have hf := HF.out j hj
      have HV2 := aside (show gat F (j + 1) = (a.1 + (F j).1, a.2.join (F j).2) by rw [gat_more, ← HV.out])
      obtain ⟨g, o, rfl, E⟩ := (HX.out.keep HB).get hj
      obtain ⟨k0, k1, k2, k3, k4, k5, k6⟩ := nat E hj
      have hj5 : j < 8 := by omega
      have hjl := aside hj
      clear E hj
      generalize F j = f at *
      have hw1 : (a.1 : Int) + (f.1 : Int) < 1000000 := by omega
      have hw0 : 0 ≤ (a.1 : Int) + (f.1 : Int) := by omega
      have kV := BV.cell
      have zV := BV.frz
      have hml : v2.heap.size < wr.heap.size := BV.lt
      have hmn : (v2.heap.size = wr.heap.size) = False := eq_false (by omega)
      go_wp2_with fail
      refine Lp.settleC (fun w' => Lp.Bk w' w.heap.size #[.int .i64 0, .float .f64 0, .float .f64 0, .float .f64 0, .float .f64 0, .float .f64 0, .float .f64 0] 85 ∧ Lp.Bk w' v2.heap.size #[.int .i64 ((a.1 + f.1 : Nat) : Int), .float .f64 a.2.a0, .float .f64 a.2.a1, .float .f64 a.2.a2, .float .f64 a.2.a3, .float .f64 a.2.a4, .float .f64 a.2.a5] 85 ∧ Cl w w') ⟨(BR.seto (by dsimp only; omega) _).alo _, (BV.set 0 (.int .i64 ((a.1 : Int) + (f.1 : Int)))).alo _, (HB.setCell (by dsimp only; omega) _).alloc _⟩ ?_
      clear k0 k1 k2 k3 k4 k5 k6 kV zV hml hmn BR BV HB
      rintro v5 ⟨BR, BV, HB⟩
      refine Calls.mono (join_any _ _ _ _ _ _ _ _ _ _ _ _ _) ?_
      rintro e v6 ⟨v, rfl, rfl, hm⟩
      replace BR := BR.keep hm
      replace BV := BV.keep hm
      replace HB := HB.call hm
      clear hm
      have kV := BV.cell
      have zV := BV.frz
      go_wp2_with fail
      go_roundg (g0 - 1)
      case measure => have := HK.out; have := hjl.out; omega
      case rel =>
        have hjl := hjl.out
        refine ⟨j + 1, (a.1 + f.1, a.2.join f.2), by have := HK.out; omega, by go_num, HV2.out.symm, by show a.1 + f.1 ≤ _; omega, ?_, ((((((BV.set 1 _).set 2 _).set 3 _).set 4 _).set 5 _).set 6 _), ?_⟩
        · (repeat (refine Lp.Bk.seto ?_ (by dsimp only; omega) _)); exact BR
        · (repeat (refine Below.setCell ?_ (by dsimp only; omega) _)); exact HB
    · have hd : ((j : Int) < (n : Int)) = False := eq_false (by omega)
      have hjl : j = n := by have := HK.out; omega
      subst hjl
      have HV2 := aside (show nxv a = nxv (gat F j) by rw [HV.out])
      clear hj
      have kV := BV.cell
      have kR := BR.cell
      have zR := BR.frz
      go_wp2_with fail
      refine bodyPost_ret (v := nxv a) (by simp [results, go_sem, kR, nxv]) rfl ⟨_, rfl, HV2.out, ?_⟩
      repeat (refine Below.setCell ?_ (by dsimp only; omega) _)
      exact HB

theorem convB (n : Int) (w : World) : (convert 3 23 (.int .i64 n)).run Try.prog w = .ok (.float .f64 (floatOfInt .f64 n)) w := by
  kernel_rfl
theorem convC {m : Nat} {z : Int} (h : floatToIntVal .f64 m .i64 = some z) (w : World) : (convert 23 3 (.float .f64 m)).run Try.prog w = .ok (.int .i64 z) w :=
  run_convert_float_int (w := w) _ _ _ _ _ _ (by rw [Try.underlying23]; rfl) Try.underlying3 h
theorem halfF_c (b : Bx) (w : World) : Ret Try.prog 77 #[bxv b] w (isF b.halfw) := half_any _ _ _ _ _ _ w

set_option maxRecDepth 100000 in
set_option maxHeartbeats 1000000 in
theorem cost_any (a : Nat × Bx) (w : World) : Ret Try.prog 59 #[nxv a] w (isF (costF a.2 a.1)) := by
  unfold Ret nxv
  have HH := hid (fun w => halfF_c a.2 w)
  have hc := convB (a.1 : Int)
  unfold bxv at HH
  go_enter Try.func59, Try.ntmps59
  go_wp2_with fail
  refine Lp.settle (fun w' => Lp.Bk w' (w.heap.size) #[.int .i64 (a.1 : Int), .float .f64 a.2.a0, .float .f64 a.2.a1, .float .f64 a.2.a2, .float .f64 a.2.a3, .float .f64 a.2.a4, .float .f64 a.2.a5] 85 ∧ Cl w w') ⟨Lp.Bk.al _ _ _, (Below.refl _ _).alloc (by simp <;> omega) _⟩ ?_
  rintro v1 ⟨BA, HB⟩
  have kA := BA.cell
  have nA0 : (w.heap.size = v1.heap.size) = False := eq_false (by have := BA.lt; omega)
  have mA0 : w.heap.size < v1.heap.size := by have := BA.lt; omega
  have nA1 : (w.heap.size = v1.heap.size + 1) = False := eq_false (by have := BA.lt; omega)
  have mA1 : w.heap.size < v1.heap.size + 1 := by have := BA.lt; omega
  apply Lw.region _ _ 8 (by kernel_rfl) (by kernel_rfl) (by kernel_rfl) (Below.refl _ _)
  apply Lw.facts
  · intro w1 hw
    exact (BA.cl hw).cell
  intro HF
  iterate 2 (
    apply Lw.one ?_ rfl
    · intro w hw
      have k0 := HF.out _ hw
      go_simp
      exact rfl
    intro K hK
    go_simp
    refine hK.out _ ?_
    clear hK K)
  apply Lw.any rfl
  · intro w hw
    go_simp
    exact Lw.ret (HH.out _)
  intro K hK
  rintro v ⟨r, rfl, hr⟩
  go_simp
  refine hK.out _ ?_
  clear hK K
  iterate 3 (
    apply Lw.one ?_ rfl
    · intro w hw
      have k0 := HF.out _ hw
      go_simp
      exact rfl
    intro K hK
    go_simp
    refine hK.out _ ?_
    clear hK K)
  apply Lw.any rfl
  · intro w hw
    go_simp
    exact Lw.mul (by first | exact Eqv.sm (by assumption) | exact Sm.refl _) (by first | exact Eqv.sm (by assumption) | exact Sm.refl _)
  intro K hK
  rintro v ⟨rq0, rfl, hq0⟩
  go_simp
  refine hK.out _ ?_
  clear hK K
  iterate 1 (
    apply Lw.one ?_ rfl
    · intro w hw
      have k0 := HF.out _ hw
      go_simp
      exact rfl
    intro K hK
    go_simp
    refine hK.out _ ?_
    clear hK K)
  rotate_left
  exact []
  refine Lw.fin ?_
  intro v2 hm
  clear kA nA0 mA0 nA1 mA1
  replace BA := BA.keep hm
  replace HB := HB.call hm
  clear hm
  have kA := BA.cell
  have nA0 : (w.heap.size = v2.heap.size) = False := eq_false (by have := BA.lt; omega)
  have mA0 : w.heap.size < v2.heap.size := by have := BA.lt; omega
  have nA1 : (w.heap.size = v2.heap.size + 1) = False := eq_false (by have := BA.lt; omega)
  have mA1 : w.heap.size < v2.heap.size + 1 := by have := BA.lt; omega
  go_wp2_with fail
  go_ret
  exact ⟨_, rfl, ⟨_, rfl, hq0⟩, HB⟩

end Go.Proofs.Ytijoaklknpkdoaa

namespace Go.Proofs.Ytijoaklknpkdoaa
open Go.RowKit Fl Lm

/-- A function that tells a number's bin, between two parts on an axis. -/
structure BinFn (w : World) (n : Nat) (am : Option Addr) (k lo hi : Nat) (b0 b1 b2 b3 : Nat) : Prop where
  sh : ∃ ab cb cm, Lp.Bk w b0 #[.slice ab n cb, .slice am n cm] 58
  ax : Lp.Bk w b1 #[.int .i64 (k : Int)] 3
  lo : Lp.Bk w b2 #[.float .f64 lo] 23
  hi : Lp.Bk w b3 #[.float .f64 hi] 23
theorem BinFn.keep {w w' : World} {n : Nat} {am : Option Addr} {k lo hi b0 b1 b2 b3 : Nat} (h : BinFn w n am k lo hi b0 b1 b2 b3) (hb : Below w.heap.size w w') : BinFn w' n am k lo hi b0 b1 b2 b3 :=
  ⟨h.sh.imp fun _ h => h.imp fun _ h => h.imp fun _ h => h.keep hb, h.ax.keep hb, h.lo.keep hb, h.hi.keep hb⟩
def binV (b0 b1 b2 b3 : Nat) : Value := .func (.func 43) #[] #[.pointer (some ⟨b0, 0, none⟩), .pointer (some ⟨b1, 0, none⟩), .pointer (some ⟨b2, 0, none⟩), .pointer (some ⟨b3, 0, none⟩)]

set_option maxRecDepth 100000 in
set_option maxHeartbeats 1000000 in
theorem bin1_any (T : Nat → Tr) (hT : ∀ i, (T i).Mo) (n k lo hi b0 b1 b2 b3 i : Nat) (am : Option Addr) (w : World) (h : BinFn w n am k lo hi b0 b1 b2 b3) (hM : Sl w am n 3 fun i => pcs (T i).box.mid) (hi' : i < n) (hl : Num lo) (hh : Num hi) (hB : Bin lo hi (keyT T k i)) :
    Ret Try.prog 43 #[.int .i64 (i : Int), .pointer (some ⟨b0, 0, none⟩), .pointer (some ⟨b1, 0, none⟩), .pointer (some ⟨b2, 0, none⟩), .pointer (some ⟨b3, 0, none⟩)] w (fun v => v = .int .i64 (binF lo hi (keyT T k i))) := by
  unfold Ret
  obtain ⟨⟨ab, cb, cm, hS⟩, hA, hLo, hHi⟩ := h
  obtain ⟨g, o, rfl, E⟩ := hM.get hi'
  have HE := hid E
  have HP := hid (fun w => (gpart_any (T i).box.mid (k : Int) w).ret)
  have e1 : partV (T i).box.mid (k : Int) = keyT T k i := rfl
  rw [e1] at HP
  have hx := (key_mo hT k i).num
  unfold binF
  have HD1 := hid (fun w => run_sub_num (P := Try.prog) (w := w) 23 hx hl)
  have HD2 := hid (fun w => run_sub_num (P := Try.prog) (w := w) 23 hh hl)
  have HD3 := hid (fun w => run_quo_num (P := Try.prog) (w := w) 23 hB.s1 hB.s2 (fun e => by have := hB.s2p; rw [e] at this; exact absurd this (by decide)))
  have HD4 := hid (fun w => run_mul_num (P := Try.prog) (w := w) 23 num_k8 hB.q1)
  have HD5 := hid (fun w => convC hB.conv w)
  have HMN := aside (show (if (7 : Int) < truncF (q8F lo hi (keyT T k i)) then (7 : Int) else truncF (q8F lo hi (keyT T k i))) = min (truncF (q8F lo hi (keyT T k i))) 7 by split <;> omega)
  unfold q8F at *
  generalize min (truncF (fmul k8 (fdiv (fsub (keyT T k i) lo) (fsub hi lo)))) 7 = z at *
  generalize truncF (fmul k8 (fdiv (fsub (keyT T k i) lo) (fsub hi lo))) = y at *
  have HD4' : Hid (∀ w, (binOp .mul 23 (.float .f64 4620693217682128896) (.float .f64 (fdiv (fsub (keyT T k i) lo) (fsub hi lo)))).run Try.prog w = .ok (.float .f64 (fmul k8 (fdiv (fsub (keyT T k i) lo) (fsub hi lo)))) w) := HD4
  clear HD4
  generalize fmul k8 (fdiv (fsub (keyT T k i) lo) (fsub hi lo)) = x4 at *
  generalize fdiv (fsub (keyT T k i) lo) (fsub hi lo) = x3 at *
  generalize fsub (keyT T k i) lo = x1 at *
  generalize fsub hi lo = x2 at *
  generalize keyT T k i = x at *
  have hil := aside hi'
  clear hM E e1 hi' hB hl hh hx
  go_enter Try.func43, Try.ntmps43
  go_wp2_with fail
  apply Lw.region _ _ 17 (by kernel_rfl) (by kernel_rfl) (by kernel_rfl) (Below.refl _ _)
  apply Lw.facts
  · intro w1 hw
    exact And.intro (hS.keep hw).cell (And.intro (hA.keep hw).cell (And.intro (hLo.keep hw).cell (And.intro (hHi.keep hw).cell (pat (HE.out.keep hw) hil.out))))
  intro HF
  iterate 6 (
    apply Lw.one ?_ rfl
    · intro w1 hw
      obtain ⟨k0, k1, k2, k3, k4, k5, k6⟩ := HF.out _ hw
      have hx1 := hil.out
      go_simp
      exact rfl
    intro K hK
    go_simp
    refine hK.out _ ?_
    clear hK K)
  apply Lw.any rfl
  · intro w hw
    go_simp
    exact Lw.ret (HP.out _)
  intro K hK
  rintro v rfl
  go_simp
  refine hK.out _ ?_
  clear hK K
  iterate 10 (
    apply Lw.one ?_ rfl
    · intro w1 hw
      obtain ⟨k0, k1, k2, k3, k4, k5, k6⟩ := HF.out _ hw
      have hx1 := hil.out
      have d1 := HD1.out
      have d2 := HD2.out
      have d3 := HD3.out
      have d4 := HD4'.out
      have d5 := HD5.out
      have d6 := HMN.out
      go_simp
      exact rfl
    intro K hK
    go_simp
    refine hK.out _ ?_
    clear hK K)
  rotate_left
  exact []
  refine Lw.fin ?_
  intro v1 hm
  go_wp2_with fail
  go_ret
  exact ⟨_, rfl, rfl, hm⟩

set_option maxRecDepth 100000 in
set_option maxHeartbeats 1000000 in
theorem binner_any (n cb cm k lo hi : Nat) (ab am : Option Addr) (w : World) : Calls Try.prog 32 #[.agg #[.slice ab n cb, .slice am n cm], .int .i64 (k : Int), .float .f64 lo, .float .f64 hi] w fun e w' => ∃ b0 b1 b2 b3, e = .returned (binV b0 b1 b2 b3) ∧ BinFn w' n am k lo hi b0 b1 b2 b3 ∧ Cl w w' := by
  go_enter Try.func32, Try.ntmps32
  go_wp2_with fail
  go_ret
  exact ⟨w.heap.size, w.heap.size + 1, w.heap.size + 1 + 1, w.heap.size + 1 + 1 + 1, rfl, ⟨⟨ab, cb, cm, (((Lp.Bk.al w _ _).alo _).alo _).alo _⟩, ((Lp.Bk.al1 w _ _ _).alo _).alo _, (Lp.Bk.al2 w _ _ _ _).alo _, Lp.Bk.al3 w _ _ _ _ _⟩, ((((Below.refl _ _).alloc (by simp <;> omega) _).alloc (by simp <;> omega) _).alloc (by simp <;> omega) _).alloc (by simp <;> omega) _⟩

end Go.Proofs.Ytijoaklknpkdoaa
