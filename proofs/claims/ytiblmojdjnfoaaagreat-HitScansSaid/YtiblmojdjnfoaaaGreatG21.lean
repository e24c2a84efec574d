/- Package bvh: wrong; slices.ContainsFunc of it. Package bvh: New. Package bvh: what a tree tells: Nodes, Order, Tri, Node, Root; of nil. Package bvh: Node, Root, below, Depth; of nil. Package hit: entered, and the nodes that it hands on, whatever is done with them. -/
import Derived.Deep.LoopGhost
import Derived.WalkMore
import Derived.TacticsInMore
import Derived.LoopNIn
import Derived.LoopIn
import Derived.OwnWalkIn
import Derived.Test.YtiblmojdjnfoaaaGreatG14
import Derived.Test.YtiblmojdjnfoaaaGreatG7
import Derived.Test.YtiblmojdjnfoaaaGreatG10
import Derived.Test.YtiblmojdjnfoaaaGreatG20
import Derived.Test.YtiblmojdjnfoaaaGreatRows
import Derived.Test.YtiblmojdjnfoaaaGreatG15
import Derived.Test.YtiblmojdjnfoaaaGreatG16
namespace Go.Proofs.YtiblmojdjnfoaaaGreat
open Go.RowKit Fl Lm

def cornerT (t : Tr) : Nat → Nat × Nat × Nat
  | 0 => (t.t0, t.t1, t.t2)
  | 1 => (t.t3, t.t4, t.t5)
  | _ => (t.t6, t.t7, t.t8)
def okC (c : Nat × Nat × Nat) : Bool := moB c.1 && moB c.2.1 && moB c.2.2
theorem may_corners (t : Tr) : t.mayB = (okC (cornerT t 0) && okC (cornerT t 1) && okC (cornerT t 2)) := by
  unfold Tr.mayB okC cornerT
  simp only [Bool.and_assoc]
/-- All of the first j. -/
def allB (p : Nat → Bool) : Nat → Bool
  | 0 => true
  | j + 1 => allB p j && p j
theorem allB_none {p : Nat → Bool} {j : Nat} (h : p j = false) : ∀ n, j < n → allB p n = false
  | 0, hn => by omega
  | n + 1, hn => by
    unfold allB
    by_cases e : j = n
    · subst e; rw [h, Bool.and_false]
    · rw [allB_none h n (by omega), Bool.false_and]
theorem okC_all (c : Nat × Nat × Nat) : okC c = allB (fun k => moB (partF c.1 c.2.1 c.2.2 (k : Int))) 3 := by
  simp [okC, allB, partF]
theorem may_all (t : Tr) : t.mayB = allB (fun j => okC (cornerT t j)) 3 := by
  rw [may_corners]; simp [allB]
theorem idx_tri0 (t : Tr) (w : World) : (Instr.index 98 (.agg #[.float .f64 t.t0, .float .f64 t.t1, .float .f64 t.t2, .float .f64 t.t3, .float .f64 t.t4, .float .f64 t.t5, .float .f64 t.t6, .float .f64 t.t7, .float .f64 t.t8]) (.int .i64 0)).run Tryz.prog w = .ok (.agg #[.float .f64 t.t0, .float .f64 t.t1, .float .f64 t.t2]) w := by kernel_rfl
theorem idx_tri1 (t : Tr) (w : World) : (Instr.index 98 (.agg #[.float .f64 t.t0, .float .f64 t.t1, .float .f64 t.t2, .float .f64 t.t3, .float .f64 t.t4, .float .f64 t.t5, .float .f64 t.t6, .float .f64 t.t7, .float .f64 t.t8]) (.int .i64 1)).run Tryz.prog w = .ok (.agg #[.float .f64 t.t3, .float .f64 t.t4, .float .f64 t.t5]) w := by kernel_rfl
theorem idx_tri2 (t : Tr) (w : World) : (Instr.index 98 (.agg #[.float .f64 t.t0, .float .f64 t.t1, .float .f64 t.t2, .float .f64 t.t3, .float .f64 t.t4, .float .f64 t.t5, .float .f64 t.t6, .float .f64 t.t7, .float .f64 t.t8]) (.int .i64 2)).run Tryz.prog w = .ok (.agg #[.float .f64 t.t6, .float .f64 t.t7, .float .f64 t.t8]) w := by kernel_rfl
theorem idx_tri (t : Tr) (j : Nat) (hj : j < 3) (w : World) : (Instr.index 98 (.agg #[.float .f64 t.t0, .float .f64 t.t1, .float .f64 t.t2, .float .f64 t.t3, .float .f64 t.t4, .float .f64 t.t5, .float .f64 t.t6, .float .f64 t.t7, .float .f64 t.t8]) (.int .i64 (j : Int))).run Tryz.prog w = .ok (.agg #[.float .f64 (cornerT t j).1, .float .f64 (cornerT t j).2.1, .float .f64 (cornerT t j).2.2]) w := by
  match j, hj with
  | 0, _ => exact idx_tri0 t w
  | 1, _ => exact idx_tri1 t w
  | 2, _ => exact idx_tri2 t w

set_option maxRecDepth 100000 in
set_option maxHeartbeats 1000000 in
theorem wrong_any (t : Tr) (w : World) : Ret Tryz.prog 28 #[txv t] w (fun v => v = .bool (!t.mayB)) := by
  unfold Ret txv
  have HY := aside (may_all t)
  have HI := hid (idx_tri t)
  generalize cornerT t = C at *
  generalize t.mayB = y at *
  go_enter Tryz.func28, Tryz.ntmps28
  go_wp2_with fail
  go_loopg [14] 3 (fun k i wr => ∃ j : Nat, k + j = 3 ∧ i = .int .i64 (j : Int) ∧ allB (fun j => okC (C j)) j = true ∧ Cl w wr)
  case atStart => exact ⟨0, rfl, rfl, rfl, (Below.refl _ _).alloc (Nat.le_refl _) _⟩
  case round =>
    obtain ⟨g0, hg0⟩ : ∃ g0, g0 = gk := ⟨_, rfl⟩
    subst hg0
    obtain ⟨j, hk, rfl, hA, HB⟩ := hrel
    have HK := aside hk
    have HA := aside hA
    clear hk hA
    by_cases hj : j < 3
    · have hd : ((j : Int) < 3) = True := eq_true (by omega)
      have hix := HI.out j hj
      have HP := aside (okC_all (C j))
      have HAll := aside (show okC (C j) = false → allB (fun j => okC (C j)) 3 = false from fun h => allB_none h 3 hj)
      have HA2 := aside (show okC (C j) = true → allB (fun j => okC (C j)) (j + 1) = true from fun h => by show (allB _ j && okC (C j)) = true; rw [HA.out, h]; rfl)
      generalize C j = c at *
      obtain ⟨c0, c1, c2⟩ := c
      dsimp only at hix
      have hjl := aside hj
      have hj5 : j < 512 := by omega
      clear hj HA
      go_wp2_with fail
      clear hix
      go_loopg [17] 3 (fun k i wi => ∃ m : Nat, k + m = 3 ∧ i = .int .i64 (m : Int) ∧ allB (fun k => moB (partF c0 c1 c2 (k : Int))) m = true ∧ Lp.Bk wi wr.heap.size #[.float .f64 c0, .float .f64 c1, .float .f64 c2] 25 ∧ Cl w wi)
      case atStart => exact ⟨0, rfl, rfl, rfl, Lp.Bk.al _ _ _, HB.alloc _⟩
      case round =>
        obtain ⟨g1, hg1⟩ : ∃ g1, g1 = gk := ⟨_, rfl⟩
        subst hg1
        obtain ⟨m, hk, rfl, hA, BC, HB2⟩ := hrel
        have HK2 := aside hk
        have HA3 := aside hA
        clear hk hA
        by_cases hm : m < 3
        · have hd2 : ((m : Int) < 3) = True := eq_true (by omega)
          have HNo := aside (show moB (partF c0 c1 c2 (m : Int)) = false → okC (c0, c1, c2) = false from fun h => by rw [HP.out]; exact allB_none (p := fun k => moB (partF c0 c1 c2 (k : Int))) h 3 hm)
          have HYes := aside (show moB (partF c0 c1 c2 (m : Int)) = true → allB (fun k => moB (partF c0 c1 c2 (k : Int))) (m + 1) = true from fun h => by show (allB _ m && moB (partF c0 c1 c2 (m : Int))) = true; rw [HA3.out, h]; rfl)
          have HV := hid (fun w => vpart_any c0 c1 c2 (m : Int) w)
          generalize partF c0 c1 c2 (m : Int) = x at HNo HYes HV
          have hml := aside hm
          have hm5 : m < 512 := by omega
          clear hm HA3
          have hp : (FloatKind.f64.format.order x 13920626448202203136 == some .gt || FloatKind.f64.format.order x 13920626448202203136 == some .eq) = leB m20 x := geB_eq x m20
          have hq : (FloatKind.f64.format.order x 4697254411347427328 == some .lt || FloatKind.f64.format.order x 4697254411347427328 == some .eq) = leB x maxW := rfl
          unfold moB at HNo HYes
          generalize leB m20 x = p at hp HNo HYes
          generalize leB x maxW = q at hq HNo HYes
          have kC := BC.cell
          cases p
          · replace HNo := aside (HNo.out rfl)
            go_wp2_with fail
            refine Calls.mono (HV.out _) ?_
            rintro e w5 ⟨v, rfl, rfl, hm5⟩
            clear kC
            replace HB2 := HB2.call hm5
            clear hm5
            go_wp2_with fail
            go_ret
            exact ⟨_, rfl, by rw [HY.out, HAll.out HNo.out]; rfl, HB2⟩
          cases q
          · replace HNo := aside (HNo.out rfl)
            go_wp2_with fail
            refine Calls.mono (HV.out _) ?_
            rintro e w5 ⟨v, rfl, rfl, hm5⟩
            clear kC
            replace HB2 := HB2.call hm5
            clear hm5
            go_wp2_with fail
            go_ret
            exact ⟨_, rfl, by rw [HY.out, HAll.out HNo.out]; rfl, HB2⟩
          · replace HYes := aside (HYes.out rfl)
            go_wp2_with fail
            refine Calls.mono (HV.out _) ?_
            rintro e w5 ⟨v, rfl, rfl, hm5⟩
            clear kC
            replace HB2 := HB2.call hm5
            replace BC := BC.keep hm5
            clear hm5
            go_wp2_with fail
            go_roundg (g1 - 1)
            case measure => have := HK2.out; have := hml.out; omega
            case rel => exact ⟨m + 1, by have := HK2.out; have := hml.out; omega, by go_num, HYes.out, BC, HB2⟩
        · have hd2 : ((m : Int) < 3) = False := eq_false (by omega)
          have hm3 : m = 3 := by have := HK2.out; omega
          subst hm3
          have HA4 := aside (HA2.out (HP.out.trans HA3.out))
          clear hm
          go_wp2_with fail
          go_roundg (g0 - 1)
          case measure => have := HK.out; have := hjl.out; omega
          case rel => exact ⟨j + 1, by have := HK.out; have := hjl.out; omega, by go_num, HA4.out, HB2⟩
    · have hd : ((j : Int) < 3) = False := eq_false (by omega)
      have hjn : j = 3 := by have := HK.out; omega
      subst hjn
      clear hj
      go_wp2_with fail
      go_ret
      exact ⟨_, rfl, by rw [HY.out, HA.out]; rfl, HB⟩

set_option maxRecDepth 100000 in
set_option maxHeartbeats 1000000 in
theorem tindex_any (T : Nat → Tr) (n c : Nat) (ao : Option Addr) (w : World) (h : Sl w ao n 9 fun i => tcs (T i)) (hn : n ≤ 512) : Ret Tryz.prog 50 #[.slice ao n c, .func (.func 28) #[] #[]] w (fun v => ∃ r : Int, v = .int .i64 r ∧ (0 ≤ r ↔ ∃ i, i < n ∧ (T i).mayB = false)) := by
  unfold Ret
  have HF := hid h
  have HN := aside hn
  clear h hn
  go_enter Tryz.func50, Tryz.ntmps50
  go_wp2_with fail
  go_loopg [8] n (fun k i wr => ∃ j : Nat, k + j = n ∧ i = .int .i64 (j : Int) ∧ (∀ i, i < j → (T i).mayB = true) ∧ Cl w wr)
  case atStart => exact ⟨0, by omega, rfl, fun i hi => by omega, Below.refl _ _⟩
  case round =>
    obtain ⟨g0, hg0⟩ : ∃ g0, g0 = gk := ⟨_, rfl⟩
    subst hg0
    obtain ⟨j, hk, rfl, hA, HB⟩ := hrel
    have HK := aside hk
    have HA := aside hA
    clear hk hA
    by_cases hj : j < n
    · have hd : ((j : Int) < (n : Int)) = True := eq_true (by omega)
      obtain ⟨g, o, rfl, E⟩ := (HF.out.keep HB).get hj
      obtain ⟨k0, k1, k2, k3, k4, k5, k6, k7, k8⟩ := tat E hj
      have HW := hid (fun w => wrong_any (T j) w)
      unfold txv at HW
      have HA2 := aside (show (T j).mayB = true → ∀ i, i < j + 1 → (T i).mayB = true from fun h i hi => by rcases Nat.lt_or_eq_of_le (Nat.le_of_lt_succ hi) with h2 | h2; exact HA.out i h2; exact h2 ▸ h)
      have HA3 := aside (show (T j).mayB = false → ∃ i, i < n ∧ (T i).mayB = false from fun h => ⟨j, hj, h⟩)
      have hjl := aside hj
      have hj5 : j < 512 := by have := HN.out; omega
      clear hj HA E
      generalize T j = t at *
      generalize t.mayB = p at *
      cases p
      · replace HA3 := aside (HA3.out rfl)
        go_wp2_with fail
        refine Calls.mono (HW.out _) ?_
        rintro e w5 ⟨v, rfl, rfl, hm5⟩
        clear k0 k1 k2 k3 k4 k5 k6 k7 k8
        replace HB := HB.call hm5
        clear hm5
        go_wp2_with fail
        go_ret
        exact ⟨_, rfl, ⟨_, rfl, fun _ => HA3.out, fun _ => by omega⟩, HB⟩
      · replace HA2 := aside (HA2.out rfl)
        go_wp2_with fail
        refine Calls.mono (HW.out _) ?_
        rintro e w5 ⟨v, rfl, rfl, hm5⟩
        clear k0 k1 k2 k3 k4 k5 k6 k7 k8
        replace HB := HB.call hm5
        clear hm5
        go_wp2_with fail
        go_roundg (g0 - 1)
        case measure => have := HK.out; have := hjl.out; omega
        case rel => exact ⟨j + 1, by have := HK.out; have := hjl.out; omega, by go_num, HA2.out, HB⟩
    · have hd : ((j : Int) < (n : Int)) = False := eq_false (by omega)
      have hjn : j = n := by have := HK.out; omega
      subst hjn
      clear hj
      go_wp2_with fail
      go_ret
      exact ⟨_, rfl, ⟨-1, rfl, fun h => absurd h (by omega), fun ⟨i, hi, h⟩ => by rw [HA.out i hi] at h; cases h⟩, HB⟩

set_option maxRecDepth 100000 in
set_option maxHeartbeats 1000000 in
theorem tcontains_any (T : Nat → Tr) (n c : Nat) (ao : Option Addr) (w : World) (h : Sl w ao n 9 fun i => tcs (T i)) (hn : n ≤ 512) (b : Bool) (hb : b = true ↔ ∃ i, i < n ∧ (T i).mayB = false) : Ret Tryz.prog 27 #[.slice ao n c, .func (.func 28) #[] #[]] w (fun v => v = .bool b) := by
  unfold Ret
  have HI := hid (tindex_any T n c ao w h hn)
  have HBB := aside hb
  clear h hn hb
  go_enter Tryz.func27, Tryz.ntmps27
  go_wp2_with fail
  refine Calls.mono HI.out ?_
  rintro e w1 ⟨v, rfl, ⟨r, rfl, hr⟩, hm⟩
  have HR := aside (show decide (0 ≤ r) = b by
    cases b
    · exact decide_eq_false fun h => by have := HBB.out.2 (hr.1 h); cases this
    · exact decide_eq_true (hr.2 (HBB.out.1 rfl)))
  clear hr
  go_wp2_with fail
  go_ret
  exact ⟨_, rfl, congrArg Value.bool HR.out, hm⟩

end Go.Proofs.YtiblmojdjnfoaaaGreat

namespace Go.Proofs.YtiblmojdjnfoaaaGreat
open Go.RowKit Fl Lm

/-- A tree in memory. -/
def TreeR (w : World) (t : Nat) (D : List Nd) (O : List Nat) : Prop :=
  ∃ gN cn ao co, Lp.Bk w t #[.slice (some ⟨gN, 0, none⟩) D.length cn, .slice ao O.length co] 72 ∧ Els w gN 0 D.length 10 (nds D) ∧ Sl w ao O.length 1 (lvs O)
theorem TreeR.keep {w w' : World} {t : Nat} {D : List Nd} {O : List Nat} (h : TreeR w t D O) (hb : Below w.heap.size w w') : TreeR w' t D O := by
  obtain ⟨gN, cn, ao, co, h1, h2, h3⟩ := h
  exact ⟨gN, cn, ao, co, h1.keep hb, h2.keep hb, h3.keep hb⟩
theorem TreeS.read {N : Nat} {w : World} {t : Nat} {nv ov : Value} {D : List Nd} {O : List Nat} (h : TreeS N w t nv ov D O) (hD : 0 < D.length) : TreeR w t D O := by
  obtain ⟨an, cn, rfl⟩ := h.on.slice
  obtain ⟨ao, co, rfl⟩ := h.oo.slice
  obtain ⟨gN, rfl, _, hE⟩ := owns_els h.on.row (fun _ _ => rfl) hD
  exact ⟨gN, cn, ao, co, h.bT, hE, h.oo.sl (fun _ _ => rfl)⟩

set_option maxRecDepth 100000 in
set_option maxHeartbeats 1000000 in
theorem new_any (T : Nat → Tr) (hT : ∀ i, (T i).Mo) (sur : Bool) (n c : Nat) (ao : Option Addr) (w : World) (hL : Sl w ao n 9 fun i => tcs (T i)) (hn : n ≤ 512) (hm : ∀ i, i < n → (T i).mayB = true) :
    Calls Tryz.prog 14 #[.slice ao n c, .bool sur] w fun e w' => ∃ t, e = .returned (.tuple #[.pointer (some ⟨t, 0, none⟩), .int .i64 0]) ∧ TreeR w' t (ndL (treeT T sur) 0 0 (List.range n)) (orL (treeT T sur) (List.range n)) ∧ w.heap.size ≤ t ∧ Cl w w' := by
  have HL := hid hL
  have HTT := aside hT
  have HC := hid (tcontains_any T n c ao w hL hn false ⟨fun h => (by cases h), fun ⟨i, hi, h⟩ => by rw [hm i hi] at h; cases h⟩)
  clear hL hT hm
  have hc : (512 < (n : Int)) = False := eq_false (by omega)
  go_enter Tryz.func14, Tryz.ntmps14
  go_wp2_with fail
  refine Calls.mono HC.out ?_
  rintro e w1 ⟨v, rfl, rfl, hm⟩
  have hb : Cl w w1 := hm
  clear hm HC
  go_wp2_with fail
  have hb2 : Below w1.heap.size w1 (w1.alloc (.cells #[.slice none 0 0, .slice none 0 0] 72)) := (Below.refl _ _).alloc (Nat.le_refl _) _
  have hB := Lp.Bk.al w1 #[.slice none 0 0, .slice none 0 0] 72
  have HB2 := hid (hb.call hb2)
  have HBT := hid hB
  have HME := hid (measured_any T HTT.out n c ao _ ((HL.out.keep hb).keep hb2) hn)
  have hbs := hb.size
  clear hb2 hB hb
  refine Calls.mono HME.out ?_
  rintro e w3 ⟨ab, cb, am, cm, rfl, hS, h1, h2, hm⟩
  clear HME
  have e1 : (w1.alloc (.cells #[.slice none 0 0, .slice none 0 0] 72)).heap.size = w1.heap.size + 1 := by simp
  rw [e1] at h1 h2
  have HBU := hid (build_any T HTT.out sur n w1.heap.size cb cm ab am w3 hn (HBT.out.keep hm) hS (fun g o e => by have := h1 g o e; omega) (fun g o e => by have := h2 g o e; omega))
  have HB3 := hid (HB2.out.call hm)
  clear hS h1 h2 hm HBT HB2 e1
  go_wp2_with fail
  refine Calls.mono HBU.out ?_
  rintro e w4 ⟨rfl, nv, ov, hTS, hFr⟩
  clear HBU
  go_wp2_with fail
  refine bodyPost_ret (v := _) (by simp [results, go_sem]) rfl ⟨w1.heap.size, rfl, hTS.read (by rw [nd_len]; exact sz_pos _ _), hbs, hFr.cl HB3.out (fun i e => by omega)⟩

set_option maxRecDepth 100000 in
set_option maxHeartbeats 1000000 in
theorem new_big (n c : Nat) (ao : Option Addr) (sur : Bool) (w : World) (hn : 512 < n) : Calls Tryz.prog 14 #[.slice ao n c, .bool sur] w fun e w' => e = .returned (.tuple #[.pointer none, .int .i64 4]) ∧ Cl w w' := by
  have hc : (512 < (n : Int)) = True := eq_true (by omega)
  go_enter Tryz.func14, Tryz.ntmps14
  go_wp2_with fail
  exact bodyPost_ret (v := _) (by simp [results, go_sem]) rfl ⟨rfl, Below.refl _ _⟩

set_option maxRecDepth 100000 in
set_option maxHeartbeats 1000000 in
theorem new_bad (T : Nat → Tr) (sur : Bool) (n c : Nat) (ao : Option Addr) (w : World) (hL : Sl w ao n 9 fun i => tcs (T i)) (hn : n ≤ 512) (hm : ∃ i, i < n ∧ (T i).mayB = false) :
    Calls Tryz.prog 14 #[.slice ao n c, .bool sur] w fun e w' => e = .returned (.tuple #[.pointer none, .int .i64 2]) ∧ Cl w w' := by
  have HC := hid (tcontains_any T n c ao w hL hn true ⟨fun _ => hm, fun _ => rfl⟩)
  clear hL hm
  have hc : (512 < (n : Int)) = False := eq_false (by omega)
  go_enter Tryz.func14, Tryz.ntmps14
  go_wp2_with fail
  refine Calls.mono HC.out ?_
  rintro e w1 ⟨v, rfl, rfl, hm⟩
  clear HC
  go_wp2_with fail
  exact bodyPost_ret (v := _) (by simp [results, go_sem]) rfl ⟨rfl, hm⟩

end Go.Proofs.YtiblmojdjnfoaaaGreat

namespace Go.Proofs.YtiblmojdjnfoaaaGreat
open Go.RowKit Fl Lm

theorem eql_nodes (ao : Option Addr) (n c : Nat) (w : World) : (binOp .eql 48 (.slice ao n c) (.slice none 0 0)).run Tryz.prog w = .ok (.bool ao.isNone) w := Lib.run_eql_slice_nil w _ _ ao n c 0 0 under_nodes

theorem nds_one (D : List Nd) (i : Nat) : ∀ u ∈ nds D i, u.oneCell' = true := dcs_one _
theorem Els.flat_news {w : World} {g n k : Nat} {e : Nat → List Value} (h : Els w g 0 n k e) (he : ∀ i, i < n → (e i).length = k) (hk : 0 < k) : ∀ j u, (flat n e)[j]? = some u → w.cell? ((⟨g, 0, none⟩ : Addr).add j) = some u := by
  intro j u hj
  have hlt : j < n * k := by
    have := (List.getElem?_eq_some_iff.1 hj).1
    rwa [flat_len he] at this
  have h1 : j / k < n := (Nat.div_lt_iff_lt_mul hk).2 hlt
  have h2 : j % k < k := Nat.mod_lt _ hk
  have e1 : j = j / k * k + j % k := by have := Nat.div_add_mod j k; rw [Nat.mul_comm] at this; omega
  have h3 := h.at' (j / k) h1 (j % k) h2
  rw [← flat_at he h1 h2, ← e1, hj] at h3
  rw [addr_off, Nat.zero_add]
  rw [Nat.zero_add] at h3
  exact h3
set_option maxRecDepth 100000 in
set_option maxHeartbeats 1000000 in
theorem nclone_any (g c : Nat) (D : List Nd) (w : World) (h : Els w g 0 D.length 10 (nds D)) (h0 : 0 < D.length) (hD : D.length ≤ 4000) :
    Calls Tryz.prog 34 #[.slice (some ⟨g, 0, none⟩) D.length c] w fun e w' => ∃ g' c', e = .returned (.slice (some ⟨g', 0, none⟩) D.length c') ∧ Els w' g' 0 D.length 10 (nds D) ∧ w.heap.size ≤ g' ∧ Cl w w' := by
  obtain ⟨iN, hJ0, hJ1, hJ2, hJ3⟩ := info_node
  have HE := hid h
  have hw0 : (w.alloc (.cells #[] 56)).ownsRow 0 56 10 (.slice (some ⟨w.heap.size, 0, none⟩) 0 0) 0 [] := ⟨rfl, .inr ⟨w.heap.size, 0, #[], rfl, Nat.zero_le _, Lp.Bk.al w #[] 56, Nat.le_refl _, by decide, rfl, rfl⟩⟩
  have HW := hid hw0
  clear h hw0
  have hnil := fun W => eql_nodes (some ⟨g, 0, none⟩) D.length c W
  go_enter Tryz.func34, Tryz.ntmps34
  go_wp2_with ((at_builtin; refine wpList_push _ rfl _ _ 48 rfl 56 iN (.agg #[.float .f64 0, .float .f64 0, .float .f64 0, .float .f64 0, .float .f64 0, .float .f64 0, .int .i64 0, .int .i64 0, .int .i64 0, .int .i64 0]) 10 80 under_nodes hJ0 hJ1 hJ2 hJ3 rfl (by decide) (.slice (some ⟨w.heap.size, 0, none⟩) 0 0) 0 [] rfl HW.out ⟨g, 0, none⟩ D.length c (flat D.length (nds D)) rfl (flat_len (fun _ _ => rfl)) ((HE.out.alo _).flat_news (fun _ _ => rfl) (by decide)) (flat_one fun i _ => nds_one D i) (max_small (by omega)) (by omega) ?_))
  intro v' w1 hown hg hb
  have hcl : Cl w w1 := Cl_grown ((Below.refl _ _).alloc (Nat.le_refl _) _) hg (fun g e => by have e2 : w.heap.size = g := Option.some.inj e; omega)
  have hlo : ∀ g, v'.ownBlock = some g → w.heap.size ≤ g := fun g e => by
    rcases hb with h | h
    · rw [h] at e
      have e2 : w.heap.size = g := Option.some.inj e
      omega
    · have := h g e
      omega
  have HO : Hid (w1.ownsRow 0 56 10 v' D.length (flat D.length (nds D)) ∧ Cl w w1 ∧ ∀ g, v'.ownBlock = some g → w.heap.size ≤ g) := ⟨hown, hcl, hlo⟩
  clear hown hcl hlo hb hg HE HW
  go_wp2_with fail
  go_ret
  obtain ⟨h1, h2, h3⟩ := HO.out
  rcases h1.2 with ⟨h4, h5⟩ | ⟨g', cap, cur, rfl, _⟩
  · exact absurd h5 (by omega)
  · obtain ⟨g2, e, _, hE⟩ := owns_els h1 (fun _ _ => rfl) h0
    injection e with e
    injection e with e
    subst e
    exact ⟨g', cap, rfl, hE, h3 g' rfl, h2⟩

set_option maxRecDepth 100000 in
set_option maxHeartbeats 1000000 in
theorem nodes_any (t : Nat) (D : List Nd) (O : List Nat) (w : World) (h : TreeR w t D O) (h0 : 0 < D.length) (hD : D.length ≤ 4000) : Calls Tryz.prog 17 #[.pointer (some ⟨t, 0, none⟩)] w fun e w' => ∃ g' c', e = .returned (.slice (some ⟨g', 0, none⟩) D.length c') ∧ Els w' g' 0 D.length 10 (nds D) ∧ w.heap.size ≤ g' ∧ Cl w w' := by
  obtain ⟨gN, cn, ao, co, hB, hE, hO⟩ := h
  have kT := hB.cell
  have HN := hid (nclone_any gN cn D w hE h0 hD)
  clear hE hO hB
  go_enter Tryz.func17, Tryz.ntmps17
  go_wp2_with fail
  refine Calls.mono HN.out ?_
  rintro e w1 ⟨g', c', rfl, h⟩
  go_wp2_with fail
  go_ret
  exact ⟨g', c', rfl, h⟩

set_option maxRecDepth 100000 in
set_option maxHeartbeats 1000000 in
theorem nodes_nil (w : World) : Calls Tryz.prog 17 #[.pointer none] w fun e w' => e = .returned (.slice none 0 0) ∧ Cl w w' := by
  go_enter Tryz.func17, Tryz.ntmps17
  go_wp2_with fail
  go_ret
  exact ⟨rfl, Below.refl _ _⟩

theorem oclone_any {ao : Option Addr} {c : Nat} {l : List Nat} {w : World} (hL : Sl w ao l.length 1 (lvs l)) (h5 : l.length ≤ 1000) :
    Calls Tryz.prog 96 #[.slice ao l.length c] w fun e w' => ∃ a' c', e = .returned (.slice a' l.length c') ∧ Sl w' a' l.length 1 (lvs l) ∧ (∀ g o, a' = some ⟨g, o, none⟩ → w.heap.size ≤ g) ∧ Cl w w' := by
  rcases Nat.eq_zero_or_pos l.length with h0 | h0
  · rw [h0]
    cases ao with
    | none =>
      refine Calls.mono (Tryz.slices_Clone_int_nil 0 c w) ?_
      rintro e w' ⟨rfl, rfl⟩
      exact ⟨none, 0, rfl, .inl rfl, (fun g o h => by cases h), Below.refl _ _⟩
    | some a =>
      refine Calls.mono (Tryz.slices_Clone_int_zero a c w) ?_
      rintro e w' ⟨v, rfl, hown, hne, hb⟩
      rcases hown.2 with ⟨h2, _⟩ | ⟨g', cap, cur, rfl, hg, _⟩
      · exact absurd h2 hne
      · exact ⟨_, cap, rfl, .inl rfl, (fun g o h => by cases h; exact hg), hb⟩
  · refine Calls.mono (iclone_any hL h0 h5) ?_
    rintro e w' ⟨g, c', rfl, _, hg, hg2, hc, hb⟩
    refine ⟨_, c', rfl, .inr ⟨g, 0, rfl, hg2, fun i hi j hj => ?_⟩, (fun g o h => by cases h; exact hg), hb⟩
    obtain rfl : j = 0 := by omega
    rw [show 0 + (i * 1 + 0) = i by omega]
    exact (hc i hi).1

set_option maxRecDepth 100000 in
set_option maxHeartbeats 1000000 in
theorem tri_any (t : Nat) (D : List Nd) (O : List Nat) (p : Int) (w : World) (h : TreeR w t D O) : Calls Tryz.prog 59 #[.pointer (some ⟨t, 0, none⟩), .int .i64 p] w fun e w' => e = .returned (.int .i64 (if p < 0 ∨ (O.length : Int) ≤ p then -1 else (O.getD p.toNat 0 : Nat))) ∧ Cl w w' := by
  obtain ⟨gN, cn, ao, co, hB, hE, hO⟩ := h
  have kT := hB.cell
  clear hE hB
  by_cases h0 : p < 0
  · rw [if_pos (.inl h0)]
    have hc : (p < 0) = True := eq_true h0
    go_enter Tryz.func59, Tryz.ntmps59
    go_wp2_with fail
    go_ret
    exact ⟨rfl, Below.refl _ _⟩
  · by_cases h1 : (O.length : Int) ≤ p
    · rw [if_pos (.inr h1)]
      have hc : (p < 0) = False := eq_false h0
      have hc1 : ((O.length : Int) ≤ p) = True := eq_true h1
      go_enter Tryz.func59, Tryz.ntmps59
      go_wp2_with fail
      go_ret
      exact ⟨rfl, Below.refl _ _⟩
    · rw [if_neg (by omega)]
      obtain ⟨i, rfl⟩ : ∃ i : Nat, p = i := ⟨p.toNat, by omega⟩
      have hi : i < O.length := by omega
      obtain ⟨g, o, rfl, E⟩ := hO.get hi
      have k1 := E.num hi
      clear E hO h1
      have hc1 : ((O.length : Int) ≤ (i : Int)) = False := eq_false (by omega)
      have hc2 : ((i : Int) < (O.length : Int)) = True := eq_true (by omega)
      simp only [Int.toNat_natCast]
      go_enter Tryz.func59, Tryz.ntmps59
      go_wp2_with fail
      go_ret
      exact ⟨rfl, Below.refl _ _⟩

set_option maxRecDepth 100000 in
set_option maxHeartbeats 1000000 in
theorem tri_nil (p : Int) (w : World) : Calls Tryz.prog 59 #[.pointer none, .int .i64 p] w fun e w' => e = .returned (.int .i64 (-1)) ∧ Cl w w' := by
  go_enter Tryz.func59, Tryz.ntmps59
  go_wp2_with fail
  go_ret
  exact ⟨rfl, Below.refl _ _⟩

end Go.Proofs.YtiblmojdjnfoaaaGreat

namespace Go.Proofs.YtiblmojdjnfoaaaGreat
open Go.RowKit Fl Lm

abbrev outD (D : List Nd) (i : Int) : Prop := i < 0 ∨ (D.length : Int) ≤ i
def ndAt (D : List Nd) (i : Int) : Nd := if outD D i then nd0 else D.getD i.toNat nd0
def isAt (D : List Nd) (i : Int) : Bool := !decide (outD D i)
theorem dat0 {w : World} {g : Nat} {D : List Nd} (h : Els w g 0 D.length 10 (nds D)) {i : Nat} (hi : i < D.length) : w.cell? ⟨g, i * 10, none⟩ = some (.float .f64 (D.getD i nd0).box.a0) ∧ w.cell? ⟨g, i * 10 + 1, none⟩ = some (.float .f64 (D.getD i nd0).box.a1) ∧ w.cell? ⟨g, i * 10 + 2, none⟩ = some (.float .f64 (D.getD i nd0).box.a2) ∧ w.cell? ⟨g, i * 10 + 3, none⟩ = some (.float .f64 (D.getD i nd0).box.a3) ∧ w.cell? ⟨g, i * 10 + 4, none⟩ = some (.float .f64 (D.getD i nd0).box.a4) ∧ w.cell? ⟨g, i * 10 + 5, none⟩ = some (.float .f64 (D.getD i nd0).box.a5) ∧ w.cell? ⟨g, i * 10 + 6, none⟩ = some (.int .i64 ((D.getD i nd0).left : Nat)) ∧ w.cell? ⟨g, i * 10 + 7, none⟩ = some (.int .i64 ((D.getD i nd0).right : Nat)) ∧ w.cell? ⟨g, i * 10 + 8, none⟩ = some (.int .i64 ((D.getD i nd0).lo : Nat)) ∧ w.cell? ⟨g, i * 10 + 9, none⟩ = some (.int .i64 ((D.getD i nd0).hi : Nat)) := by
  have := dat (f := fun i => D.getD i nd0) h hi
  simp only [Nat.zero_add] at this
  exact this

set_option maxRecDepth 100000 in
set_option maxHeartbeats 1000000 in
theorem node_any (t : Nat) (D : List Nd) (O : List Nat) (p : Int) (w : World) (h : TreeR w t D O) : Ret Tryz.prog 63 #[.pointer (some ⟨t, 0, none⟩), .int .i64 p] w (fun v => v = .tuple #[dxv (ndAt D p), .bool (isAt D p)]) := by
  unfold Ret
  obtain ⟨gN, cn, ao, co, hB, hE, hO⟩ := h
  have kT := hB.cell
  have htw := hB.lt
  have hne : (t = w.heap.size) = False := eq_false (by omega)
  clear hO hB
  by_cases h0 : p < 0
  · have e1 : ndAt D p = nd0 := if_pos (.inl h0)
    have e2 : isAt D p = false := by unfold isAt; rw [decide_eq_true (show outD D p from .inl h0)]; rfl
    rw [e1, e2]
    have hc : (p < 0) = True := eq_true h0
    clear hE
    go_enter Tryz.func63, Tryz.ntmps63
    go_wp2_with fail
    refine bodyPost_ret (v := .tuple #[.agg #[.float .f64 0, .float .f64 0, .float .f64 0, .float .f64 0, .float .f64 0, .float .f64 0, .int .i64 0, .int .i64 0, .int .i64 0, .int .i64 0], .bool false]) (by simp [results, go_sem]) rfl ⟨_, rfl, rfl, ?_⟩
    exact (Below.refl _ _).alloc (Nat.le_refl _) _
  · by_cases h1 : (D.length : Int) ≤ p
    · have e1 : ndAt D p = nd0 := if_pos (.inr h1)
      have e2 : isAt D p = false := by unfold isAt; rw [decide_eq_true (show outD D p from .inr h1)]; rfl
      rw [e1, e2]
      have hc : (p < 0) = False := eq_false h0
      have hc1 : ((D.length : Int) ≤ p) = True := eq_true h1
      clear hE
      go_enter Tryz.func63, Tryz.ntmps63
      go_wp2_with fail
      refine bodyPost_ret (v := .tuple #[.agg #[.float .f64 0, .float .f64 0, .float .f64 0, .float .f64 0, .float .f64 0, .float .f64 0, .int .i64 0, .int .i64 0, .int .i64 0, .int .i64 0], .bool false]) (by simp [results, go_sem]) rfl ⟨_, rfl, rfl, ?_⟩
      exact (Below.refl _ _).alloc (Nat.le_refl _) _
    · have hno : ¬ outD D p := fun h => by rcases h with h | h; exact h0 h; exact h1 h
      have e1 : ndAt D p = D.getD p.toNat nd0 := if_neg hno
      have e2 : isAt D p = true := by unfold isAt; rw [decide_eq_false hno]; rfl
      rw [e1, e2]
      clear e1 e2 hno
      obtain ⟨i, rfl⟩ : ∃ i : Nat, p = i := ⟨p.toNat, by omega⟩
      have hi : i < D.length := by omega
      obtain ⟨k0, k1, k2, k3, k4, k5, k6, k7, k8, k9⟩ := dat0 hE hi
      have hgl := hE.lt
      have hgn : (gN = w.heap.size) = False := eq_false (by omega)
      simp only [Int.toNat_natCast]
      generalize D.getD i nd0 = x at *
      clear hE h1
      have hc1 : ((D.length : Int) ≤ (i : Int)) = False := eq_false (by omega)
      have hc2 : ((i : Int) < (D.length : Int)) = True := eq_true (by omega)
      unfold dxv
      go_enter Tryz.func63, Tryz.ntmps63
      go_wp2_with fail
      refine bodyPost_ret (v := .tuple #[.agg #[.float .f64 x.box.a0, .float .f64 x.box.a1, .float .f64 x.box.a2, .float .f64 x.box.a3, .float .f64 x.box.a4, .float .f64 x.box.a5, .int .i64 (x.left : Nat), .int .i64 (x.right : Nat), .int .i64 (x.lo : Nat), .int .i64 (x.hi : Nat)], .bool true]) (by simp [results, go_sem]) rfl ⟨_, rfl, rfl, ?_⟩
      exact (Below.refl _ _).alloc (Nat.le_refl _) _

set_option maxRecDepth 100000 in
set_option maxHeartbeats 1000000 in
theorem node_nil (p : Int) (w : World) : Ret Tryz.prog 63 #[.pointer none, .int .i64 p] w (fun v => v = .tuple #[dxv nd0, .bool false]) := by
  unfold Ret
  go_enter Tryz.func63, Tryz.ntmps63
  go_wp2_with fail
  refine bodyPost_ret (v := .tuple #[.agg #[.float .f64 0, .float .f64 0, .float .f64 0, .float .f64 0, .float .f64 0, .float .f64 0, .int .i64 0, .int .i64 0, .int .i64 0, .int .i64 0], .bool false]) (by simp [results, go_sem]) rfl ⟨_, rfl, rfl, ?_⟩
  exact (Below.refl _ _).alloc (Nat.le_refl _) _

end Go.Proofs.YtiblmojdjnfoaaaGreat

namespace Go.Proofs.YtiblmojdjnfoaaaGreat
open Go.RowKit Fl Lm Rg

/-- A tree's nodes as they are come to: a's number, what it is, whether it is there, and what is below it. -/
structure Tre (α : Type) where
  nd : α → Nd
  th : α → Bool
  kk : α → Nat
  next : α → List α
  sz : α → Nat
  leaf : ∀ a, th a = true → (nd a).right = 0 → next a = []
  inn : ∀ a, th a = true → (nd a).right ≠ 0 → ∃ b c, next a = [b, c] ∧ kk b = (nd a).left ∧ kk c = (nd a).right ∧ sz b + sz c < sz a
  pos : ∀ a, 0 < sz a
section
variable {α : Type} (R : Tre α)
def Tre.ks (st : List α) : List Nat := (st.map R.kk).reverse
def Tre.sum (st : List α) : Nat := (st.map R.sz).sum
theorem Tre.ks_len (st : List α) : (R.ks st).length = st.length := by simp [Tre.ks]
theorem Tre.ks_cons (a : α) (st : List α) : R.ks (a :: st) = R.ks st ++ [R.kk a] := by simp [Tre.ks]
theorem Tre.sum_cons (a : α) (st : List α) : R.sum (a :: st) = R.sz a + R.sum st := by simp [Tre.sum]
end
theorem Tre.len_sum {α : Type} (R : Tre α) : ∀ st : List α, st.length ≤ R.sum st
  | [] => Nat.le_refl _
  | a :: st => by have := Tre.len_sum R st; have := R.pos a; rw [R.sum_cons, List.length_cons]; omega
theorem Own.kept {X : Nat → Prop} {N : Nat} {w w' : World} {ty : TypeId} {k n : Nat} {v : Value} {e : Nat → List Value} (h : Own N w ty k v n e) (hk : Kept X w w') (hx : ∀ g, X g → g < N) : Own N w' ty k v n e := by
  refine ⟨⟨h.row.1, ?_⟩, h.lo⟩
  rcases h.row.2 with h2 | ⟨g, cap, cur, hv, hg, hb, r⟩
  · exact .inl h2
  · refine .inr ⟨g, cap, cur, hv, hg, ?_, r⟩
    have hN := h.lo g (by rw [hv]; rfl)
    exact (hk.block g (Array.getElem?_eq_some_iff.1 hb).1 (fun q => by have := hx g q; omega)).trans hb
theorem Own.at0 {N : Nat} {w : World} {ty : TypeId} {n : Nat} {v : Value} {e : Nat → List Value} (h : Own N w ty 1 v n e) (hn : 0 < n) (he : ∀ i, i < n → (e i).length = 1) : ∃ g cap, v = .slice (some ⟨g, 0, none⟩) n cap ∧ n ≤ cap ∧ N ≤ g ∧ Els w g 0 n 1 e := by
  rcases h.row.2 with ⟨_, h0⟩ | ⟨g, cap, cur, hv, _, _, hc, _⟩
  · omega
  · subst hv
    have hs := h.sl he
    obtain ⟨g', o, e1, E⟩ := hs.get hn
    cases e1
    exact ⟨g, cap, rfl, hc, h.lo g rfl, E⟩
theorem lvs_len1 (L : List Nat) (n : Nat) : ∀ i, i < n → (lvs L i).length = 1 := fun _ _ => rfl
theorem own_one (w : World) (x : Nat) : Own w.heap.size (w.alloc (.cells #[.int .i64 (x : Nat)] 3)) 3 1 (.slice (some ⟨w.heap.size, 0, none⟩) 1 1) [x].length (lvs [x]) :=
  ⟨⟨rfl, .inr ⟨w.heap.size, 1, #[.int .i64 (x : Nat)], rfl, Nat.zero_le _, Lp.Bk.al w _ _, Nat.le_refl _, by decide, rfl, rfl⟩⟩, fun g e => by have e2 : w.heap.size = g := Option.some.inj e; omega⟩

/-- What the function of a ray and a tree has captured. -/
structure EntR (w : World) (gx gr gw : Nat) (xp wv : Value) (O D : V3) : Prop where
  x : Lp.Bk w gx #[xp] 42
  r : Lp.Bk w gr #[.float .f64 O.x, .float .f64 O.y, .float .f64 O.z, .float .f64 D.x, .float .f64 D.y, .float .f64 D.z] 27
  g : Lp.Bk w gw #[wv] 79
theorem EntR.keep {w w' : World} {gx gr gw : Nat} {xp wv : Value} {O D : V3} (h : EntR w gx gr gw xp wv O D) (hb : Below w.heap.size w w') : EntR w' gx gr gw xp wv O D := ⟨h.x.keep hb, h.r.keep hb, h.g.keep hb⟩
theorem EntR.kept {X : Nat → Prop} {w w' : World} {gx gr gw : Nat} {xp wv : Value} {O D : V3} (h : EntR w gx gr gw xp wv O D) (hk : Kept X w w') (hx : ¬ X gx ∧ ¬ X gr ∧ ¬ X gw) : EntR w' gx gr gw xp wv O D := ⟨hk.bk h.x hx.1, hk.bk h.r hx.2.1, hk.bk h.g hx.2.2⟩
theorem EntR.low {N : Nat} {w w' : World} {gx gr gw : Nat} {xp wv : Value} {O D : V3} (h : EntR w gx gr gw xp wv O D) (hb : Below N w w') (hn : gx < N ∧ gr < N ∧ gw < N) : EntR w' gx gr gw xp wv O D :=
  ⟨(hb.block gx hn.1).trans h.x, (hb.block gr hn.2.1).trans h.r, (hb.block gw hn.2.2).trans h.g⟩
def entV (gx gr gw : Nat) : Value := .func (.func 62) #[] #[.pointer (some ⟨gx, 0, none⟩), .pointer (some ⟨gr, 0, none⟩), .pointer (some ⟨gw, 0, none⟩)]

set_option maxRecDepth 100000 in
theorem entered_any (p : Option Addr) (f : Fn) (b c : Array Value) (O D : V3) (w : World) :
    Calls Tryz.prog 40 #[.pointer p, .agg #[.float .f64 O.x, .float .f64 O.y, .float .f64 O.z, .float .f64 D.x, .float .f64 D.y, .float .f64 D.z], .func f b c] w fun e w' => ∃ gx gr gw, e = .returned (entV gx gr gw) ∧ EntR w' gx gr gw (.pointer p) (.func f b c) O D ∧ (w.heap.size ≤ gx ∧ w.heap.size ≤ gr ∧ w.heap.size ≤ gw) ∧ Cl w w' := by
  go_enter Tryz.func40, Tryz.ntmps40
  go_wp2_with fail
  go_ret
  refine ⟨_, _, _, rfl, ⟨((Lp.Bk.al _ _ _).alo _).alo _, (Lp.Bk.al1 _ _ _ _).alo _, Lp.Bk.al2 _ _ _ _ _⟩, ⟨Nat.le_refl _, by omega, by omega⟩, ?_⟩
  exact (((Below.refl _ _).alloc (Nat.le_refl _) _).alloc (by simp) _).alloc (by simp <;> omega) _

/-- What a call of Node tells. -/
def NodeC {α : Type} (R : Tre α) (xp : Value) (w : World) : Prop := ∀ a W, Cl w W → Ret Tryz.prog 63 #[xp, .int .i64 (R.kk a : Nat)] W (fun v => v = .tuple #[dxv (R.nd a), .bool (R.th a)])

attribute [local go_sem] Oper.semAt_some
set_option maxRecDepth 100000 in
set_option maxHeartbeats 4000000 in
theorem entered1_any {α : Type} (R : Tre α) (O D : V3) (xp : Option Addr) (fw : Nat) (lbw : Array Value) (l : Nat) (X : Nat → Prop) (w : World) (J : List α → World → Prop) (Jx : World → Prop) (a0 : α) (gx gr gw : Nat) (W0 : World)
    (hk0 : R.kk a0 = 0) (hsz : R.sz a0 ≤ 2000) (hE : EntR W0 gx gr gw (.pointer xp) (.func (.func fw) #[] lbw) O D) (hXg : ¬ X gx ∧ ¬ X gr ∧ ¬ X gw) (hX : ∀ k, X k → k < W0.heap.size)
    (eg : ∀ args w, (callFunc fw args).run Tryz.prog w = .ok (.enter fw args) w) (hN : NodeC R (.pointer xp) w)
    (hJc : ∀ s W, J s W → Cl w W) (hJs : ∀ s W W', J s W → Below W0.heap.size W W' → J s W')
    (hsk : ∀ a s W, J (a :: s) W → (R.th a = false ∨ goB O D (R.nd a).box = none) → J s W)
    (hwo : ∀ a s W z, J (a :: s) W → goB O D (R.nd a).box = some z → ∃ b : Bool, Ret Tryz.prog fw (#[.float .f64 z.1] ++ lbw) W (fun v => v = .bool b) ∧ (b = false → J s W))
    (hyi : ∀ a s W z, J (a :: s) W → R.th a = true → goB O D (R.nd a).box = some z → YieldAt Fence.wide 0 Tryz.prog l #[dxv (R.nd a)] W (fun e W' => (e = .returned (.bool true) ∧ J (R.next a ++ s) W' ∧ Kept X W W') ∨ (e = .returned (.bool false) ∧ Jx W')))
    (h0 : J [a0] W0) :
    Calls Tryz.prog 62 #[.func (.yield l) #[] #[], .pointer (some ⟨gx, 0, none⟩), .pointer (some ⟨gr, 0, none⟩), .pointer (some ⟨gw, 0, none⟩)] W0 fun e W' => (∃ v, e = .returned v) ∧ (J [] W' ∨ Jx W') := by
  obtain ⟨iI, hI0, hI1, hI2, hI3⟩ := info_int
  obtain ⟨N, hNN⟩ : ∃ N, N = W0.heap.size := ⟨_, rfl⟩
  have HNN := aside hNN
  have HE := hid hE
  have hgN : gx < N ∧ gr < N ∧ gw < N := by subst hNN; exact ⟨hE.x.lt, hE.r.lt, hE.g.lt⟩
  rw [← hNN] at hX hJs
  have HGN := aside hgN
  have HXG := aside hXg
  have HX := aside hX
  have HN := hid hN
  have HJC := hid hJc
  have HJS := hid hJs
  have HSK := hid hsk
  have HWO := hid hwo
  have HYI := hid hyi
  have HJ0 := hid h0
  have HK0 := aside hk0
  have HSZ := aside hsz
  clear hE hXg hX hN hJc hJs hsk hwo hyi h0 hk0 hsz hNN hgN
  go_enter Tryz.func62, Tryz.ntmps62
  go_wp2_with fail
  go_step3
  go_wp2_with fail
  go_step3
  go_wp2_with fail
  have HO1 : Hid (Own N (W0.alloc (.cells #[.int .i64 0] 3)) 3 1 (.slice (some ⟨W0.heap.size, 0, none⟩) 1 1) (R.ks [a0]).length (lvs (R.ks [a0]))) := by
    rw [HNN.out]
    have h := own_one W0 0
    have e : R.ks [a0] = [0] := by show [R.kk a0] = [0]; rw [HK0.out]
    rw [e]
    exact h
  have HB1 : Hid (Below N W0 (W0.alloc (.cells #[.int .i64 0] 3))) := by rw [HNN.out]; exact (Below.refl _ _).alloc (Nat.le_refl _) _
  have HJ1 := hid (HJS.out _ _ _ HJ0.out HB1.out)
  have HE1 := hid (HE.out.low HB1.out HGN.out)
  have HS1 := aside (show N ≤ (W0.alloc (.cells #[.int .i64 0] 3)).heap.size by rw [HNN.out]; simp)
  go_loopg [5] (R.sz a0) (fun k sl wr => ∃ st : List α, R.sum st ≤ k ∧ k ≤ 2000 ∧ Own N wr 3 1 sl (R.ks st).length (lvs (R.ks st)) ∧ J st wr ∧ EntR wr gx gr gw (.pointer xp) (.func (.func fw) #[] lbw) O D ∧ N ≤ wr.heap.size)
  case atStart => exact ⟨[a0], by simp [Tre.sum], HSZ.out, HO1.out, HJ1.out, HE1.out, HS1.out⟩
  case round =>
    clear HO1 HB1 HJ1 HE1 HS1 HJ0 HK0 HSZ HE HNN
    obtain ⟨g0, hg0⟩ : ∃ g0, g0 = gk := ⟨_, rfl⟩
    subst hg0
    obtain ⟨wo, hwo⟩ : ∃ wo, wo = wr := ⟨_, rfl⟩
    subst hwo
    obtain ⟨st, hsum, hk2, hO, hJ, hE, hS⟩ := hrel
    have HSUM := aside hsum
    have HK2 := aside hk2
    have HJ := hid hJ
    have HE := hid hE
    have HS := aside hS
    clear hsum hk2 hJ hE hS
    cases st with
    | nil =>
      have hlen : (R.ks ([] : List α)).length = 0 := rfl
      rw [hlen] at hO
      obtain ⟨ao, co, rfl⟩ := hO.slice
      clear hO
      go_wp2_with fail
      rw [Exit.noGoto_normal]
      go_end0
      exact ⟨⟨_, rfl⟩, .inl HJ.out⟩
    | cons a s =>
      have hlen : (R.ks (a :: s)).length = s.length + 1 := R.ks_len _
      have hO' := hO
      rw [hlen] at hO'
      obtain ⟨g, cap, rfl, hcap, hgN, E⟩ := hO'.at0 (Nat.succ_pos _) (lvs_len1 _ _)
      have k0 : wo.cell? ⟨g, s.length, none⟩ = some (.int .i64 (R.kk a : Nat)) := by
        have h := E.num (Nat.lt_succ_self _)
        rw [Nat.zero_add] at h
        rw [h, R.ks_cons, List.getD_eq_getElem?_getD, List.getElem?_append_right (by rw [R.ks_len]; exact Nat.le_refl _), R.ks_len, Nat.sub_self]
        rfl
      have hcut : Own N wo 3 1 (.slice (some ⟨g, 0, none⟩) s.length cap) (R.ks s).length (lvs (R.ks s)) := by
        rw [R.ks_len]
        refine (hO'.cut (lvs_len1 _ _) (Nat.le_succ _)).congr fun i hi => ?_
        unfold lvs
        rw [R.ks_cons, List.getD_eq_getElem?_getD, List.getD_eq_getElem?_getD, List.getElem?_append_left (by rw [R.ks_len]; exact hi)]
      have HO := hid hcut
      have HLS := aside (show s.length + 1 ≤ R.sum (a :: s) from Tre.len_sum R (a :: s))
      have hs2 : s.length < 2000 := by have := HLS.out; have := HSUM.out; have := HK2.out; omega
      have hcap2 : s.length ≤ cap := by omega
      have hcap3 : (s.length : Int) ≤ (cap : Int) := by omega
      clear hO hO' hcut E hcap hlen HLS
      generalize hm : s.length = m at *
      have HM := aside hm
      clear hm
      go_wp2_with fail
      go_loopg [5, 7] g0 (fun k sl i wr => ∃ (a : α) (s : List α), R.sum (a :: s) ≤ k ∧ R.sum (a :: s) ≤ g0 ∧ i = .int .i64 (R.kk a : Nat) ∧ Own N wr 3 1 sl (R.ks s).length (lvs (R.ks s)) ∧ J (a :: s) wr ∧ EntR wr gx gr gw (.pointer xp) (.func (.func fw) #[] lbw) O D ∧ N ≤ wr.heap.size)
      case atStart => exact ⟨a, s, HSUM.out, HSUM.out, rfl, HO.out, HJ.out, HE.out, HS.out⟩
      case round =>
        clear HO HJ HE HS HM HSUM k0 hs2 hcap2 hcap3 hgN
        obtain ⟨g1, hg1⟩ : ∃ g1, g1 = gk := ⟨_, rfl⟩
        subst hg1
        obtain ⟨wi, hwi⟩ : ∃ wi, wi = wr := ⟨_, rfl⟩
        subst hwi
        obtain ⟨a, s, hs1, hs0, rfl, hO, hJ, hE, hS⟩ := hrel
        have HSI := aside hs1
        have HSG := aside hs0
        have HO := hid hO
        have HJ := hid hJ
        have HE := hid hE
        have HS := aside hS
        clear hs1 hs0 hO hJ hE hS
        have kX := HE.out.x.cell
        have kR := HE.out.r.cell
        have kW := HE.out.g.cell
        have hna := HN.out a wi (HJC.out _ _ HJ.out)
        unfold dxv at hna
        have ht : ∀ w', Ret Tryz.prog 64 #[.agg #[.float .f64 (R.nd a).box.a0, .float .f64 (R.nd a).box.a1, .float .f64 (R.nd a).box.a2, .float .f64 (R.nd a).box.a3, .float .f64 (R.nd a).box.a4, .float .f64 (R.nd a).box.a5], .agg #[.float .f64 O.x, .float .f64 O.y, .float .f64 O.z, .float .f64 D.x, .float .f64 D.y, .float .f64 D.z]] w' (fun v => v = outT (goB O D (R.nd a).box)) := fun w' => through_any _ _ _ _ _ _ _ _ _ _ _ _ w'
        cases hth : R.th a with
        | false =>
          rw [hth] at hna
          have HNA := hid hna
          clear hna
          cases hz : goB O D (R.nd a).box with
          | none =>
            rw [hz] at ht
            have HT := hid ht
            clear ht
            simp only [outT] at HT
            go_wp2_with fail
            refine Calls.mono HNA.out ?_
            rintro e w1 ⟨v, rfl, rfl, hm⟩
            have HO1 := hid (HO.out.keep hm)
            have HJ1 := hid (HJS.out _ _ _ HJ.out (hm.mono HS.out))
            have HE1 := hid (HE.out.keep hm)
            have HS1 := aside (Nat.le_trans HS.out hm.size)
            clear hm HO HJ HE HS HNA kX kR kW
            have kR := HE1.out.r.cell
            have e1 : (gr = w1.heap.size) = False := eq_false (by have := HE1.out.r.lt; omega)
            have e2 : gr < w1.heap.size := HE1.out.r.lt
            go_wp2_with fail
            have BN := Lp.Bk.al w1 #[.float .f64 (R.nd a).box.a0, .float .f64 (R.nd a).box.a1, .float .f64 (R.nd a).box.a2, .float .f64 (R.nd a).box.a3, .float .f64 (R.nd a).box.a4, .float .f64 (R.nd a).box.a5, .int .i64 ((R.nd a).left : Nat), .int .i64 ((R.nd a).right : Nat), .int .i64 ((R.nd a).lo : Nat), .int .i64 ((R.nd a).hi : Nat)] 56
            have hal : Below w1.heap.size w1 (w1.alloc (.cells #[.float .f64 (R.nd a).box.a0, .float .f64 (R.nd a).box.a1, .float .f64 (R.nd a).box.a2, .float .f64 (R.nd a).box.a3, .float .f64 (R.nd a).box.a4, .float .f64 (R.nd a).box.a5, .int .i64 ((R.nd a).left : Nat), .int .i64 ((R.nd a).right : Nat), .int .i64 ((R.nd a).lo : Nat), .int .i64 ((R.nd a).hi : Nat)] 56)) := (Below.refl _ _).alloc (Nat.le_refl _) _
            refine Calls.mono (HT.out _) ?_
            rintro e w2 ⟨v, rfl, rfl, hm⟩
            have BN2 := hid (BN.keep hm)
            have hm2 : Below w1.heap.size w1 w2 := hal.trans (hm.mono hal.size)
            have HO2 := hid (HO1.out.keep hm2)
            have HJ2 := hid (HJS.out _ _ _ HJ1.out (hm2.mono HS1.out))
            have HE2 := hid (HE1.out.keep hm2)
            have HS2 := aside (Nat.le_trans HS1.out hm2.size)
            have HGE := aside HS1.out
            have HGL := aside HO1.out.lt
            clear hm hm2 hal BN HO1 HJ1 HE1 HS1 HT kR e1 e2
            go_wp2_with fail
            go_roundg (g0 - 1)
            case measure => have := HSG.out; have := R.pos a; have := R.sum_cons a s; omega
            case rel => exact ⟨s, by have := HSG.out; have := R.pos a; have := R.sum_cons a s; omega, by have := HK2.out; omega, HO2.out, HSK.out a s w2 HJ2.out (.inl hth), HE2.out, HS2.out⟩
          | some z =>
            rw [hz] at ht
            have HT := hid ht
            clear ht
            simp only [outT] at HT
            go_wp2_with fail
            refine Calls.mono HNA.out ?_
            rintro e w1 ⟨v, rfl, rfl, hm⟩
            have HO1 := hid (HO.out.keep hm)
            have HJ1 := hid (HJS.out _ _ _ HJ.out (hm.mono HS.out))
            have HE1 := hid (HE.out.keep hm)
            have HS1 := aside (Nat.le_trans HS.out hm.size)
            clear hm HO HJ HE HS HNA kX kR kW
            have kR := HE1.out.r.cell
            have e1 : (gr = w1.heap.size) = False := eq_false (by have := HE1.out.r.lt; omega)
            have e2 : gr < w1.heap.size := HE1.out.r.lt
            go_wp2_with fail
            have BN := Lp.Bk.al w1 #[.float .f64 (R.nd a).box.a0, .float .f64 (R.nd a).box.a1, .float .f64 (R.nd a).box.a2, .float .f64 (R.nd a).box.a3, .float .f64 (R.nd a).box.a4, .float .f64 (R.nd a).box.a5, .int .i64 ((R.nd a).left : Nat), .int .i64 ((R.nd a).right : Nat), .int .i64 ((R.nd a).lo : Nat), .int .i64 ((R.nd a).hi : Nat)] 56
            have hal : Below w1.heap.size w1 (w1.alloc (.cells #[.float .f64 (R.nd a).box.a0, .float .f64 (R.nd a).box.a1, .float .f64 (R.nd a).box.a2, .float .f64 (R.nd a).box.a3, .float .f64 (R.nd a).box.a4, .float .f64 (R.nd a).box.a5, .int .i64 ((R.nd a).left : Nat), .int .i64 ((R.nd a).right : Nat), .int .i64 ((R.nd a).lo : Nat), .int .i64 ((R.nd a).hi : Nat)] 56)) := (Below.refl _ _).alloc (Nat.le_refl _) _
            refine Calls.mono (HT.out _) ?_
            rintro e w2 ⟨v, rfl, rfl, hm⟩
            have BN2 := hid (BN.keep hm)
            have hm2 : Below w1.heap.size w1 w2 := hal.trans (hm.mono hal.size)
            have HO2 := hid (HO1.out.keep hm2)
            have HJ2 := hid (HJS.out _ _ _ HJ1.out (hm2.mono HS1.out))
            have HE2 := hid (HE1.out.keep hm2)
            have HS2 := aside (Nat.le_trans HS1.out hm2.size)
            have HGE := aside HS1.out
            have HGL := aside HO1.out.lt
            clear hm hm2 hal BN HO1 HJ1 HE1 HS1 HT kR e1 e2
            go_wp2_with fail
            go_roundg (g0 - 1)
            case measure => have := HSG.out; have := R.pos a; have := R.sum_cons a s; omega
            case rel => exact ⟨s, by have := HSG.out; have := R.pos a; have := R.sum_cons a s; omega, by have := HK2.out; omega, HO2.out, HSK.out a s w2 HJ2.out (.inl hth), HE2.out, HS2.out⟩
        | true =>
          rw [hth] at hna
          have HNA := hid hna
          clear hna
          cases hz : goB O D (R.nd a).box with
          | none =>
            rw [hz] at ht
            have HT := hid ht
            clear ht
            simp only [outT] at HT
            go_wp2_with fail
            refine Calls.mono HNA.out ?_
            rintro e w1 ⟨v, rfl, rfl, hm⟩
            have HO1 := hid (HO.out.keep hm)
            have HJ1 := hid (HJS.out _ _ _ HJ.out (hm.mono HS.out))
            have HE1 := hid (HE.out.keep hm)
            have HS1 := aside (Nat.le_trans HS.out hm.size)
            clear hm HO HJ HE HS HNA kX kR kW
            have kR := HE1.out.r.cell
            have e1 : (gr = w1.heap.size) = False := eq_false (by have := HE1.out.r.lt; omega)
            have e2 : gr < w1.heap.size := HE1.out.r.lt
            go_wp2_with fail
            have BN := Lp.Bk.al w1 #[.float .f64 (R.nd a).box.a0, .float .f64 (R.nd a).box.a1, .float .f64 (R.nd a).box.a2, .float .f64 (R.nd a).box.a3, .float .f64 (R.nd a).box.a4, .float .f64 (R.nd a).box.a5, .int .i64 ((R.nd a).left : Nat), .int .i64 ((R.nd a).right : Nat), .int .i64 ((R.nd a).lo : Nat), .int .i64 ((R.nd a).hi : Nat)] 56
            have hal : Below w1.heap.size w1 (w1.alloc (.cells #[.float .f64 (R.nd a).box.a0, .float .f64 (R.nd a).box.a1, .float .f64 (R.nd a).box.a2, .float .f64 (R.nd a).box.a3, .float .f64 (R.nd a).box.a4, .float .f64 (R.nd a).box.a5, .int .i64 ((R.nd a).left : Nat), .int .i64 ((R.nd a).right : Nat), .int .i64 ((R.nd a).lo : Nat), .int .i64 ((R.nd a).hi : Nat)] 56)) := (Below.refl _ _).alloc (Nat.le_refl _) _
            refine Calls.mono (HT.out _) ?_
            rintro e w2 ⟨v, rfl, rfl, hm⟩
            have BN2 := hid (BN.keep hm)
            have hm2 : Below w1.heap.size w1 w2 := hal.trans (hm.mono hal.size)
            have HO2 := hid (HO1.out.keep hm2)
            have HJ2 := hid (HJS.out _ _ _ HJ1.out (hm2.mono HS1.out))
            have HE2 := hid (HE1.out.keep hm2)
            have HS2 := aside (Nat.le_trans HS1.out hm2.size)
            have HGE := aside HS1.out
            have HGL := aside HO1.out.lt
            clear hm hm2 hal BN HO1 HJ1 HE1 HS1 HT kR e1 e2
            go_wp2_with fail
            go_roundg (g0 - 1)
            case measure => have := HSG.out; have := R.pos a; have := R.sum_cons a s; omega
            case rel => exact ⟨s, by have := HSG.out; have := R.pos a; have := R.sum_cons a s; omega, by have := HK2.out; omega, HO2.out, HSK.out a s w2 HJ2.out (.inr hz), HE2.out, HS2.out⟩
          | some z =>
            rw [hz] at ht
            have HT := hid ht
            clear ht
            simp only [outT] at HT
            go_wp2_with fail
            refine Calls.mono HNA.out ?_
            rintro e w1 ⟨v, rfl, rfl, hm⟩
            have HO1 := hid (HO.out.keep hm)
            have HJ1 := hid (HJS.out _ _ _ HJ.out (hm.mono HS.out))
            have HE1 := hid (HE.out.keep hm)
            have HS1 := aside (Nat.le_trans HS.out hm.size)
            clear hm HO HJ HE HS HNA kX kR kW
            have kR := HE1.out.r.cell
            have e1 : (gr = w1.heap.size) = False := eq_false (by have := HE1.out.r.lt; omega)
            have e2 : gr < w1.heap.size := HE1.out.r.lt
            go_wp2_with fail
            have BN := Lp.Bk.al w1 #[.float .f64 (R.nd a).box.a0, .float .f64 (R.nd a).box.a1, .float .f64 (R.nd a).box.a2, .float .f64 (R.nd a).box.a3, .float .f64 (R.nd a).box.a4, .float .f64 (R.nd a).box.a5, .int .i64 ((R.nd a).left : Nat), .int .i64 ((R.nd a).right : Nat), .int .i64 ((R.nd a).lo : Nat), .int .i64 ((R.nd a).hi : Nat)] 56
            have hal : Below w1.heap.size w1 (w1.alloc (.cells #[.float .f64 (R.nd a).box.a0, .float .f64 (R.nd a).box.a1, .float .f64 (R.nd a).box.a2, .float .f64 (R.nd a).box.a3, .float .f64 (R.nd a).box.a4, .float .f64 (R.nd a).box.a5, .int .i64 ((R.nd a).left : Nat), .int .i64 ((R.nd a).right : Nat), .int .i64 ((R.nd a).lo : Nat), .int .i64 ((R.nd a).hi : Nat)] 56)) := (Below.refl _ _).alloc (Nat.le_refl _) _
            refine Calls.mono (HT.out _) ?_
            rintro e w2 ⟨v, rfl, rfl, hm⟩
            have BN2 := hid (BN.keep hm)
            have hm2 : Below w1.heap.size w1 w2 := hal.trans (hm.mono hal.size)
            have HO2 := hid (HO1.out.keep hm2)
            have HJ2 := hid (HJS.out _ _ _ HJ1.out (hm2.mono HS1.out))
            have HE2 := hid (HE1.out.keep hm2)
            have HS2 := aside (Nat.le_trans HS1.out hm2.size)
            have HGE := aside HS1.out
            have HGL := aside HO1.out.lt
            clear hm hm2 hal BN HO1 HJ1 HE1 HS1 HT kR e1 e2
            obtain ⟨b, hw1, hw2⟩ := HWO.out a s w2 z HJ2.out hz
            have kW := HE2.out.g.cell
            cases b with
            | false =>
              have HJ3 := hid (hw2 rfl)
              clear hw2 HJ2
              go_wp2_with fail
              refine Calls.mono hw1 ?_
              rintro e w3 ⟨v, rfl, rfl, hm⟩
              have HJ2 := hid (HJS.out _ _ _ HJ3.out (hm.mono HS2.out))
              replace HO2 := hid (HO2.out.keep hm)
              replace HE2 := hid (HE2.out.keep hm)
              replace HS2 := aside (Nat.le_trans HS2.out hm.size)
              clear hm kW hw1 HJ3
              go_wp2_with fail
              go_roundg (g0 - 1)
              case measure => have := HSG.out; have := R.pos a; have := R.sum_cons a s; omega
              case rel => exact ⟨s, by have := HSG.out; have := R.pos a; have := R.sum_cons a s; omega, by have := HK2.out; omega, HO2.out, HJ2.out, HE2.out, HS2.out⟩
            | true =>
              clear hw2
              go_wp2_with fail
              refine Calls.mono hw1 ?_
              rintro e w3 ⟨v, rfl, rfl, hm⟩
              have HJ3 := hid (HJS.out _ _ _ HJ2.out (hm.mono HS2.out))
              have BN3 := BN2.out.keep hm
              have HO3 := hid (HO2.out.keep hm)
              have HE3 := hid (HE2.out.keep hm)
              have HS3 := aside (Nat.le_trans HS2.out hm.size)
              clear hm kW hw1 BN2 HJ2 HO2 HE2 HS2
              have kN := BN3.cell
              obtain ⟨fn, tmps, assign, body, hy, hR⟩ := HYI.out a s w3 z HJ3.out hth hz
              unfold dxv at hy
              go_upto_region 8 with fail
              refine (wpIn_wide (n := 0)).1 ?_
              gi_wp2
              refine ⟨rfl, hR.mono ?_⟩
              rintro e W4 (⟨rfl, hJ4, hk4⟩ | ⟨rfl, hx4⟩)
              · have hxn : ¬ X w1.heap.size := fun q => by have := HX.out _ q; have := HGE.out; omega
                have BN4 := hk4.bk BN3 hxn
                have HO4 := hid (HO3.out.kept hk4 HX.out)
                have HE4 := hid (HE3.out.kept hk4 HXG.out)
                have HS4 := aside (Nat.le_trans HS3.out hk4.size)
                have HJ4 := hid hJ4
                have kN4 := BN4.cell
                have HNL := aside BN4.lt
                have HBN4 := hid BN4
                clear hy hR hk4 hJ4 kN BN3 HO3 HE3 HS3 HJ3 BN4
                by_cases hr : (R.nd a).right = 0
                · have HJ5 : Hid (J s W4) := by
                    have h := HJ4.out
                    rw [R.leaf a hth hr] at h
                    exact h
                  have r1 : (((R.nd a).right : Nat) : Int) = 0 := by omega
                  clear HJ4
                  gi_wp2
                  go_wp2_with fail
                  go_roundg (g0 - 1)
                  case measure => have := HSG.out; have := R.pos a; have := R.sum_cons a s; omega
                  case rel => exact ⟨s, by have := HSG.out; have := R.pos a; have := R.sum_cons a s; omega, by have := HK2.out; omega, HO4.out, HJ5.out, HE4.out, HS4.out⟩
                · obtain ⟨b, c, hnx, hb, hc, hlt⟩ := R.inn a hth hr
                  have HJ5 : Hid (J (b :: c :: s) W4) := by
                    have h := HJ4.out
                    rw [hnx] at h
                    exact h
                  have HBC := aside (And.intro hb (And.intro hc hlt))
                  have r0 : 0 < (R.nd a).right := by omega
                  have r1 : ((((R.nd a).right : Nat) : Int) = 0) = False := eq_false (by omega)
                  have r2 : ((R.nd a).right = 0) = False := eq_false hr
                  have r3 : ((((R.nd a).right : Nat) : Int) == 0) = false := beq_eq_false_iff_ne.2 (by omega)
                  have r4 : ((R.nd a).right == 0) = false := beq_eq_false_iff_ne.2 hr
                  have HLS := aside (show (R.ks s).length + 1 ≤ 2000 by rw [R.ks_len]; have := Tre.len_sum R (a :: s); have := HSG.out; have := HK2.out; rw [List.length_cons] at *; omega)
                  obtain ⟨ao, co, hsl⟩ := HO4.out.slice
                  subst hsl
                  clear HJ4 hb hc hlt hnx hr
                  gi_wp2
                  go_wp2_with ((at_builtin; refine wpList_push _ rfl _ _ 28 rfl 3 iI (.int .i64 0) 1 8 under_ints hI0 hI1 hI2 hI3 rfl (by decide) (.slice ao (R.ks s).length co) (R.ks s).length (flat (R.ks s).length (lvs (R.ks s))) rfl (HO4.out.alo (.cells #[.int .i64 ((R.nd a).right : Nat)] 3)).row ⟨W4.heap.size, 0, none⟩ 1 1 [.int .i64 ((R.nd a).right : Nat)] rfl rfl (cells_at0 (Lp.Bk.al W4 _ _)) (by simp [Value.oneCell']) (max_small (by have := HLS.out; omega)) (by have := HLS.out; omega) ?_))
                  intro v' w5 hown hg hb
                  have hb5 : Below N W4 w5 := ((Below.refl N W4).alloc HS4.out _).grown hg (by have := HS4.out; simp; omega) (fun k e => HO4.out.lo k e)
                  have HO5 := hid ((HO4.out.alo (.cells #[.int .i64 ((R.nd a).right : Nat)] 3)).snoc (x := (R.nd a).right) hown (hb.imp id fun h g e => by have := h g e; simp at this ⊢; omega) (by have := HS4.out; simp; omega))
                  have hne : w1.heap.size ≠ W4.heap.size := by have := HNL.out; omega
                  have BN5 : Lp.Bk w5 w1.heap.size _ _ := (hg.block _ (by have := HNL.out; simp; omega) (fun e => by have := HGL.out _ e.symm; omega)).trans (HBN4.out.alo _)
                  have kN5 := BN5.cell
                  have HJ6 := hid (HJS.out _ _ _ HJ5.out hb5)
                  have HE6 := hid (HE4.out.low hb5 HGN.out)
                  have HS6 := aside (Nat.le_trans HS4.out hb5.size)
                  clear hown hg hb hb5 hne BN5 kN4 HBN4 HJ5 HE4 HS4 HO4
                  go_wp2_with fail
                  go_roundg (g1 - 1)
                  case measure => have := HSI.out; have := R.pos a; have := R.sum_cons a s; omega
                  case rel =>
                    have hq := HBC.out.2.2
                    have h1 := R.sum_cons a s
                    have h2 := R.sum_cons b (c :: s)
                    have h3 := R.sum_cons c s
                    have h4 := HSI.out
                    have h5 := HSG.out
                    refine ⟨b, c :: s, by omega, by omega, by rw [HBC.out.1], ?_, HJ6.out, HE6.out, HS6.out⟩
                    rw [R.ks_cons, HBC.out.2.1]
                    exact HO5.out
              · gi_wp2
                go_wp2_with fail
                rw [Exit.noGoto_ret]
                refine bodyPost_ret (results_none rfl _ _ _) rfl ?_
                exact ⟨⟨_, rfl⟩, .inr hx4⟩
end Go.Proofs.YtiblmojdjnfoaaaGreat
