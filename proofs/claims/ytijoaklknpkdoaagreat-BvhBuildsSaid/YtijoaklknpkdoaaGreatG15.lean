/- Package bvh: wrong; slices.ContainsFunc of it. Package bvh: New. Package bvh: what a tree tells: Nodes, Order, Tri, Node, Root; of nil. Package bvh: Node, Root, below, Depth; of nil. Package bvh: below, Depth. The law: Ints, awake. The law: awake. -/
import Derived.Deep.LoopGhost
import Derived.Test.YtijoaklknpkdoaaGreatG9
import Derived.Test.YtijoaklknpkdoaaGreatG7
import Derived.Test.YtijoaklknpkdoaaGreatG10
import Derived.Test.YtijoaklknpkdoaaGreatG14
namespace Go.Proofs.YtijoaklknpkdoaaGreat
open Go.RowKit Fl Lm

def cornerT (t : Tr) : Nat → Nat × Nat × Nat
  | 0 => (t.t0, t.t1, t.t2)
  | 1 => (t.t3, t.t4, t.t5)
  | _ => (t.t6, t.t7, t.t8)
def okC (c : Nat × Nat × Nat) : Bool := moB c.1 && moB c.2.1 && moB c.2.2
theorem may_corners (t : Tr) : t.mayB = (okC (cornerT t 0) && okC (cornerT t 1) && okC (cornerT t 2)) := by
  unfold Tr.mayB okC cornerT
  simp only [Bool.and_assoc]
/-- All of the first j. -/
def allB (p : Nat → Bool) : Nat → Bool
  | 0 => true
  | j + 1 => allB p j && p j
theorem allB_none {p : Nat → Bool} {j : Nat} (h : p j = false) : ∀ n, j < n → allB p n = false
  | 0, hn => by omega
  | n + 1, hn => by
    unfold allB
    by_cases e : j = n
    · subst e; rw [h, Bool.and_false]
    · rw [allB_none h n (by omega), Bool.false_and]
theorem okC_all (c : Nat × Nat × Nat) : okC c = allB (fun k => moB (partF c.1 c.2.1 c.2.2 (k : Int))) 3 := by
  simp [okC, allB, partF]
theorem may_all (t : Tr) : t.mayB = allB (fun j => okC (cornerT t j)) 3 := by
  rw [may_corners]; simp [allB]
theorem idx_tri0 (t : Tr) (w : World) : (Instr.index 82 (.agg #[.float .f64 t.t0, .float .f64 t.t1, .float .f64 t.t2, .float .f64 t.t3, .float .f64 t.t4, .float .f64 t.t5, .float .f64 t.t6, .float .f64 t.t7, .float .f64 t.t8]) (.int .i64 0)).run Tryz.prog w = .ok (.agg #[.float .f64 t.t0, .float .f64 t.t1, .float .f64 t.t2]) w := by kernel_rfl
theorem idx_tri1 (t : Tr) (w : World) : (Instr.index 82 (.agg #[.float .f64 t.t0, .float .f64 t.t1, .float .f64 t.t2, .float .f64 t.t3, .float .f64 t.t4, .float .f64 t.t5, .float .f64 t.t6, .float .f64 t.t7, .float .f64 t.t8]) (.int .i64 1)).run Tryz.prog w = .ok (.agg #[.float .f64 t.t3, .float .f64 t.t4, .float .f64 t.t5]) w := by kernel_rfl
theorem idx_tri2 (t : Tr) (w : World) : (Instr.index 82 (.agg #[.float .f64 t.t0, .float .f64 t.t1, .float .f64 t.t2, .float .f64 t.t3, .float .f64 t.t4, .float .f64 t.t5, .float .f64 t.t6, .float .f64 t.t7, .float .f64 t.t8]) (.int .i64 2)).run Tryz.prog w = .ok (.agg #[.float .f64 t.t6, .float .f64 t.t7, .float .f64 t.t8]) w := by kernel_rfl
theorem idx_tri (t : Tr) (j : Nat) (hj : j < 3) (w : World) : (Instr.index 82 (.agg #[.float .f64 t.t0, .float .f64 t.t1, .float .f64 t.t2, .float .f64 t.t3, .float .f64 t.t4, .float .f64 t.t5, .float .f64 t.t6, .float .f64 t.t7, .float .f64 t.t8]) (.int .i64 (j : Int))).run Tryz.prog w = .ok (.agg #[.float .f64 (cornerT t j).1, .float .f64 (cornerT t j).2.1, .float .f64 (cornerT t j).2.2]) w := by
  match j, hj with
  | 0, _ => exact idx_tri0 t w
  | 1, _ => exact idx_tri1 t w
  | 2, _ => exact idx_tri2 t w

set_option maxRecDepth 100000 in
set_option maxHeartbeats 1000000 in
theorem wrong_any (t : Tr) (w : World) : Ret Tryz.prog 23 #[txv t] w (fun v => v = .bool (!t.mayB)) := by
  unfold Ret txv
  have HY := aside (may_all t)
  have HI := hid (idx_tri t)
  generalize cornerT t = C at *
  generalize t.mayB = y at *
  go_enter Tryz.func23, Tryz.ntmps23
  go_wp2_with fail
  go_loopg [14] 3 (fun k i wr => ∃ j : Nat, k + j = 3 ∧ i = .int .i64 (j : Int) ∧ allB (fun j => okC (C j)) j = true ∧ Cl w wr)
  case atStart => exact ⟨0, rfl, rfl, rfl, (Below.refl _ _).alloc (Nat.le_refl _) _⟩
  case round =>
    obtain ⟨g0, hg0⟩ : ∃ g0, g0 = gk := ⟨_, rfl⟩
    subst hg0
    obtain ⟨j, hk, rfl, hA, HB⟩ := hrel
    have HK := aside hk
    have HA := aside hA
    clear hk hA
    by_cases hj : j < 3
    · have hd : ((j : Int) < 3) = True := eq_true (by omega)
      have hix := HI.out j hj
      have HP := aside (okC_all (C j))
      have HAll := aside (show okC (C j) = false → allB (fun j => okC (C j)) 3 = false from fun h => allB_none h 3 hj)
      have HA2 := aside (show okC (C j) = true → allB (fun j => okC (C j)) (j + 1) = true from fun h => by show (allB _ j && okC (C j)) = true; rw [HA.out, h]; rfl)
      generalize C j = c at *
      obtain ⟨c0, c1, c2⟩ := c
      dsimp only at hix
      have hjl := aside hj
      have hj5 : j < 512 := by omega
      clear hj HA
      go_wp2_with fail
      clear hix
      go_loopg [17] 3 (fun k i wi => ∃ m : Nat, k + m = 3 ∧ i = .int .i64 (m : Int) ∧ allB (fun k => moB (partF c0 c1 c2 (k : Int))) m = true ∧ Lp.Bk wi wr.heap.size #[.float .f64 c0, .float .f64 c1, .float .f64 c2] 31 ∧ Cl w wi)
      case atStart => exact ⟨0, rfl, rfl, rfl, Lp.Bk.al _ _ _, HB.alloc _⟩
      case round =>
        obtain ⟨g1, hg1⟩ : ∃ g1, g1 = gk := ⟨_, rfl⟩
        subst hg1
        obtain ⟨m, hk, rfl, hA, BC, HB2⟩ := hrel
        have HK2 := aside hk
        have HA3 := aside hA
        clear hk hA
        by_cases hm : m < 3
        · have hd2 : ((m : Int) < 3) = True := eq_true (by omega)
          have HNo := aside (show moB (partF c0 c1 c2 (m : Int)) = false → okC (c0, c1, c2) = false from fun h => by rw [HP.out]; exact allB_none (p := fun k => moB (partF c0 c1 c2 (k : Int))) h 3 hm)
          have HYes := aside (show moB (partF c0 c1 c2 (m : Int)) = true → allB (fun k => moB (partF c0 c1 c2 (k : Int))) (m + 1) = true from fun h => by show (allB _ m && moB (partF c0 c1 c2 (m : Int))) = true; rw [HA3.out, h]; rfl)
          have HV := hid (fun w => vpart_any c0 c1 c2 (m : Int) w)
          generalize partF c0 c1 c2 (m : Int) = x at HNo HYes HV
          have hml := aside hm
          have hm5 : m < 512 := by omega
          clear hm HA3
          have hp : (FloatKind.f64.format.order x 13920626448202203136 == some .gt || FloatKind.f64.format.order x 13920626448202203136 == some .eq) = leB m20 x := geB_eq x m20
          have hq : (FloatKind.f64.format.order x 4697254411347427328 == some .lt || FloatKind.f64.format.order x 4697254411347427328 == some .eq) = leB x maxW := rfl
          unfold moB at HNo HYes
          generalize leB m20 x = p at hp HNo HYes
          generalize leB x maxW = q at hq HNo HYes
          have kC := BC.cell
          cases p
          · replace HNo := aside (HNo.out rfl)
            go_wp2_with fail
            refine Calls.mono (HV.out _) ?_
            rintro e w5 ⟨v, rfl, rfl, hm5⟩
            clear kC
            replace HB2 := HB2.call hm5
            clear hm5
            go_wp2_with fail
            go_ret
            exact ⟨_, rfl, by rw [HY.out, HAll.out HNo.out]; rfl, HB2⟩
          cases q
          · replace HNo := aside (HNo.out rfl)
            go_wp2_with fail
            refine Calls.mono (HV.out _) ?_
            rintro e w5 ⟨v, rfl, rfl, hm5⟩
            clear kC
            replace HB2 := HB2.call hm5
            clear hm5
            go_wp2_with fail
            go_ret
            exact ⟨_, rfl, by rw [HY.out, HAll.out HNo.out]; rfl, HB2⟩
          · replace HYes := aside (HYes.out rfl)
            go_wp2_with fail
            refine Calls.mono (HV.out _) ?_
            rintro e w5 ⟨v, rfl, rfl, hm5⟩
            clear kC
            replace HB2 := HB2.call hm5
            replace BC := BC.keep hm5
            clear hm5
            go_wp2_with fail
            go_roundg (g1 - 1)
            case measure => have := HK2.out; have := hml.out; omega
            case rel => exact ⟨m + 1, by have := HK2.out; have := hml.out; omega, by go_num, HYes.out, BC, HB2⟩
        · have hd2 : ((m : Int) < 3) = False := eq_false (by omega)
          have hm3 : m = 3 := by have := HK2.out; omega
          subst hm3
          have HA4 := aside (HA2.out (HP.out.trans HA3.out))
          clear hm
          go_wp2_with fail
          go_roundg (g0 - 1)
          case measure => have := HK.out; have := hjl.out; omega
          case rel => exact ⟨j + 1, by have := HK.out; have := hjl.out; omega, by go_num, HA4.out, HB2⟩
    · have hd : ((j : Int) < 3) = False := eq_false (by omega)
      have hjn : j = 3 := by have := HK.out; omega
      subst hjn
      clear hj
      go_wp2_with fail
      go_ret
      exact ⟨_, rfl, by rw [HY.out, HA.out]; rfl, HB⟩

set_option maxRecDepth 100000 in
set_option maxHeartbeats 1000000 in
theorem tindex_any (T : Nat → Tr) (n c : Nat) (ao : Option Addr) (w : World) (h : Sl w ao n 9 fun i => tcs (T i)) (hn : n ≤ 512) : Ret Tryz.prog 40 #[.slice ao n c, .func (.func 23) #[] #[]] w (fun v => ∃ r : Int, v = .int .i64 r ∧ (0 ≤ r ↔ ∃ i, i < n ∧ (T i).mayB = false)) := by
  unfold Ret
  have HF := hid h
  have HN := aside hn
  clear h hn
  go_enter Tryz.func40, Tryz.ntmps40
  go_wp2_with fail
  go_loopg [8] n (fun k i wr => ∃ j : Nat, k + j = n ∧ i = .int .i64 (j : Int) ∧ (∀ i, i < j → (T i).mayB = true) ∧ Cl w wr)
  case atStart => exact ⟨0, by omega, rfl, fun i hi => by omega, Below.refl _ _⟩
  case round =>
    obtain ⟨g0, hg0⟩ : ∃ g0, g0 = gk := ⟨_, rfl⟩
    subst hg0
    obtain ⟨j, hk, rfl, hA, HB⟩ := hrel
    have HK := aside hk
    have HA := aside hA
    clear hk hA
    by_cases hj : j < n
    · have hd : ((j : Int) < (n : Int)) = True := eq_true (by omega)
      obtain ⟨g, o, rfl, E⟩ := (HF.out.keep HB).get hj
      obtain ⟨k0, k1, k2, k3, k4, k5, k6, k7, k8⟩ := tat E hj
      have HW := hid (fun w => wrong_any (T j) w)
      unfold txv at HW
      have HA2 := aside (show (T j).mayB = true → ∀ i, i < j + 1 → (T i).mayB = true from fun h i hi => by rcases Nat.lt_or_eq_of_le (Nat.le_of_lt_succ hi) with h2 | h2; exact HA.out i h2; exact h2 ▸ h)
      have HA3 := aside (show (T j).mayB = false → ∃ i, i < n ∧ (T i).mayB = false from fun h => ⟨j, hj, h⟩)
      have hjl := aside hj
      have hj5 : j < 512 := by have := HN.out; omega
      clear hj HA E
      generalize T j = t at *
      generalize t.mayB = p at *
      cases p
      · replace HA3 := aside (HA3.out rfl)
        go_wp2_with fail
        refine Calls.mono (HW.out _) ?_
        rintro e w5 ⟨v, rfl, rfl, hm5⟩
        clear k0 k1 k2 k3 k4 k5 k6 k7 k8
        replace HB := HB.call hm5
        clear hm5
        go_wp2_with fail
        go_ret
        exact ⟨_, rfl, ⟨_, rfl, fun _ => HA3.out, fun _ => by omega⟩, HB⟩
      · replace HA2 := aside (HA2.out rfl)
        go_wp2_with fail
        refine Calls.mono (HW.out _) ?_
        rintro e w5 ⟨v, rfl, rfl, hm5⟩
        clear k0 k1 k2 k3 k4 k5 k6 k7 k8
        replace HB := HB.call hm5
        clear hm5
        go_wp2_with fail
        go_roundg (g0 - 1)
        case measure => have := HK.out; have := hjl.out; omega
        case rel => exact ⟨j + 1, by have := HK.out; have := hjl.out; omega, by go_num, HA2.out, HB⟩
    · have hd : ((j : Int) < (n : Int)) = False := eq_false (by omega)
      have hjn : j = n := by have := HK.out; omega
      subst hjn
      clear hj
      go_wp2_with fail
      go_ret
      exact ⟨_, rfl, ⟨-1, rfl, fun h => absurd h (by omega), fun ⟨i, hi, h⟩ => by rw [HA.out i hi] at h; cases h⟩, HB⟩

set_option maxRecDepth 100000 in
set_option maxHeartbeats 1000000 in
theorem tcontains_any (T : Nat → Tr) (n c : Nat) (ao : Option Addr) (w : World) (h : Sl w ao n 9 fun i => tcs (T i)) (hn : n ≤ 512) (b : Bool) (hb : b = true ↔ ∃ i, i < n ∧ (T i).mayB = false) : Ret Tryz.prog 22 #[.slice ao n c, .func (.func 23) #[] #[]] w (fun v => v = .bool b) := by
  unfold Ret
  have HI := hid (tindex_any T n c ao w h hn)
  have HBB := aside hb
  clear h hn hb
  go_enter Tryz.func22, Tryz.ntmps22
  go_wp2_with fail
  refine Calls.mono HI.out ?_
  rintro e w1 ⟨v, rfl, ⟨r, rfl, hr⟩, hm⟩
  have HR := aside (show decide (0 ≤ r) = b by
    cases b
    · exact decide_eq_false fun h => by have := HBB.out.2 (hr.1 h); cases this
    · exact decide_eq_true (hr.2 (HBB.out.1 rfl)))
  clear hr
  go_wp2_with fail
  go_ret
  exact ⟨_, rfl, congrArg Value.bool HR.out, hm⟩

end Go.Proofs.YtijoaklknpkdoaaGreat

namespace Go.Proofs.YtijoaklknpkdoaaGreat
open Go.RowKit Fl Lm

/-- A tree in memory. -/
def TreeR (w : World) (t : Nat) (D : List Nd) (O : List Nat) : Prop :=
  ∃ gN cn ao co, Lp.Bk w t #[.slice (some ⟨gN, 0, none⟩) D.length cn, .slice ao O.length co] 63 ∧ Els w gN 0 D.length 10 (nds D) ∧ Sl w ao O.length 1 (lvs O)
theorem TreeR.keep {w w' : World} {t : Nat} {D : List Nd} {O : List Nat} (h : TreeR w t D O) (hb : Below w.heap.size w w') : TreeR w' t D O := by
  obtain ⟨gN, cn, ao, co, h1, h2, h3⟩ := h
  exact ⟨gN, cn, ao, co, h1.keep hb, h2.keep hb, h3.keep hb⟩
theorem TreeS.read {N : Nat} {w : World} {t : Nat} {nv ov : Value} {D : List Nd} {O : List Nat} (h : TreeS N w t nv ov D O) (hD : 0 < D.length) : TreeR w t D O := by
  obtain ⟨an, cn, rfl⟩ := h.on.slice
  obtain ⟨ao, co, rfl⟩ := h.oo.slice
  obtain ⟨gN, rfl, _, hE⟩ := owns_els h.on.row (fun _ _ => rfl) hD
  exact ⟨gN, cn, ao, co, h.bT, hE, h.oo.sl (fun _ _ => rfl)⟩

set_option maxRecDepth 100000 in
set_option maxHeartbeats 1000000 in
theorem new_any (T : Nat → Tr) (hT : ∀ i, (T i).Mo) (sur : Bool) (n c : Nat) (ao : Option Addr) (w : World) (hL : Sl w ao n 9 fun i => tcs (T i)) (hn : n ≤ 512) (hm : ∀ i, i < n → (T i).mayB = true) :
    Calls Tryz.prog 5 #[.slice ao n c, .bool sur] w fun e w' => ∃ t, e = .returned (.tuple #[.pointer (some ⟨t, 0, none⟩), .int .i64 0]) ∧ TreeR w' t (ndL (treeT T sur) 0 0 (List.range n)) (orL (treeT T sur) (List.range n)) ∧ w.heap.size ≤ t ∧ Cl w w' := by
  have HL := hid hL
  have HTT := aside hT
  have HC := hid (tcontains_any T n c ao w hL hn false ⟨fun h => (by cases h), fun ⟨i, hi, h⟩ => by rw [hm i hi] at h; cases h⟩)
  clear hL hT hm
  have hc : (512 < (n : Int)) = False := eq_false (by omega)
  go_enter Tryz.func5, Tryz.ntmps5
  go_wp2_with fail
  refine Calls.mono HC.out ?_
  rintro e w1 ⟨v, rfl, rfl, hm⟩
  have hb : Cl w w1 := hm
  clear hm HC
  go_wp2_with fail
  have hb2 : Below w1.heap.size w1 (w1.alloc (.cells #[.slice none 0 0, .slice none 0 0] 63)) := (Below.refl _ _).alloc (Nat.le_refl _) _
  have hB := Lp.Bk.al w1 #[.slice none 0 0, .slice none 0 0] 63
  have HB2 := hid (hb.call hb2)
  have HBT := hid hB
  have HME := hid (measured_any T HTT.out n c ao _ ((HL.out.keep hb).keep hb2) hn)
  have hbs := hb.size
  clear hb2 hB hb
  refine Calls.mono HME.out ?_
  rintro e w3 ⟨ab, cb, am, cm, rfl, hS, h1, h2, hm⟩
  clear HME
  have e1 : (w1.alloc (.cells #[.slice none 0 0, .slice none 0 0] 63)).heap.size = w1.heap.size + 1 := by simp
  rw [e1] at h1 h2
  have HBU := hid (build_any T HTT.out sur n w1.heap.size cb cm ab am w3 hn (HBT.out.keep hm) hS (fun g o e => by have := h1 g o e; omega) (fun g o e => by have := h2 g o e; omega))
  have HB3 := hid (HB2.out.call hm)
  clear hS h1 h2 hm HBT HB2 e1
  go_wp2_with fail
  refine Calls.mono HBU.out ?_
  rintro e w4 ⟨rfl, nv, ov, hTS, hFr⟩
  clear HBU
  go_wp2_with fail
  refine bodyPost_ret (v := _) (by simp [results, go_sem]) rfl ⟨w1.heap.size, rfl, hTS.read (by rw [nd_len]; exact sz_pos _ _), hbs, hFr.cl HB3.out (fun i e => by omega)⟩

set_option maxRecDepth 100000 in
set_option maxHeartbeats 1000000 in
theorem new_big (n c : Nat) (ao : Option Addr) (sur : Bool) (w : World) (hn : 512 < n) : Calls Tryz.prog 5 #[.slice ao n c, .bool sur] w fun e w' => e = .returned (.tuple #[.pointer none, .int .i64 4]) ∧ Cl w w' := by
  have hc : (512 < (n : Int)) = True := eq_true (by omega)
  go_enter Tryz.func5, Tryz.ntmps5
  go_wp2_with fail
  exact bodyPost_ret (v := _) (by simp [results, go_sem]) rfl ⟨rfl, Below.refl _ _⟩

set_option maxRecDepth 100000 in
set_option maxHeartbeats 1000000 in
theorem new_bad (T : Nat → Tr) (sur : Bool) (n c : Nat) (ao : Option Addr) (w : World) (hL : Sl w ao n 9 fun i => tcs (T i)) (hn : n ≤ 512) (hm : ∃ i, i < n ∧ (T i).mayB = false) :
    Calls Tryz.prog 5 #[.slice ao n c, .bool sur] w fun e w' => e = .returned (.tuple #[.pointer none, .int .i64 2]) ∧ Cl w w' := by
  have HC := hid (tcontains_any T n c ao w hL hn true ⟨fun _ => hm, fun _ => rfl⟩)
  clear hL hm
  have hc : (512 < (n : Int)) = False := eq_false (by omega)
  go_enter Tryz.func5, Tryz.ntmps5
  go_wp2_with fail
  refine Calls.mono HC.out ?_
  rintro e w1 ⟨v, rfl, rfl, hm⟩
  clear HC
  go_wp2_with fail
  exact bodyPost_ret (v := _) (by simp [results, go_sem]) rfl ⟨rfl, hm⟩

end Go.Proofs.YtijoaklknpkdoaaGreat

namespace Go.Proofs.YtijoaklknpkdoaaGreat
open Go.RowKit Fl Lm

theorem eql_nodes (ao : Option Addr) (n c : Nat) (w : World) : (binOp .eql 39 (.slice ao n c) (.slice none 0 0)).run Tryz.prog w = .ok (.bool ao.isNone) w := Lib.run_eql_slice_nil w _ _ ao n c 0 0 under_nodes

theorem nds_one (D : List Nd) (i : Nat) : ∀ u ∈ nds D i, u.oneCell' = true := dcs_one _
theorem Els.flat_news {w : World} {g n k : Nat} {e : Nat → List Value} (h : Els w g 0 n k e) (he : ∀ i, i < n → (e i).length = k) (hk : 0 < k) : ∀ j u, (flat n e)[j]? = some u → w.cell? ((⟨g, 0, none⟩ : Addr).add j) = some u := by
  intro j u hj
  have hlt : j < n * k := by
    have := (List.getElem?_eq_some_iff.1 hj).1
    rwa [flat_len he] at this
  have h1 : j / k < n := (Nat.div_lt_iff_lt_mul hk).2 hlt
  have h2 : j % k < k := Nat.mod_lt _ hk
  have e1 : j = j / k * k + j % k := by have := Nat.div_add_mod j k; rw [Nat.mul_comm] at this; omega
  have h3 := h.at' (j / k) h1 (j % k) h2
  rw [← flat_at he h1 h2, ← e1, hj] at h3
  rw [addr_off, Nat.zero_add]
  rw [Nat.zero_add] at h3
  exact h3
set_option maxRecDepth 100000 in
set_option maxHeartbeats 1000000 in
theorem nclone_any (g c : Nat) (D : List Nd) (w : World) (h : Els w g 0 D.length 10 (nds D)) (h0 : 0 < D.length) (hD : D.length ≤ 4000) :
    Calls Tryz.prog 27 #[.slice (some ⟨g, 0, none⟩) D.length c] w fun e w' => ∃ g' c', e = .returned (.slice (some ⟨g', 0, none⟩) D.length c') ∧ Els w' g' 0 D.length 10 (nds D) ∧ w.heap.size ≤ g' ∧ Cl w w' := by
  obtain ⟨iN, hJ0, hJ1, hJ2, hJ3⟩ := info_node
  have HE := hid h
  have hw0 : (w.alloc (.cells #[] 44)).ownsRow 0 44 10 (.slice (some ⟨w.heap.size, 0, none⟩) 0 0) 0 [] := ⟨rfl, .inr ⟨w.heap.size, 0, #[], rfl, Nat.zero_le _, Lp.Bk.al w #[] 44, Nat.le_refl _, by decide, rfl, rfl⟩⟩
  have HW := hid hw0
  clear h hw0
  have hnil := fun W => eql_nodes (some ⟨g, 0, none⟩) D.length c W
  go_enter Tryz.func27, Tryz.ntmps27
  go_wp2_with ((at_builtin; refine wpList_push _ rfl _ _ 39 rfl 44 iN (.agg #[.float .f64 0, .float .f64 0, .float .f64 0, .float .f64 0, .float .f64 0, .float .f64 0, .int .i64 0, .int .i64 0, .int .i64 0, .int .i64 0]) 10 80 under_nodes hJ0 hJ1 hJ2 hJ3 rfl (by decide) (.slice (some ⟨w.heap.size, 0, none⟩) 0 0) 0 [] rfl HW.out ⟨g, 0, none⟩ D.length c (flat D.length (nds D)) rfl (flat_len (fun _ _ => rfl)) ((HE.out.alo _).flat_news (fun _ _ => rfl) (by decide)) (flat_one fun i _ => nds_one D i) (max_small (by omega)) (by omega) ?_))
  intro v' w1 hown hg hb
  have hcl : Cl w w1 := Cl_grown ((Below.refl _ _).alloc (Nat.le_refl _) _) hg (fun g e => by have e2 : w.heap.size = g := Option.some.inj e; omega)
  have hlo : ∀ g, v'.ownBlock = some g → w.heap.size ≤ g := fun g e => by
    rcases hb with h | h
    · rw [h] at e
      have e2 : w.heap.size = g := Option.some.inj e
      omega
    · have := h g e
      omega
  have HO : Hid (w1.ownsRow 0 44 10 v' D.length (flat D.length (nds D)) ∧ Cl w w1 ∧ ∀ g, v'.ownBlock = some g → w.heap.size ≤ g) := ⟨hown, hcl, hlo⟩
  clear hown hcl hlo hb hg HE HW
  go_wp2_with fail
  go_ret
  obtain ⟨h1, h2, h3⟩ := HO.out
  rcases h1.2 with ⟨h4, h5⟩ | ⟨g', cap, cur, rfl, _⟩
  · exact absurd h5 (by omega)
  · obtain ⟨g2, e, _, hE⟩ := owns_els h1 (fun _ _ => rfl) h0
    injection e with e
    injection e with e
    subst e
    exact ⟨g', cap, rfl, hE, h3 g' rfl, h2⟩

set_option maxRecDepth 100000 in
set_option maxHeartbeats 1000000 in
theorem nodes_any (t : Nat) (D : List Nd) (O : List Nat) (w : World) (h : TreeR w t D O) (h0 : 0 < D.length) (hD : D.length ≤ 4000) : Calls Tryz.prog 9 #[.pointer (some ⟨t, 0, none⟩)] w fun e w' => ∃ g' c', e = .returned (.slice (some ⟨g', 0, none⟩) D.length c') ∧ Els w' g' 0 D.length 10 (nds D) ∧ w.heap.size ≤ g' ∧ Cl w w' := by
  obtain ⟨gN, cn, ao, co, hB, hE, hO⟩ := h
  have kT := hB.cell
  have HN := hid (nclone_any gN cn D w hE h0 hD)
  clear hE hO hB
  go_enter Tryz.func9, Tryz.ntmps9
  go_wp2_with fail
  refine Calls.mono HN.out ?_
  rintro e w1 ⟨g', c', rfl, h⟩
  go_wp2_with fail
  go_ret
  exact ⟨g', c', rfl, h⟩

set_option maxRecDepth 100000 in
set_option maxHeartbeats 1000000 in
theorem nodes_nil (w : World) : Calls Tryz.prog 9 #[.pointer none] w fun e w' => e = .returned (.slice none 0 0) ∧ Cl w w' := by
  go_enter Tryz.func9, Tryz.ntmps9
  go_wp2_with fail
  go_ret
  exact ⟨rfl, Below.refl _ _⟩

theorem oclone_any {ao : Option Addr} {c : Nat} {l : List Nat} {w : World} (hL : Sl w ao l.length 1 (lvs l)) (h5 : l.length ≤ 1000) :
    Calls Tryz.prog 36 #[.slice ao l.length c] w fun e w' => ∃ a' c', e = .returned (.slice a' l.length c') ∧ Sl w' a' l.length 1 (lvs l) ∧ (∀ g o, a' = some ⟨g, o, none⟩ → w.heap.size ≤ g) ∧ Cl w w' := by
  rcases Nat.eq_zero_or_pos l.length with h0 | h0
  · rw [h0]
    cases ao with
    | none =>
      refine Calls.mono (Tryz.slices_Clone_int_nil 0 c w) ?_
      rintro e w' ⟨rfl, rfl⟩
      exact ⟨none, 0, rfl, .inl rfl, (fun g o h => by cases h), Below.refl _ _⟩
    | some a =>
      refine Calls.mono (Tryz.slices_Clone_int_zero a c w) ?_
      rintro e w' ⟨v, rfl, hown, hne, hb⟩
      rcases hown.2 with ⟨h2, _⟩ | ⟨g', cap, cur, rfl, hg, _⟩
      · exact absurd h2 hne
      · exact ⟨_, cap, rfl, .inl rfl, (fun g o h => by cases h; exact hg), hb⟩
  · refine Calls.mono (iclone_any hL h0 h5) ?_
    rintro e w' ⟨g, c', rfl, _, hg, hg2, hc, hb⟩
    refine ⟨_, c', rfl, .inr ⟨g, 0, rfl, hg2, fun i hi j hj => ?_⟩, (fun g o h => by cases h; exact hg), hb⟩
    obtain rfl : j = 0 := by omega
    rw [show 0 + (i * 1 + 0) = i by omega]
    exact (hc i hi).1

set_option maxRecDepth 100000 in
set_option maxHeartbeats 1000000 in
theorem order_any (t : Nat) (D : List Nd) (O : List Nat) (w : World) (h : TreeR w t D O) (h5 : O.length ≤ 1000) : Calls Tryz.prog 16 #[.pointer (some ⟨t, 0, none⟩)] w fun e w' => ∃ a' c', e = .returned (.slice a' O.length c') ∧ Sl w' a' O.length 1 (lvs O) ∧ (∀ g o, a' = some ⟨g, o, none⟩ → w.heap.size ≤ g) ∧ Cl w w' := by
  obtain ⟨gN, cn, ao, co, hB, hE, hO⟩ := h
  have kT := hB.cell
  have HN := hid (oclone_any (c := co) hO h5)
  clear hE hO hB
  go_enter Tryz.func16, Tryz.ntmps16
  go_wp2_with fail
  refine Calls.mono HN.out ?_
  rintro e w1 ⟨g', c', rfl, h⟩
  go_wp2_with fail
  go_ret
  exact ⟨g', c', rfl, h⟩

set_option maxRecDepth 100000 in
set_option maxHeartbeats 1000000 in
theorem order_nil (w : World) : Calls Tryz.prog 16 #[.pointer none] w fun e w' => e = .returned (.slice none 0 0) ∧ Cl w w' := by
  go_enter Tryz.func16, Tryz.ntmps16
  go_wp2_with fail
  go_ret
  exact ⟨rfl, Below.refl _ _⟩

set_option maxRecDepth 100000 in
set_option maxHeartbeats 1000000 in
theorem tri_any (t : Nat) (D : List Nd) (O : List Nat) (p : Int) (w : World) (h : TreeR w t D O) : Calls Tryz.prog 26 #[.pointer (some ⟨t, 0, none⟩), .int .i64 p] w fun e w' => e = .returned (.int .i64 (if p < 0 ∨ (O.length : Int) ≤ p then -1 else (O.getD p.toNat 0 : Nat))) ∧ Cl w w' := by
  obtain ⟨gN, cn, ao, co, hB, hE, hO⟩ := h
  have kT := hB.cell
  clear hE hB
  by_cases h0 : p < 0
  · rw [if_pos (.inl h0)]
    have hc : (p < 0) = True := eq_true h0
    go_enter Tryz.func26, Tryz.ntmps26
    go_wp2_with fail
    go_ret
    exact ⟨rfl, Below.refl _ _⟩
  · by_cases h1 : (O.length : Int) ≤ p
    · rw [if_pos (.inr h1)]
      have hc : (p < 0) = False := eq_false h0
      have hc1 : ((O.length : Int) ≤ p) = True := eq_true h1
      go_enter Tryz.func26, Tryz.ntmps26
      go_wp2_with fail
      go_ret
      exact ⟨rfl, Below.refl _ _⟩
    · rw [if_neg (by omega)]
      obtain ⟨i, rfl⟩ : ∃ i : Nat, p = i := ⟨p.toNat, by omega⟩
      have hi : i < O.length := by omega
      obtain ⟨g, o, rfl, E⟩ := hO.get hi
      have k1 := E.num hi
      clear E hO h1
      have hc1 : ((O.length : Int) ≤ (i : Int)) = False := eq_false (by omega)
      have hc2 : ((i : Int) < (O.length : Int)) = True := eq_true (by omega)
      simp only [Int.toNat_natCast]
      go_enter Tryz.func26, Tryz.ntmps26
      go_wp2_with fail
      go_ret
      exact ⟨rfl, Below.refl _ _⟩

set_option maxRecDepth 100000 in
set_option maxHeartbeats 1000000 in
theorem tri_nil (p : Int) (w : World) : Calls Tryz.prog 26 #[.pointer none, .int .i64 p] w fun e w' => e = .returned (.int .i64 (-1)) ∧ Cl w w' := by
  go_enter Tryz.func26, Tryz.ntmps26
  go_wp2_with fail
  go_ret
  exact ⟨rfl, Below.refl _ _⟩

end Go.Proofs.YtijoaklknpkdoaaGreat

namespace Go.Proofs.YtijoaklknpkdoaaGreat
open Go.RowKit Fl Lm

abbrev outD (D : List Nd) (i : Int) : Prop := i < 0 ∨ (D.length : Int) ≤ i
def ndAt (D : List Nd) (i : Int) : Nd := if outD D i then nd0 else D.getD i.toNat nd0
def isAt (D : List Nd) (i : Int) : Bool := !decide (outD D i)
theorem dat0 {w : World} {g : Nat} {D : List Nd} (h : Els w g 0 D.length 10 (nds D)) {i : Nat} (hi : i < D.length) : w.cell? ⟨g, i * 10, none⟩ = some (.float .f64 (D.getD i nd0).box.a0) ∧ w.cell? ⟨g, i * 10 + 1, none⟩ = some (.float .f64 (D.getD i nd0).box.a1) ∧ w.cell? ⟨g, i * 10 + 2, none⟩ = some (.float .f64 (D.getD i nd0).box.a2) ∧ w.cell? ⟨g, i * 10 + 3, none⟩ = some (.float .f64 (D.getD i nd0).box.a3) ∧ w.cell? ⟨g, i * 10 + 4, none⟩ = some (.float .f64 (D.getD i nd0).box.a4) ∧ w.cell? ⟨g, i * 10 + 5, none⟩ = some (.float .f64 (D.getD i nd0).box.a5) ∧ w.cell? ⟨g, i * 10 + 6, none⟩ = some (.int .i64 ((D.getD i nd0).left : Nat)) ∧ w.cell? ⟨g, i * 10 + 7, none⟩ = some (.int .i64 ((D.getD i nd0).right : Nat)) ∧ w.cell? ⟨g, i * 10 + 8, none⟩ = some (.int .i64 ((D.getD i nd0).lo : Nat)) ∧ w.cell? ⟨g, i * 10 + 9, none⟩ = some (.int .i64 ((D.getD i nd0).hi : Nat)) := by
  have := dat (f := fun i => D.getD i nd0) h hi
  simp only [Nat.zero_add] at this
  exact this

set_option maxRecDepth 100000 in
set_option maxHeartbeats 1000000 in
theorem node_any (t : Nat) (D : List Nd) (O : List Nat) (p : Int) (w : World) (h : TreeR w t D O) : Ret Tryz.prog 10 #[.pointer (some ⟨t, 0, none⟩), .int .i64 p] w (fun v => v = .tuple #[dxv (ndAt D p), .bool (isAt D p)]) := by
  unfold Ret
  obtain ⟨gN, cn, ao, co, hB, hE, hO⟩ := h
  have kT := hB.cell
  have htw := hB.lt
  have hne : (t = w.heap.size) = False := eq_false (by omega)
  clear hO hB
  by_cases h0 : p < 0
  · have e1 : ndAt D p = nd0 := if_pos (.inl h0)
    have e2 : isAt D p = false := by unfold isAt; rw [decide_eq_true (show outD D p from .inl h0)]; rfl
    rw [e1, e2]
    have hc : (p < 0) = True := eq_true h0
    clear hE
    go_enter Tryz.func10, Tryz.ntmps10
    go_wp2_with fail
    refine bodyPost_ret (v := .tuple #[.agg #[.float .f64 0, .float .f64 0, .float .f64 0, .float .f64 0, .float .f64 0, .float .f64 0, .int .i64 0, .int .i64 0, .int .i64 0, .int .i64 0], .bool false]) (by simp [results, go_sem]) rfl ⟨_, rfl, rfl, ?_⟩
    exact (Below.refl _ _).alloc (Nat.le_refl _) _
  · by_cases h1 : (D.length : Int) ≤ p
    · have e1 : ndAt D p = nd0 := if_pos (.inr h1)
      have e2 : isAt D p = false := by unfold isAt; rw [decide_eq_true (show outD D p from .inr h1)]; rfl
      rw [e1, e2]
      have hc : (p < 0) = False := eq_false h0
      have hc1 : ((D.length : Int) ≤ p) = True := eq_true h1
      clear hE
      go_enter Tryz.func10, Tryz.ntmps10
      go_wp2_with fail
      refine bodyPost_ret (v := .tuple #[.agg #[.float .f64 0, .float .f64 0, .float .f64 0, .float .f64 0, .float .f64 0, .float .f64 0, .int .i64 0, .int .i64 0, .int .i64 0, .int .i64 0], .bool false]) (by simp [results, go_sem]) rfl ⟨_, rfl, rfl, ?_⟩
      exact (Below.refl _ _).alloc (Nat.le_refl _) _
    · have hno : ¬ outD D p := fun h => by rcases h with h | h; exact h0 h; exact h1 h
      have e1 : ndAt D p = D.getD p.toNat nd0 := if_neg hno
      have e2 : isAt D p = true := by unfold isAt; rw [decide_eq_false hno]; rfl
      rw [e1, e2]
      clear e1 e2 hno
      obtain ⟨i, rfl⟩ : ∃ i : Nat, p = i := ⟨p.toNat, by omega⟩
      have hi : i < D.length := by omega
      obtain ⟨k0, k1, k2, k3, k4, k5, k6, k7, k8, k9⟩ := dat0 hE hi
      have hgl := hE.lt
      have hgn : (gN = w.heap.size) = False := eq_false (by omega)
      simp only [Int.toNat_natCast]
      generalize D.getD i nd0 = x at *
      clear hE h1
      have hc1 : ((D.length : Int) ≤ (i : Int)) = False := eq_false (by omega)
      have hc2 : ((i : Int) < (D.length : Int)) = True := eq_true (by omega)
      unfold dxv
      go_enter Tryz.func10, Tryz.ntmps10
      go_wp2_with fail
      refine bodyPost_ret (v := .tuple #[.agg #[.float .f64 x.box.a0, .float .f64 x.box.a1, .float .f64 x.box.a2, .float .f64 x.box.a3, .float .f64 x.box.a4, .float .f64 x.box.a5, .int .i64 (x.left : Nat), .int .i64 (x.right : Nat), .int .i64 (x.lo : Nat), .int .i64 (x.hi : Nat)], .bool true]) (by simp [results, go_sem]) rfl ⟨_, rfl, rfl, ?_⟩
      exact (Below.refl _ _).alloc (Nat.le_refl _) _

set_option maxRecDepth 100000 in
set_option maxHeartbeats 1000000 in
theorem node_nil (p : Int) (w : World) : Ret Tryz.prog 10 #[.pointer none, .int .i64 p] w (fun v => v = .tuple #[dxv nd0, .bool false]) := by
  unfold Ret
  go_enter Tryz.func10, Tryz.ntmps10
  go_wp2_with fail
  refine bodyPost_ret (v := .tuple #[.agg #[.float .f64 0, .float .f64 0, .float .f64 0, .float .f64 0, .float .f64 0, .float .f64 0, .int .i64 0, .int .i64 0, .int .i64 0, .int .i64 0], .bool false]) (by simp [results, go_sem]) rfl ⟨_, rfl, rfl, ?_⟩
  exact (Below.refl _ _).alloc (Nat.le_refl _) _

set_option maxRecDepth 100000 in
set_option maxHeartbeats 1000000 in
theorem root_of (q : Value) (x : Nd) (b : Bool) (w : World) (h : ∀ w', Below w.heap.size w w' → Ret Tryz.prog 10 #[q, .int .i64 0] w' (fun v => v = .tuple #[dxv x, .bool b])) : Ret Tryz.prog 20 #[q] w (fun v => v = .tuple #[dxv x, .bool b]) := by
  unfold Ret
  have HN := hid h
  clear h
  unfold dxv at *
  go_enter Tryz.func20, Tryz.ntmps20
  go_wp2_with fail
  refine Calls.mono (HN.out _ ((Below.refl _ _).alloc (Nat.le_refl _) _)) ?_
  rintro e w1 ⟨v, rfl, rfl, hm⟩
  have hb : Cl w w1 := ((Below.refl _ _).alloc (Nat.le_refl _) _).trans (hm.mono (by simp))
  have BR := (Lp.Bk.al w #[.float .f64 0, .float .f64 0, .float .f64 0, .float .f64 0, .float .f64 0, .float .f64 0, .int .i64 0, .int .i64 0, .int .i64 0, .int .i64 0] 44).keep hm
  have kR := BR.cell
  have zR := BR.frz
  clear hm HN
  go_wp2_with fail
  have B2 := ((((((((((BR.set 0 (.float .f64 x.box.a0)).set 1 (.float .f64 x.box.a1)).set 2 (.float .f64 x.box.a2)).set 3 (.float .f64 x.box.a3)).set 4 (.float .f64 x.box.a4)).set 5 (.float .f64 x.box.a5)).set 6 (.int .i64 (x.left : Nat))).set 7 (.int .i64 (x.right : Nat))).set 8 (.int .i64 (x.lo : Nat))).set 9 (.int .i64 (x.hi : Nat)))
  have k2 := B2.cell
  refine bodyPost_ret (v := .tuple #[.agg #[.float .f64 x.box.a0, .float .f64 x.box.a1, .float .f64 x.box.a2, .float .f64 x.box.a3, .float .f64 x.box.a4, .float .f64 x.box.a5, .int .i64 (x.left : Nat), .int .i64 (x.right : Nat), .int .i64 (x.lo : Nat), .int .i64 (x.hi : Nat)], .bool b]) (by simp [results, go_sem, kR]) rfl ⟨_, rfl, rfl, ?_⟩
  (repeat (refine Below.setCell ?_ (by show w.heap.size ≤ w.heap.size; omega) _)); exact hb

end Go.Proofs.YtijoaklknpkdoaaGreat

namespace Go.Proofs.YtijoaklknpkdoaaGreat
open Go.RowKit Fl Lm

/-- A node that is no leaf stands ahead of its parts. -/
def WfD (D : List Nd) : Prop := ∀ (i : Nat) (x : Nd), D[i]? = some x → x.right = 0 ∨ (i < x.left ∧ x.left < D.length ∧ i < x.right ∧ x.right < D.length)
def depF (D : List Nd) : Nat → Nat → Nat
  | 0, _ => 0
  | m + 1, i => if (D.getD i nd0).right = 0 then 1 else 1 + max (depF D m (D.getD i nd0).left) (depF D m (D.getD i nd0).right)
theorem dep_in {D : List Nd} (hW : WfD D) : ∀ (m i : Nat), i < D.length → D.length - i ≤ m → 1 ≤ depF D m i ∧ depF D m i ≤ D.length - i
  | 0, i, hi, hm => by omega
  | m + 1, i, hi, hm => by
    unfold depF
    split
    · omega
    · rename_i hr
      have hw := hW i (D.getD i nd0) (by rw [List.getD_eq_getElem?_getD, List.getElem?_eq_getElem hi]; rfl)
      generalize D.getD i nd0 = x at *
      rcases hw with h | ⟨h1, h2, h3, h4⟩
      · exact absurd h hr
      · have a := dep_in hW m x.left h2 (by omega)
        have b := dep_in hW m x.right h4 (by omega)
        omega

set_option maxRecDepth 100000 in
set_option maxHeartbeats 1000000 in
theorem below_any (t : Nat) (D : List Nd) (O : List Nat) (hW : WfD D) (hD : D.length ≤ 4000) : ∀ (m i : Nat), i < D.length → D.length - i ≤ m → ∀ w, TreeR w t D O → Ret Tryz.prog 39 #[.pointer (some ⟨t, 0, none⟩), .int .i64 (i : Int)] w (fun v => v = .int .i64 (depF D m i : Nat)) := by
  intro m
  induction m with
  | zero => intro i hi hm; omega
  | succ m ih =>
    intro i hi hm w hT
    unfold Ret
    have HN := hid (node_any t D O i w hT)
    have HT := hid hT
    have hno : ¬ outD D (i : Int) := fun h => by rcases h with h | h <;> omega
    have e1 : ndAt D i = D.getD i nd0 := if_neg hno
    have e2 : isAt D i = true := by unfold isAt; rw [decide_eq_false hno]; rfl
    rw [e1, e2] at HN
    have hw := hW i (D.getD i nd0) (by rw [List.getD_eq_getElem?_getD, List.getElem?_eq_getElem hi]; rfl)
    have hdep : depF D (m + 1) i = if (D.getD i nd0).right = 0 then 1 else 1 + max (depF D m (D.getD i nd0).left) (depF D m (D.getD i nd0).right) := rfl
    generalize D.getD i nd0 = x at *
    have HDE := aside hdep
    clear hdep
    have HIH := hid ih
    clear ih hno e1 e2 hT
    unfold dxv at *
    go_enter Tryz.func39, Tryz.ntmps39
    go_wp2_with fail
    refine Calls.mono HN.out ?_
    rintro e w1 ⟨v, rfl, rfl, hm1⟩
    have hcl : Cl w w1 := hm1
    clear hm1 HN
    rcases hw with hr | ⟨hw1, hw2, hw3, hw4⟩
    · have hr0 : ((x.right : Int) = 0) = True := eq_true (by omega)
      go_wp2_with fail
      refine bodyPost_ret (v := .int .i64 1) (by simp [results, go_sem]) rfl ⟨_, rfl, by rw [HDE.out, if_pos hr]; rfl, hcl.trans (Below.alloc (Below.refl _ _) hcl.size _)⟩
    · have hr0 : ((x.right : Int) = 0) = False := eq_false (by omega)
      have hr1 : (x.right = 0) = False := eq_false (by omega)
      go_wp2_with fail
      have BN := Lp.Bk.al w1 #[.float .f64 x.box.a0, .float .f64 x.box.a1, .float .f64 x.box.a2, .float .f64 x.box.a3, .float .f64 x.box.a4, .float .f64 x.box.a5, .int .i64 (x.left : Nat), .int .i64 (x.right : Nat), .int .i64 (x.lo : Nat), .int .i64 (x.hi : Nat)] 44
      have hcl2 : Cl w (w1.alloc (.cells #[.float .f64 x.box.a0, .float .f64 x.box.a1, .float .f64 x.box.a2, .float .f64 x.box.a3, .float .f64 x.box.a4, .float .f64 x.box.a5, .int .i64 (x.left : Nat), .int .i64 (x.right : Nat), .int .i64 (x.lo : Nat), .int .i64 (x.hi : Nat)] 44)) := hcl.alloc _
      have HCL := hid hcl2
      have HBN := hid BN
      clear BN hcl hcl2
      apply Lw.region _ _ 11 (by kernel_rfl) (by kernel_rfl) (by kernel_rfl) (Below.refl _ _)
      apply Lw.facts
      · intro w3 hw
        exact (HBN.out.cl hw).cell
      intro HF
      iterate 3 (
        apply Lw.one ?_ rfl
        · intro w hw
          have k0 := HF.out _ hw
          go_simp
          exact rfl
        intro K hK
        go_simp
        refine hK.out _ ?_
        clear hK K)
      apply Lw.any (V := fun v => v = .int .i64 (depF D m x.left : Nat)) rfl
      · intro w4 hw
        go_simp
        exact Lw.ret (HIH.out x.left hw2 (by omega) w4 (HT.out.keep (HCL.out.call hw)))
      intro K hK
      rintro v rfl
      go_simp
      refine hK.out _ ?_
      clear hK K
      iterate 3 (
        apply Lw.one ?_ rfl
        · intro w hw
          have k0 := HF.out _ hw
          go_simp
          exact rfl
        intro K hK
        go_simp
        refine hK.out _ ?_
        clear hK K)
      apply Lw.any (V := fun v => v = .int .i64 (depF D m x.right : Nat)) rfl
      · intro w4 hw
        go_simp
        exact Lw.ret (HIH.out x.right hw4 (by omega) w4 (HT.out.keep (HCL.out.call hw)))
      intro K hK
      rintro v rfl
      go_simp
      refine hK.out _ ?_
      clear hK K
      obtain ⟨d, hmx, hdl, hdu, hde⟩ : ∃ d : Nat, max ((depF D m x.left : Nat) : Int) ((depF D m x.right : Nat) : Int) = (d : Int) ∧ 1 ≤ d ∧ d ≤ D.length - (i + 1) ∧ depF D (m + 1) i = 1 + d := by
        have ha := dep_in hW m x.left hw2 (by omega)
        have hb := dep_in hW m x.right hw4 (by omega)
        refine ⟨max (depF D m x.left) (depF D m x.right), by omega, by omega, by omega, ?_⟩
        rw [HDE.out, if_neg (by omega)]
      have hdm : d ≤ 4000 := by omega
      have hwr : IntKind.i64.wrap (1 + (d : Int)) = 1 + (d : Int) := by rw [IntKind.wrap_i64]; omega
      iterate 3 (
        apply Lw.one ?_ rfl
        · intro w hw
          go_simp
          exact rfl
        intro K hK
        go_simp
        refine hK.out _ ?_
        clear hK K)
      rotate_left
      exact []
      refine Lw.fin ?_
      intro v9 hm9
      go_wp2_with fail
      refine bodyPost_ret (v := .int .i64 (1 + (d : Int))) (by simp [results, go_sem]) rfl ⟨_, rfl, by rw [hde, Int.natCast_add]; rfl, HCL.out.call hm9⟩

set_option maxRecDepth 100000 in
set_option maxHeartbeats 1000000 in
theorem below_nil (p : Int) (w : World) : Ret Tryz.prog 39 #[.pointer none, .int .i64 p] w (fun v => v = .int .i64 0) := by
  unfold Ret
  have HN := hid (node_nil p w)
  unfold dxv at *
  go_enter Tryz.func39, Tryz.ntmps39
  go_wp2_with fail
  refine Calls.mono HN.out ?_
  rintro e w1 ⟨v, rfl, rfl, hm1⟩
  clear HN
  go_wp2_with fail
  refine bodyPost_ret (v := _) (by simp [results, go_sem]) rfl ⟨_, rfl, rfl, Below.alloc hm1 (Below.size hm1) _⟩

set_option maxRecDepth 100000 in
set_option maxHeartbeats 1000000 in
theorem depth_any (t : Nat) (D : List Nd) (O : List Nat) (hW : WfD D) (hD : D.length ≤ 4000) (h0 : 0 < D.length) (w : World) (h : TreeR w t D O) : Ret Tryz.prog 21 #[.pointer (some ⟨t, 0, none⟩)] w (fun v => v = .int .i64 (depF D D.length 0 : Nat)) := by
  unfold Ret
  have HN := hid (below_any t D O hW hD D.length 0 h0 (Nat.le_refl _) w h)
  clear h
  go_enter Tryz.func21, Tryz.ntmps21
  go_wp2_with fail
  refine Calls.mono HN.out ?_
  rintro e w1 ⟨v, rfl, rfl, hm1⟩
  clear HN
  go_wp2_with fail
  refine bodyPost_ret (v := _) (by simp [results, go_sem]) rfl ⟨_, rfl, rfl, hm1⟩

set_option maxRecDepth 100000 in
set_option maxHeartbeats 1000000 in
theorem depth_nil (w : World) : Ret Tryz.prog 21 #[.pointer none] w (fun v => v = .int .i64 0) := by
  unfold Ret
  have HN := hid (below_nil 0 w)
  go_enter Tryz.func21, Tryz.ntmps21
  go_wp2_with fail
  refine Calls.mono HN.out ?_
  rintro e w1 ⟨v, rfl, rfl, hm1⟩
  clear HN
  go_wp2_with fail
  refine bodyPost_ret (v := _) (by simp [results, go_sem]) rfl ⟨_, rfl, rfl, hm1⟩

end Go.Proofs.YtijoaklknpkdoaaGreat

namespace Go.Proofs.YtijoaklknpkdoaaGreat
open Go.RowKit Fl Lm

set_option maxRecDepth 100000 in
set_option maxHeartbeats 1000000 in
theorem ints_any (l m : List Nat) (c d : Nat) (ao bo : Option Addr) (w : World) (hL : Sl w ao l.length 1 (lvs l)) (hM : Sl w bo m.length 1 (lvs m)) (h5 : l.length ≤ 100000) :
    Ret Tryz.prog 15 #[.slice ao l.length c, .slice bo m.length d] w (fun v => v = .bool (decide (l = m))) := by
  unfold Ret
  by_cases hlen : l.length = m.length
  · have HL := hid hL
    have HM := hid hM
    have hcl : ((l.length : Int) = (m.length : Int)) = True := eq_true (by omega)
    have HLE := aside hlen
    clear hL hM
    rw [hlen] at hcl
    rw [hlen]
    have hcl2 : l.length = m.length := hlen
    clear hlen
    go_enter Tryz.func15, Tryz.ntmps15
    go_wp2_with fail
    go_loopg [5] l.length (fun k i wr => ∃ (j : Nat), k + j = l.length ∧ i = .int .i64 (j : Int) ∧ l.take j = m.take j ∧ Cl w wr)
    case atStart => exact ⟨0, Nat.add_zero _, rfl, rfl, Below.refl _ _⟩
    case round =>
      obtain ⟨g0, hg0⟩ : ∃ g0, g0 = gk := ⟨_, rfl⟩
      subst hg0
      obtain ⟨j, hk, rfl, he, HB⟩ := hrel
      have HK := aside hk
      have HE := aside he
      clear hk he
      by_cases hj : j < m.length
      · have hd : ((j : Int) < (m.length : Int)) = True := eq_true (by omega)
        have hjl : j < l.length := by omega
        have hj5 : j < 100000 := by omega
        obtain ⟨g1, o1, rfl, E1⟩ := (HL.out.keep HB).get hjl
        obtain ⟨g2, o2, rfl, E2⟩ := (HM.out.keep HB).get hj
        have k1 := E1.num hjl
        have k2 := E2.num hj
        have HF1 := hid E1
        have HF2 := hid E2
        clear E1 E2
        have HT1 := aside (take_more hjl)
        have HT2 := aside (take_more hj)
        have hne1 : l = m → l.getD j 0 = m.getD j 0 := fun e => by rw [e]
        generalize hx : l.getD j 0 = x at *
        generalize hy : m.getD j 0 = y at *
        have HX := aside hx
        have HY := aside hy
        clear hx hy
        have HNE := aside hne1
        clear hne1
        by_cases hxy : x = y
        · subst hxy
          go_wp2_with fail
          apply Lw.region _ _ 9 (by kernel_rfl) (by kernel_rfl) (by kernel_rfl) (Below.refl _ _)
          iterate 9 (
            apply Lw.one ?_ rfl
            · intro w3 hw
              have k1 := (HF1.out.keep hw).num hjl
              have k2 := (HF2.out.keep hw).num hj
              rw [HX.out] at k1
              rw [HY.out] at k2
              go_simp
              exact rfl
            intro K hK
            go_simp
            refine hK.out _ ?_
            clear hK K)
          rotate_left
          exact []
          refine Lw.fin ?_
          intro v3 hm
          replace HB := HB.call hm
          clear hm k1 k2
          have HBB := hid HB
          clear HB
          go_wp2_with fail
          go_roundg (g0 - 1)
          case measure => have := HK.out; omega
          case rel => exact ⟨j + 1, by have := HK.out; omega, by go_num, by rw [HT1.out, HT2.out, HE.out], HBB.out⟩
        · have hxi : ((x : Int) != (y : Int)) = true := by simp; omega
          go_wp2_with fail
          apply Lw.region _ _ 9 (by kernel_rfl) (by kernel_rfl) (by kernel_rfl) (Below.refl _ _)
          iterate 9 (
            apply Lw.one ?_ rfl
            · intro w3 hw
              have k1 := (HF1.out.keep hw).num hjl
              have k2 := (HF2.out.keep hw).num hj
              rw [HX.out] at k1
              rw [HY.out] at k2
              go_simp
              exact rfl
            intro K hK
            go_simp
            refine hK.out _ ?_
            clear hK K)
          rotate_left
          exact []
          refine Lw.fin ?_
          intro v3 hm
          replace HB := HB.call hm
          clear hm k1 k2
          go_wp2_with fail
          have hno : decide (l = m) = false := decide_eq_false (fun e => hxy (HNE.out e))
          refine bodyPost_ret (v := .bool false) (by simp [results, go_sem]) rfl ⟨_, rfl, by rw [hno], HB⟩
      · have hd : ((j : Int) < (m.length : Int)) = False := eq_false (by omega)
        have hyes : decide (l = m) = true := by
          refine decide_eq_true ?_
          have h1 := HE.out
          have h2 := HLE.out
          have h3 : j = m.length := by have := HK.out; omega
          rwa [List.take_of_length_le (by omega), List.take_of_length_le (by omega)] at h1
        go_wp2_with fail
        refine bodyPost_ret (v := .bool true) (by simp [results, go_sem]) rfl ⟨_, rfl, by rw [hyes], HB⟩
  · have hno : decide (l = m) = false := decide_eq_false (fun e => hlen (by rw [e]))
    have hcl : ((l.length : Int) != (m.length : Int)) = true := by simp; omega
    rw [hno]
    clear hL hM
    clear hlen
    go_enter Tryz.func15, Tryz.ntmps15
    go_wp2_with fail
    refine bodyPost_ret (v := .bool false) (by simp [results, go_sem]) rfl ⟨_, rfl, rfl, Below.refl _ _⟩


end Go.Proofs.YtijoaklknpkdoaaGreat

namespace Go.Proofs.YtijoaklknpkdoaaGreat
open Go.RowKit Fl Lm

section
variable (S : Parts)
theorem nd_wf (l : List Nat) : ∀ (k p j : Nat) (x : Nd), (ndL S k p l)[j]? = some x → (x.left = 0 ∧ x.right = 0) ∨ (x.left = k + j + 1 ∧ x.left < x.right ∧ x.right < k + szL S l) := by
  refine by_parts S (C := fun l => ∀ (k p j : Nat) (x : Nd), (ndL S k p l)[j]? = some x → (x.left = 0 ∧ x.right = 0) ∨ (x.left = k + j + 1 ∧ x.left < x.right ∧ x.right < k + szL S l)) (fun l h k p j x hx => ?_) (fun l h h1 h2 k p j x hx => ?_) l
  · rw [nd_leaf S k p h] at hx
    cases j with
    | zero => injection hx with hx; subst hx; exact .inl ⟨rfl, rfl⟩
    | succ j => cases hx
  · rw [nd_node S k p h] at hx
    have hs := sz_node S h
    have hp1 := sz_pos S (S.part l).1
    have hp2 := sz_pos S (S.part l).2
    cases j with
    | zero =>
      rw [List.getElem?_cons_zero] at hx
      injection hx with hx
      subst hx
      refine .inr ⟨rfl, ?_, ?_⟩
      · show k + 1 < k + 1 + szL S (S.part l).1
        omega
      · show k + 1 + szL S (S.part l).1 < k + szL S l
        omega
    | succ j =>
      rw [List.getElem?_cons_succ] at hx
      by_cases hj : j < szL S (S.part l).1
      · rw [List.getElem?_append_left (by rw [nd_len]; exact hj)] at hx
        rcases h1 _ _ _ _ hx with h | ⟨a, b, c⟩
        · exact .inl h
        · exact .inr ⟨by omega, b, by omega⟩
      · rw [List.getElem?_append_right (by rw [nd_len]; omega), nd_len] at hx
        rcases h2 _ _ _ _ hx with h | ⟨a, b, c⟩
        · exact .inl h
        · exact .inr ⟨by omega, b, by omega⟩
theorem nd_wfD (l : List Nat) : WfD (ndL S 0 0 l) := by
  intro i x hx
  rw [nd_len]
  rcases nd_wf S l 0 0 i x hx with ⟨_, h⟩ | ⟨a, b, c⟩
  · exact .inl h
  · exact .inr ⟨by omega, by omega, by omega, by omega⟩
end
def f5 (i : Nat) : Nat := [0, 4607182418800017408, 4611686018427387904, 4613937818241073152, 4616189618054758400, 4617315517961601024].getD i 0
def T5 (i : Nat) : Tr := if i < 5 then ⟨f5 i, 0, 0, f5 (i + 1), 0, 0, f5 i, 4607182418800017408, 0⟩ else ⟨0, 0, 0, 0, 0, 0, 0, 0, 0⟩
theorem t5_med : medT T5 (List.range 5) = [0, 1, 2, 3, 4] := by decide +kernel
theorem t5_may (i : Nat) : (T5 i).mayB = true := by
  by_cases h : i < 5
  · have : ∀ i, i < 5 → (T5 i).mayB = true := by decide +kernel
    exact this i h
  · unfold T5
    rw [if_neg h]
    decide +kernel
theorem f5_int : ∀ j : Nat, j < 5 → floatOfInt .f64 (j : Int) = f5 j := by decide +kernel
theorem f5_add : ∀ j : Nat, j < 5 → fadd (f5 j) 4607182418800017408 = f5 (j + 1) := by decide +kernel
theorem f5_num : ∀ j : Nat, j < 5 → moB (f5 j) = true := by decide +kernel
theorem t5_is {j : Nat} (h : j < 5) : T5 j = ⟨f5 j, 0, 0, f5 (j + 1), 0, 0, f5 j, 4607182418800017408, 0⟩ := if_pos h
def D5 : List Nd := ndL (treeT T5 false) 0 0 (List.range 5)
def O5 : List Nat := orL (treeT T5 false) (List.range 5)
theorem part5 : (treeT T5 false).part (List.range 5) = ([0, 1], [2, 3, 4]) := by
  show partT T5 false (List.range 5) = _
  rw [part_med (.inl rfl), t5_med]
  rfl
theorem d5_is : D5 = [⟨bxs T5 (List.range 5), 1, 2, 0, 0⟩, leafOf (treeT T5 false) 0 [0, 1], leafOf (treeT T5 false) 2 [2, 3, 4]] := by
  unfold D5
  rw [nd_node _ _ _ (by decide), part5, nd_leaf _ _ _ (by decide), nd_leaf _ _ _ (by decide), sz_leaf _ (by decide)]
  rfl
theorem o5_is : O5 = [0, 1, 2, 3, 4] := by
  unfold O5
  rw [or_node _ (by decide), part5, or_leaf _ (by decide), or_leaf _ (by decide)]
  rfl
theorem info_tri : ∃ i, Tryz.prog.info? 33 = some i ∧ i.zero = some (.agg #[.float .f64 0, .float .f64 0, .float .f64 0, .float .f64 0, .float .f64 0, .float .f64 0, .float .f64 0, .float .f64 0, .float .f64 0]) ∧ i.size = 9 ∧ i.bytes = 72 := by
  have h : (Tryz.prog.info? 33).map (fun i => (i.zero, i.size, i.bytes)) = some (some (.agg #[.float .f64 0, .float .f64 0, .float .f64 0, .float .f64 0, .float .f64 0, .float .f64 0, .float .f64 0, .float .f64 0, .float .f64 0]), 9, 72) := by kernel_rfl
  obtain ⟨i, hi, hz⟩ := Option.map_eq_some_iff.1 h
  simp only [Prod.mk.injEq] at hz
  exact ⟨i, hi, hz⟩

theorem under_tris : Tryz.prog.underlying 22 = some (.slice 33) := by kernel_rfl

set_option maxRecDepth 100000 in
set_option maxHeartbeats 1000000 in
theorem awake_any (w : World) : Ret Tryz.prog 6 #[] w (fun v => v = .bool true) := by
  unfold Ret
  obtain ⟨iT, hT0, hT1, hT2, hT3⟩ := info_tri
  go_enter Tryz.func6, Tryz.ntmps6
  go_wp2_with fail
  go_loopg [1, 2] 5 (fun k sl i wr => ∃ (j : Nat), k + j = 5 ∧ i = .int .i64 (j : Int) ∧ Own w.heap.size wr 33 9 sl j (fun i => tcs (T5 i)) ∧ Cl w wr)
  case atStart => exact ⟨0, rfl, rfl, Own.nil _ _ _ _ _, Below.refl _ _⟩
  case round =>
    obtain ⟨g0, hg0⟩ : ∃ g0, g0 = gk := ⟨_, rfl⟩
    subst hg0
    obtain ⟨j, hk, rfl, hO, HB⟩ := hrel
    have HK := aside hk
    clear hk
    obtain ⟨ao, co, rfl⟩ := hO.slice
    by_cases hj : j < 5
    · have hd : ((j : Int) < 5) = True := eq_true (by omega)
      have HO := hid hO
      clear hO
      have hcv := f5_int j hj
      have had : ∀ W, (binOp .add 29 (.float .f64 (f5 j)) (.float .f64 4607182418800017408)).run Tryz.prog W = .ok (.float .f64 (f5 (j + 1))) W := fun W => by
        rw [← f5_add j hj]
        exact run_add_num W 29 (mo_of (f5_num j hj)).num (mo_of (x := 4607182418800017408) (by decide +kernel)).num
      have ht5 := t5_is hj
      generalize f5 j = x0 at *
      generalize f5 (j + 1) = x1 at *
      have HT5 := aside ht5
      have hj5 : j < 1000 := by omega
      clear ht5
      go_wp2_with ((at_builtin; refine wpList_push _ rfl _ _ 22 rfl 33 iT (.agg #[.float .f64 0, .float .f64 0, .float .f64 0, .float .f64 0, .float .f64 0, .float .f64 0, .float .f64 0, .float .f64 0, .float .f64 0]) 9 72 under_tris hT0 hT1 hT2 hT3 rfl (by decide) (.slice ao j co) j (flat j fun i => tcs (T5 i)) rfl (HO.out.alo (.cells #[.float .f64 x0, .float .f64 0, .float .f64 0, .float .f64 x1, .float .f64 0, .float .f64 0, .float .f64 x0, .float .f64 4607182418800017408, .float .f64 0] 33)).row ⟨wr.heap.size, 0, none⟩ 1 1 (tcs ⟨x0, 0, 0, x1, 0, 0, x0, 4607182418800017408, 0⟩) rfl rfl (cells_at0 (xs := tcs ⟨x0, 0, 0, x1, 0, 0, x0, 4607182418800017408, 0⟩) (Lp.Bk.al wr _ _)) (tcs_one _) (max_small (by omega)) (by omega) ?_))
      intro v' w1 hown hg hb
      have hcl : Cl w w1 := Cl_grown (HB.alloc _) hg (fun g e => HO.out.lo g e)
      have hO2 := (HO.out.alo (.cells #[.float .f64 x0, .float .f64 0, .float .f64 0, .float .f64 x1, .float .f64 0, .float .f64 0, .float .f64 x0, .float .f64 4607182418800017408, .float .f64 0] 33)).push (e' := fun i => tcs (T5 i)) hown (hb.imp id fun h g e => by have := h g e; simp at this ⊢; omega) (by have := HB.size; simp; omega) (fun _ _ => rfl) (by rw [HT5.out])
      have HO2 := hid hO2
      have HC2 := hid hcl
      clear hown hg hb hcl hO2 HB HO hcv had
      go_wp2_with fail
      go_roundg (g0 - 1)
      case measure => have := HK.out; omega
      case rel => exact ⟨j + 1, by have := HK.out; omega, by go_num, HO2.out, HC2.out⟩
    · have hd : ((j : Int) < 5) = False := eq_false (by omega)
      have hj5 : j = 5 := by have := HK.out; omega
      subst hj5
      have HNE := hid (new_any T5 (fun i => Tr.may (t5_may i)) false 5 co ao wr (hO.sl (fun _ _ => rfl)) (by decide) (fun i _ => t5_may i))
      clear hO
      go_wp2_with fail
      refine Calls.mono HNE.out ?_
      rintro e w1 ⟨t, rfl, hT, _, hm⟩
      have HB1 := hid (HB.call hm)
      have hT' : TreeR w1 t D5 O5 := hT
      have HTR := hid hT'
      have hD3 : D5.length = 3 := by rw [d5_is]; rfl
      have hO5 : O5.length = 5 := by rw [o5_is]; rfl
      have HNO := hid (fun w' (hw : Below w1.heap.size w1 w') => nodes_any t D5 O5 w' (HTR.out.keep hw) (by omega) (by omega))
      have HOR := hid (fun w' (hw : Below w1.heap.size w1 w') => order_any t D5 O5 w' (HTR.out.keep hw) (by omega))
      have HDE := hid (fun w' (hw : Below w1.heap.size w1 w') => depth_any t D5 O5 (nd_wfD _ _) (by omega) (by omega) w' (HTR.out.keep hw))
      have HTI := hid (fun p w' (hw : Below w1.heap.size w1 w') => tri_any t D5 O5 p w' (HTR.out.keep hw))
      have hdep : depF D5 D5.length 0 = 2 := by rw [d5_is]; rfl
      rw [hdep] at HDE
      have hlo : nds D5 1 = dcs (leafOf (treeT T5 false) 0 [0, 1]) := by rw [d5_is]; rfl
      have HLO := aside hlo
      rw [hD3] at HNO
      rw [hO5] at HOR
      clear hm hT hT' HB HNE HTR hdep hlo
      go_wp2_with fail
      refine Calls.mono (HNO.out _ (Below.refl _ _)) ?_
      rintro e w2 ⟨g', c', rfl, hE, _, hm⟩
      have k9 : w2.cell? ⟨g', 19, none⟩ = some (.int .i64 2) := by
        have := hE.atj (i := 1) (j := 9) (by decide) (by decide)
        rw [HLO.out] at this
        exact this
      have HM2 := hid hm
      clear hE hm HNO
      go_wp2_with fail
      refine Calls.mono (HOR.out _ HM2.out) ?_
      rintro e w3 ⟨ao2, co2, rfl, hS, _, hm⟩
      have HM3 := hid (Below.trans HM2.out (hm.mono HM2.out.size))
      have HS3 := hid hS
      clear hS hm k9 HM2
      go_wp2_with fail
      have hS5 : Sl (w3.alloc (.cells #[.int .i64 0, .int .i64 1, .int .i64 2, .int .i64 3, .int .i64 4] 3)) (some ⟨w3.heap.size, 0, none⟩) [0, 1, 2, 3, 4].length 1 (lvs [0, 1, 2, 3, 4]) := by
        refine .inr ⟨w3.heap.size, 0, rfl, by simp, fun i hi j hj => ?_⟩
        obtain rfl : j = 0 := by omega
        have hb := (Lp.Bk.al w3 #[.int .i64 0, .int .i64 1, .int .i64 2, .int .i64 3, .int .i64 4] 3).cell i
        rw [show 0 + (i * 1 + 0) = i by omega, hb]
        have hi5 : i < 5 := hi
        match i, hi5 with
        | 0, _ => rfl
        | 1, _ => rfl
        | 2, _ => rfl
        | 3, _ => rfl
        | 4, _ => rfl
      have hS4 : Sl (w3.alloc (.cells #[.int .i64 0, .int .i64 1, .int .i64 2, .int .i64 3, .int .i64 4] 3)) ao2 [0, 1, 2, 3, 4].length 1 (lvs [0, 1, 2, 3, 4]) := by
        have := HS3.out.keep ((Below.refl _ _).alloc (Nat.le_refl _) (.cells #[.int .i64 0, .int .i64 1, .int .i64 2, .int .i64 3, .int .i64 4] 3))
        rw [o5_is] at this
        exact this
      have HIN := hid (ints_any [0, 1, 2, 3, 4] [0, 1, 2, 3, 4] co2 5 ao2 (some ⟨w3.heap.size, 0, none⟩) _ hS4 hS5 (by decide))
      have HM4 := hid (HM3.out.trans (((Below.refl _ _).alloc (Nat.le_refl _) (.cells #[.int .i64 0, .int .i64 1, .int .i64 2, .int .i64 3, .int .i64 4] 3)).mono HM3.out.size))
      clear hS5 hS4 HS3 HM3
      refine Calls.mono HIN.out ?_
      rintro e w4 ⟨v, rfl, rfl, hm⟩
      rw [decide_eq_true (rfl : [0, 1, 2, 3, 4] = [0, 1, 2, 3, 4])]
      have HM5 := hid (Below.trans HM4.out (hm.mono HM4.out.size))
      clear hm HIN HM4
      go_wp2_with fail
      refine Calls.mono (HDE.out _ HM5.out) ?_
      rintro e w5 ⟨v, rfl, rfl, hm⟩
      have HM6 := hid (Below.trans HM5.out (hm.mono HM5.out.size))
      clear hm HDE HM5
      go_wp2_with fail
      refine Calls.mono (HTI.out 4 _ HM6.out) ?_
      rintro e w6 ⟨rfl, hm⟩
      have HM7 := hid (Below.trans HM6.out (hm.mono HM6.out.size))
      have e4 : (if (4 : Int) < 0 ∨ (O5.length : Int) ≤ 4 then -1 else ((O5.getD (4 : Int).toNat 0 : Nat) : Int)) = 4 := by rw [o5_is]; rfl
      rw [e4]
      clear hm HM6 e4
      go_wp2_with fail
      refine Calls.mono (HTI.out 5 _ HM7.out) ?_
      rintro e w7 ⟨rfl, hm⟩
      have HM8 := hid (Below.trans HM7.out (hm.mono HM7.out.size))
      have e5 : (if (5 : Int) < 0 ∨ (O5.length : Int) ≤ 5 then -1 else ((O5.getD (5 : Int).toNat 0 : Nat) : Int)) = -1 := by rw [o5_is]; rfl
      rw [e5]
      clear hm HM7 e5 HTI
      go_wp2_with fail
      refine bodyPost_ret (v := .bool true) (by simp [results, go_sem]) rfl ⟨_, rfl, rfl, HB1.out.call HM8.out⟩

end Go.Proofs.YtijoaklknpkdoaaGreat
