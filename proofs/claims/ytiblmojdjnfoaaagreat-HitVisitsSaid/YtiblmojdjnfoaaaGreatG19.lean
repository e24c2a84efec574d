/- Package bvh: what is kept where some blocks change; the tree as it is built; numbers. Package bvh: lay. Package bvh: lay, where there is nothing. -/
import Derived.Test.YtiblmojdjnfoaaaGreatG18
import Derived.Test.YtiblmojdjnfoaaaGreatG8
namespace Go.Proofs.YtiblmojdjnfoaaaGreat
open Go.RowKit Fl Lm

/-- All blocks but those of S are as they were. -/
structure Fr (S : Nat → Prop) (w w' : World) : Prop where
  os : w'.os = w.os
  tape : w'.tape = w.tape
  output : w'.output = w.output
  size : w.heap.size ≤ w'.heap.size
  block : ∀ k, k < w.heap.size → ¬ S k → w'.heap[k]? = w.heap[k]?
section
variable {S S' : Nat → Prop} {w w' w'' W : World}
theorem Fr.refl (w : World) : Fr S w w := ⟨rfl, rfl, rfl, Nat.le_refl _, fun _ _ _ => rfl⟩
theorem Fr.of (h : Below w.heap.size w w') : Fr S w w' := ⟨h.os, h.tape, h.output, h.size, fun k hk _ => h.block k hk⟩
theorem Fr.trans (h : Fr S w w') (k : Fr S' w' w'') (hs : ∀ i, i < w.heap.size → S' i → S i) : Fr S w w'' :=
  ⟨k.os.trans h.os, k.tape.trans h.tape, k.output.trans h.output, Nat.le_trans h.size k.size, fun i hi hn => (k.block i (Nat.lt_of_lt_of_le hi h.size) fun e => hn (hs i hi e)).trans (h.block i hi hn)⟩
theorem Fr.weak (h : Fr S' w w') (hs : ∀ i, S' i → S i) : Fr S w w' := ⟨h.os, h.tape, h.output, h.size, fun i hi hn => h.block i hi fun e => hn (hs i e)⟩
theorem Fr.grown {row : Option Nat} (h : w.grownBy w' row) : Fr (fun k => row = some k) w w' := ⟨h.os, h.tape, h.output, h.size, fun k hk hn => h.block k hk fun e => hn e.symm⟩
theorem Fr.set (w : World) (p : Addr) (u : Value) : Fr (fun k => k = p.block) w (w.setCell p u) := ⟨rfl, rfl, rfl, by simp [World.setCell], fun k _ hn => Below.heap_setCell _ _ _ _ hn⟩
theorem Fr.cl (h : Fr S w w') (hc : Cl W w) (hs : ∀ i, S i → W.heap.size ≤ i) : Cl W w' :=
  ⟨h.os.trans hc.os, h.tape.trans hc.tape, h.output.trans hc.output, Nat.le_trans hc.size h.size, fun i hi => (h.block i (Nat.lt_of_lt_of_le hi hc.size) fun e => by have := hs i e; omega).trans (hc.block i hi)⟩
theorem Fr.bk {b : Nat} {vs : Array Value} {t : TypeId} (h : Fr S w w') (hb : Lp.Bk w b vs t) (hn : ¬ S b) : Lp.Bk w' b vs t := (h.block b hb.lt hn).trans hb
theorem Fr.els {g off n k : Nat} {e : Nat → List Value} (h : Fr S w w') (he : Els w g off n k e) (hn : ¬ S g) : Els w' g off n k e := he.same (h.block g he.lt hn)
theorem Fr.own {N : Nat} {ty : TypeId} {k n : Nat} {v : Value} {e : Nat → List Value} (h : Fr S w w') (ho : Own N w ty k v n e) (hn : ∀ g, v.ownBlock = some g → ¬ S g) : Own N w' ty k v n e := by
  refine ⟨?_, ho.lo⟩
  obtain ⟨h1, h2⟩ := ho.row
  refine ⟨h1, ?_⟩
  rcases h2 with h2 | ⟨g, cap, cur, hv, hg, hh, r⟩
  · exact .inl h2
  · exact .inr ⟨g, cap, cur, hv, hg, (h.block g (Array.getElem?_eq_some_iff.1 hh).1 (hn g (by rw [hv]; rfl))).trans hh, r⟩
end
/-- A row that append left: the same block, or a new one. -/
def Newer (w : World) (v v' : Value) : Prop := v'.ownBlock = v.ownBlock ∨ ∀ g, v'.ownBlock = some g → w.heap.size ≤ g
theorem Newer.refl (w : World) (v : Value) : Newer w v v := .inl rfl
theorem Newer.back {w w0 : World} {v v' : Value} (h : Newer w v v') (hs : w0.heap.size ≤ w.heap.size) : Newer w0 v v' := h.imp id fun h g e => Nat.le_trans hs (h g e)
theorem Own.alo {N : Nat} {w : World} {ty : TypeId} {k n : Nat} {v : Value} {e : Nat → List Value} (h : Own N w ty k v n e) (o : Obj) : Own N (w.alloc o) ty k v n e := h.keep ((Below.refl _ _).alloc (Nat.le_refl _) _)
theorem Own.sete {N : Nat} {w : World} {ty : TypeId} {k n : Nat} {v : Value} {e : Nat → List Value} (h : Own N w ty k v n e) {p : Addr} (hne : ∀ g, v.ownBlock = some g → g ≠ p.block) (u : Value) : Own N (w.setCell p u) ty k v n e := (Fr.set w p u).own h hne

/-! Numbers in rows. -/
def numV (i : Nat) : Value := .int .i64 (i : Int)
theorem flat_nums (l : List Nat) : flat l.length (lvs l) = l.map numV := by
  unfold flat
  apply List.ext_getElem?
  intro j
  by_cases hj : j < l.length
  · have := flat_at (n := l.length) (k := 1) (e := lvs l) (fun _ _ => rfl) hj (j := 0) (by omega)
    rw [Nat.mul_one, Nat.add_zero] at this
    unfold flat at this
    rw [this, List.getElem?_map, List.getElem?_eq_getElem hj]
    simp [lvs, numV, List.getD_eq_getElem?_getD, List.getElem?_eq_getElem hj]
  · have h1 := flat_len (n := l.length) (k := 1) (e := lvs l) (fun _ _ => rfl)
    unfold flat at h1
    rw [List.getElem?_eq_none (by omega), List.getElem?_eq_none (by simp; omega)]
theorem nums_one (l : List Nat) : ∀ u ∈ l.map numV, u.oneCell' = true := by
  intro u hu
  obtain ⟨i, _, rfl⟩ := List.mem_map.1 hu
  rfl
theorem Els.news {w : World} {g off : Nat} {l : List Nat} (h : Els w g off l.length 1 (lvs l)) : ∀ j u, (l.map numV)[j]? = some u → w.cell? ((⟨g, off, none⟩ : Addr).add j) = some u := by
  intro j u hj
  have hlt : j < l.length := by
    have := (List.getElem?_eq_some_iff.1 hj).1
    simpa using this
  rw [addr_off, h.num hlt, ← hj, List.getElem?_map, List.getElem?_eq_getElem hlt, List.getD_eq_getElem?_getD, List.getElem?_eq_getElem hlt]
  rfl
theorem Own.more {N : Nat} {w w' : World} {v v' : Value} {O l : List Nat} (h : Own N w 3 1 v O.length (lvs O)) (h1 : w'.ownsRow 0 3 1 v' (O.length + l.length) (flat O.length (lvs O) ++ l.map numV)) (hb : Newer w v v') (hN : N ≤ w.heap.size) : Own N w' 3 1 v' (O ++ l).length (lvs (O ++ l)) := by
  refine ⟨?_, fun g hg => ?_⟩
  · rw [flat_nums, List.map_append, List.length_append, ← flat_nums O]
    exact h1
  · rcases hb with hb | hb
    · exact h.lo g (hb ▸ hg)
    · exact Nat.le_trans hN (hb g hg)

theorem sort_nums (l : List Nat) : (l.map fun i : Nat => (i : Int)).mergeSort (fun x y => decide (x ≤ y)) = (riseF l).map fun i : Nat => (i : Int) := by
  have hp := List.mergeSort_perm (l.map fun i : Nat => (i : Int)) (fun x y => decide (x ≤ y))
  have hs := List.pairwise_mergeSort (le := fun x y : Int => decide (x ≤ y)) (by intro a b c; simp; omega) (by intro a b; simp; omega) (l.map fun i : Nat => (i : Int))
  generalize (l.map fun i : Nat => (i : Int)).mergeSort (fun x y => decide (x ≤ y)) = m at *
  have h1 : (m.map Int.toNat).Perm l := by
    have := hp.map Int.toNat
    rw [List.map_map] at this
    have e : (Int.toNat ∘ fun i : Nat => (i : Int)) = id := by funext i; simp
    rwa [e, List.map_id] at this
  have h2 : (m.map Int.toNat).Pairwise (· ≤ ·) := by
    rw [List.pairwise_map]
    refine hs.imp fun h => ?_
    have := of_decide_eq_true h
    omega
  have h3 : ∀ x, x ∈ m → (x.toNat : Int) = x := by
    intro x hx
    obtain ⟨i, _, rfl⟩ := List.mem_map.1 (hp.mem_iff.1 hx)
    simp
  rw [← rise_uniq h1 h2, List.map_map]
  conv => lhs; rw [← List.map_id m]
  exact List.map_congr_left fun x hx => (h3 x hx).symm
theorem fr_sort (w : World) (g off n : Nat) (d : Array Int) (os : Array Obj) : Fr (fun k => k = g) w (Sort.grow (Sort.putRow (Value.int .i64) (Sort.ahead w n) g off d) os) := by
  refine ⟨rfl, rfl, rfl, by rw [Sort.size_grow, Sort.size_putRow]; show w.heap.size ≤ w.heap.size + _; omega, fun k hk hn => ?_⟩
  rw [Sort.heap_grow_old _ _ (by rw [Sort.size_putRow]; exact hk)]
  show (w.heap.modify g _)[k]? = _
  rw [Array.getElem?_modify, if_neg (fun e => hn e.symm)]
/-- A row's last part, sorted. -/
theorem own_sort {N : Nat} {w : World} {g cap : Nat} {O l : List Nat} (n : Nat) (os : Array Obj) (h : Own N w 3 1 (.slice (some ⟨g, 0, none⟩) (O.length + l.length) cap) (O ++ l).length (lvs (O ++ l))) :
    Own N (Sort.grow (Sort.putRow (Value.int .i64) (Sort.ahead w n) g O.length ((riseF l).map fun i : Nat => (i : Int)).toArray) os) 3 1 (.slice (some ⟨g, 0, none⟩) (O.length + l.length) cap) (O ++ riseF l).length (lvs (O ++ riseF l)) := by
  refine ⟨?_, h.lo⟩
  have hl := rise_len l
  obtain ⟨h1, h2⟩ := h.row
  rw [flat_nums] at h1 h2 ⊢
  rcases h2 with ⟨h2, _⟩ | ⟨g', cap', cur, hv, hg, hh, hc1, hc2, hc3, hc4⟩
  · cases h2
  · injection hv with e1 e2 e3
    injection e1 with e1
    injection e1 with e1
    subst e1
    subst e3
    have hlt := (Array.getElem?_eq_some_iff.1 hh).1
    have hlen : (O ++ l).length = O.length + l.length := List.length_append
    have hlen2 : (O ++ riseF l).length = O.length + l.length := by rw [List.length_append, hl]
    refine ⟨by simp, .inr ⟨g, cap, Sort.putCells (Value.int .i64) O.length ((riseF l).map fun i : Nat => (i : Int)).toArray cur, ?_, hg, ?_, ?_, hc2, ?_, ?_⟩⟩
    · rw [hlen2]
    · rw [Sort.heap_grow_old _ _ (by rw [Sort.size_putRow]; exact hlt)]
      simp [Sort.putRow, Sort.mapBlock, Sort.ahead, Array.getElem?_modify, hh, Sort.onCells]
    · omega
    · simp [Sort.putCells, hc3]
    · rw [hlen2]
      rw [hlen] at hc4
      apply List.ext_getElem?
      intro j
      by_cases hj : j < O.length + l.length
      · have hcj : cur.toList[j]? = ((O ++ l).map numV)[j]? := by rw [← hc4, List.getElem?_take_of_lt (by omega)]
        rw [List.getElem?_take_of_lt (by omega), Array.getElem?_toList]
        simp only [Sort.putCells, Array.getElem?_mapIdx]
        rw [← Array.getElem?_toList, hcj, List.getElem?_map, List.getElem?_map]
        by_cases hj2 : j < O.length
        · rw [List.getElem?_append_left hj2, List.getElem?_append_left hj2, List.getElem?_eq_getElem hj2]
          simp only [Option.map_some]
          rw [if_neg (by omega)]
        · rw [List.getElem?_append_right (by omega), List.getElem?_append_right (by omega), List.getElem?_eq_getElem (show j - O.length < l.length by omega), List.getElem?_eq_getElem (show j - O.length < (riseF l).length by omega)]
          simp only [Option.map_some]
          rw [if_pos ⟨by omega, by simp [hl]; omega⟩]
          simp [numV, show j - O.length < (riseF l).length by omega]
      · rw [List.getElem?_take_eq_none (by omega), List.getElem?_eq_none (by simp [hl]; omega)]

/-! The tree as it is built. -/
def nd0 : Nd := ⟨⟨0, 0, 0, 0, 0, 0⟩, 0, 0, 0, 0⟩
def nds (D : List Nd) (i : Nat) : List Value := dcs (D.getD i nd0)
theorem nds_snoc {D : List Nd} {x : Nd} {i : Nat} (h : i < D.length) : nds D i = nds (D ++ [x]) i := by
  unfold nds
  rw [List.getD_eq_getElem?_getD, List.getD_eq_getElem?_getD, List.getElem?_append_left h]
theorem nds_last (D : List Nd) (x : Nd) : nds (D ++ [x]) D.length = dcs x := by
  unfold nds
  rw [List.getD_eq_getElem?_getD, List.getElem?_append_right (Nat.le_refl _), Nat.sub_self]
  rfl
structure TreeS (N : Nat) (w : World) (t : Nat) (nv ov : Value) (D : List Nd) (O : List Nat) : Prop where
  bT : Lp.Bk w t #[nv, ov] 72
  on : Own N w 56 10 nv D.length (nds D)
  oo : Own N w 3 1 ov O.length (lvs O)
  ap : Apart2 nv ov
theorem TreeS.keep {N : Nat} {w w' : World} {t : Nat} {nv ov : Value} {D : List Nd} {O : List Nat} (h : TreeS N w t nv ov D O) (hb : Below w.heap.size w w') : TreeS N w' t nv ov D O := ⟨h.bT.keep hb, h.on.keep hb, h.oo.keep hb, h.ap⟩

theorem made_ints (n : Nat) (w : World) (h : n ≤ 4194304) : (Instr.makeSlice 28 (.int .i64 (n : Int)) (.int .i64 (n : Int))).run Tryz.prog w = .ok (.slice (some ⟨w.heap.size, 0, none⟩) n n) (w.alloc (.cells (madeCells #[.int .i64 0] n) 3)) := by
  obtain ⟨i, hi, z0, z1, z2⟩ := info_int
  have := run_make (P := Tryz.prog) w 28 3 i (.int .i64 0) under_ints hi z0 .i64 .i64 (n : Int) (n : Int) (by omega) (Int.le_refl _) (by rw [z2]; omega) (by omega)
  rw [this, z1, Nat.mul_one]
  rfl
/-- A block of numbers, the first j of them told. -/
def Pt (w : World) (g n j : Nat) : Prop := ∃ vs : Array Value, Lp.Bk w g vs 3 ∧ vs.size = n ∧ ∀ i, i < j → vs[i]? = some (.int .i64 (i : Int))
theorem Pt.at' {w : World} {g n j i : Nat} (h : Pt w g n j) (hi : i < n) : ∃ u, w.cell? ⟨g, i, none⟩ = some u ∧ w.frozen? ⟨g, i, none⟩ = false := by
  obtain ⟨vs, hb, hs, _⟩ := h
  refine ⟨vs[i]'(by omega), ?_, hb.frz i⟩
  rw [hb.cell i, Array.getElem?_eq_getElem]
theorem Pt.set {w : World} {g n j : Nat} (h : Pt w g n j) (hj : j < n) : Pt (w.setCell ⟨g, j, none⟩ (.int .i64 (j : Int))) g n (j + 1) := by
  obtain ⟨vs, hb, hs, ht⟩ := h
  refine ⟨vs.setIfInBounds j (.int .i64 (j : Int)), hb.set j _, by simp [hs], fun i hi => ?_⟩
  by_cases e : j = i
  · subst e
    rw [Array.getElem?_setIfInBounds_self_of_lt (by omega)]
  · rw [Array.getElem?_setIfInBounds_ne e]
    exact ht i (by omega)
theorem Pt.sl {w : World} {g n : Nat} (h : Pt w g n n) : Sl w (some ⟨g, 0, none⟩) (List.range n).length 1 (lvs (List.range n)) := by
  obtain ⟨vs, hb, hs, ht⟩ := h
  refine .inr ⟨g, 0, rfl, hb.lt, fun i hi j hj => ?_⟩
  obtain rfl : j = 0 := by omega
  rw [List.length_range] at hi
  rw [show 0 + (i * 1 + 0) = i by omega, hb.cell i, ht i hi]
  unfold lvs
  rw [List.getD_eq_getElem?_getD, List.getElem?_range hi]
  rfl
set_option maxRecDepth 100000 in
set_option maxHeartbeats 1000000 in
theorem numbers_any (n cb cm : Nat) (ab am : Option Addr) (w : World) (hn : n ≤ 512) : Calls Tryz.prog 53 #[.agg #[.slice ab n cb, .slice am n cm]] w fun e w' => e = .returned (.slice (some ⟨w.heap.size + 1, 0, none⟩) (List.range n).length (List.range n).length) ∧ Sl w' (some ⟨w.heap.size + 1, 0, none⟩) (List.range n).length 1 (lvs (List.range n)) ∧ w.heap.size + 1 < w'.heap.size ∧ Cl w w' := by
  have HM : ∀ w, _ := fun w => made_ints n w (by omega)
  go_enter Tryz.func53, Tryz.ntmps53
  go_wp2_with fail
  have hI : Pt ((w.alloc (.cells #[.slice ab n cb, .slice am n cm] 77)).alloc (.cells (madeCells #[.int .i64 0] n) 3)) (w.heap.size + 1) n 0 := ⟨_, Lp.Bk.al1 _ _ _ _, by simp [madeCells], fun i hi => absurd hi (Nat.not_lt_zero i)⟩
  have HB : Cl w ((w.alloc (.cells #[.slice ab n cb, .slice am n cm] 77)).alloc (.cells (madeCells #[.int .i64 0] n) 3)) := ((Below.refl _ _).alloc (Nat.le_refl _) _).alloc (by simp) _
  go_loopg [11] n (fun k i wr => ∃ (j : Nat), k + j = n ∧ i = .int .i64 (j : Int) ∧ Pt wr (w.heap.size + 1) n j ∧ w.heap.size + 1 < wr.heap.size ∧ Cl w wr)
  case atStart => exact ⟨0, by omega, rfl, hI, by simp, HB⟩
  case round =>
    clear hI HB
    obtain ⟨g0, hg0⟩ : ∃ g0, g0 = gk := ⟨_, rfl⟩
    subst hg0
    obtain ⟨j, hk, rfl, hI, hlt, HB⟩ := hrel
    have HK := aside hk
    clear hk
    by_cases hj : j < n
    · have hd : ((j : Int) < (n : Int)) = True := eq_true (by omega)
      have hj5 : j < 512 := by omega
      obtain ⟨u, k0, z0⟩ := hI.at' hj
      have HI := hid hI
      have HBB := hid HB
      have HLT := aside hlt
      clear hI HB
      go_wp2_with fail
      go_roundg (g0 - 1)
      case measure => have := HK.out; omega
      case rel => exact ⟨j + 1, by have := HK.out; omega, by go_num, HI.out.set hj, by simp [World.setCell]; exact HLT.out, HBB.out.setCell (by show w.heap.size ≤ w.heap.size + 1; omega) _⟩
    · have hd : ((j : Int) < (n : Int)) = False := eq_false (by omega)
      have hjn : j = n := by have := HK.out; omega
      subst hjn
      go_wp2_with fail
      refine bodyPost_ret (v := .slice (some ⟨w.heap.size + 1, 0, none⟩) j j) (by simp [results, go_sem]) rfl ⟨by rw [List.length_range], hI.sl, hlt, HB⟩

end Go.Proofs.YtiblmojdjnfoaaaGreat

namespace Go.Proofs.YtiblmojdjnfoaaaGreat
open Go.RowKit Fl Lm

def leafOfB (b : Bx) (p : Nat) (l : List Nat) : Nd := ⟨b, 0, 0, p, p + l.length⟩
theorem own_holds {N : Nat} {w : World} {g cap : Nat} {O l : List Nat} (h : Own N w 3 1 (.slice (some ⟨g, 0, none⟩) (O.length + l.length) cap) (O ++ l).length (lvs (O ++ l))) : Sort.Holds (Value.int .i64) w g O.length (l.map fun i : Nat => (i : Int)).toArray := by
  obtain ⟨h1, h2⟩ := h.row
  rw [flat_nums] at h1 h2
  rcases h2 with ⟨h2, _⟩ | ⟨g', cap', cur, hv, hg, hh, hc1, hc2, hc3, hc4⟩
  · cases h2
  · injection hv with e1 e2 e3
    injection e1 with e1
    injection e1 with e1
    subst e1
    intro j hj
    have hj' : j < l.length := by simpa using hj
    have hcj : cur.toList[O.length + j]? = ((O ++ l).map numV)[O.length + j]? := by rw [← hc4, List.getElem?_take_of_lt (by simp; omega)]
    refine ⟨?_, by simp [World.frozen?, hh]⟩
    simp only [World.cell?, hh]
    simp only [Option.isSome_none, Bool.false_eq_true, if_false]
    rw [← Array.getElem?_toList, hcj, List.getElem?_map, List.getElem?_append_right (by omega), show O.length + j - O.length = j by omega, List.getElem?_eq_getElem hj']
    simp [numV, hj']

theorem lay_end {N t : Nat} {w v7 w9 : World} {nv ov0 ov v' : Value} {D : List Nd} {O : List Nat} (x : Nd) (BT : Lp.Bk v7 t #[nv, ov] 72) (ON : Own N v7 56 10 nv D.length (nds D)) (OO : Own N v7 3 1 ov O.length (lvs O)) (FR : Fr (fun k => k = t ∨ Value.ownBlock nv = some k ∨ Value.ownBlock ov0 = some k) w v7) (AP : Apart2 nv ov) (ht : t < N) (hN : N ≤ w.heap.size) (NM : ∀ g, nv.ownBlock = some g → N ≤ g)
    (hown : w9.ownsRow 0 56 10 v' (D.length + 1) (flat D.length (nds D) ++ dcs x)) (hg : v7.grownBy w9 nv.ownBlock) (hb : Newer v7 nv v') :
    Lp.Bk w9 t #[nv, ov] 72 ∧ Own N w9 56 10 v' (D ++ [x]).length (nds (D ++ [x])) ∧ Own N w9 3 1 ov O.length (lvs O) ∧ Apart2 v' ov ∧ Fr (fun k => k = t ∨ Value.ownBlock nv = some k ∨ Value.ownBlock ov0 = some k) w w9 ∧ Newer w nv v' := by
  have hs := FR.size
  have ON2 := ON.push (e' := nds (D ++ [x])) hown hb (Nat.le_trans hN hs) (fun i hi => nds_snoc hi) (nds_last D _)
  rw [show D.length + 1 = (D ++ [x]).length by simp] at ON2
  exact ⟨grown_keep hg BT (fun e => by have := NM _ e; omega), ON2, OO.other hg (fun g e e2 => AP g e2 e), AP.push OO hb, FR.trans (Fr.grown hg) (fun i _ e => .inr (.inl e)), hb.back hs⟩

set_option maxRecDepth 100000 in
set_option maxHeartbeats 1000000 in
theorem lay_node (N t cl g off : Nat) (nv ov : Value) (D : List Nd) (O l : List Nat) (b : Bx) (w : World) (h : TreeS N w t nv ov D O) (ht : t < N) (hN : N ≤ w.heap.size) (hD : D.length ≤ 4000) (h4 : 4 < l.length) :
    Calls Tryz.prog 54 #[.pointer (some ⟨t, 0, none⟩), .slice (some ⟨g, off, none⟩) l.length cl, bxv b] w fun e w' => e = .returned (.int .i64 (D.length : Int)) ∧ ∃ nv' ov', TreeS N w' t nv' ov' (D ++ [⟨b, 0, 0, 0, 0⟩]) O ∧ Fr (fun k => k = t ∨ Value.ownBlock nv = some k ∨ Value.ownBlock ov = some k) w w' ∧ Newer w nv nv' ∧ Newer w ov ov' := by
  obtain ⟨iI, hI0, hI1, hI2, hI3⟩ := info_int
  obtain ⟨iN, hJ0, hJ1, hJ2, hJ3⟩ := info_node
  obtain ⟨an, cn, rfl⟩ := h.on.slice
  obtain ⟨ao, co, rfl⟩ := h.oo.slice
  have hlt : t < w.heap.size := h.bT.lt
  have hne1 : (t = w.heap.size) = False := eq_false (by omega)
  have hne2 : (t = w.heap.size + 1) = False := eq_false (by omega)
  have NL := aside (fun g e => h.on.lt g e : ∀ g, (Value.slice an D.length cn).ownBlock = some g → g < w.heap.size)
  have OL := aside (fun g e => h.oo.lt g e : ∀ g, (Value.slice ao O.length co).ownBlock = some g → g < w.heap.size)
  have NM := aside (fun g e => h.on.lo g e : ∀ g, (Value.slice an D.length cn).ownBlock = some g → N ≤ g)
  have OM := aside (fun g e => h.oo.lo g e : ∀ g, (Value.slice ao O.length co).ownBlock = some g → N ≤ g)
  have kT := h.bT.cell
  have zT := h.bT.frz
  have HT := hid h
  clear h
  unfold bxv
  have hc4 : ((l.length : Int) ≤ 4) = False := eq_false (by omega)
  go_enter Tryz.func54, Tryz.ntmps54
  go_wp2_with fail
  refine Lp.settle (fun w' => Lp.Bk w' t #[.slice an D.length cn, .slice ao O.length co] 72 ∧ Lp.Bk w' (w.heap.size + 1) #[.float .f64 b.a0, .float .f64 b.a1, .float .f64 b.a2, .float .f64 b.a3, .float .f64 b.a4, .float .f64 b.a5, .int .i64 0, .int .i64 0, .int .i64 0, .int .i64 0] 56 ∧ Own N w' 56 10 (.slice an D.length cn) D.length (nds D) ∧ Own N w' 3 1 (.slice ao O.length co) O.length (lvs O) ∧ Fr (fun k => k = t ∨ Value.ownBlock (.slice an D.length cn) = some k ∨ Value.ownBlock (.slice ao O.length co) = some k) w w') ⟨(HT.out.bT.alo _).alo _, Lp.Bk.al1 _ _ _ _, (HT.out.on.alo _).alo _, (HT.out.oo.alo _).alo _, Fr.of (((Below.refl _ _).alloc (Nat.le_refl _) _).alloc (by simp) _)⟩ ?_
  clear kT zT
  rintro v7 ⟨BT, BN, ON, OO, FR⟩
  have AP := aside HT.out.ap
  have OVN : Newer w (.slice ao O.length co) (.slice ao O.length co) := Newer.refl _ _
  clear HT hne1 hne2
  have kT := BT.cell
  have kN := BN.cell
  have hltv : t < v7.heap.size := BT.lt
  have hltn : w.heap.size + 1 < v7.heap.size := BN.lt
  have HBT := hid BT
  have HON := hid ON
  have HOO := hid OO
  have HFR := hid FR
  clear BT BN ON OO FR
  go_region_law ((refine step_push _ rfl _ _ 48 rfl 56 iN (.agg #[.float .f64 0, .float .f64 0, .float .f64 0, .float .f64 0, .float .f64 0, .float .f64 0, .int .i64 0, .int .i64 0, .int .i64 0, .int .i64 0]) 10 80 under_nodes hJ0 hJ1 hJ2 hJ3 rfl (by decide) (.slice an D.length cn) D.length (flat D.length (nds D)) rfl (HON.out.alo (.cells #[.float .f64 b.a0, .float .f64 b.a1, .float .f64 b.a2, .float .f64 b.a3, .float .f64 b.a4, .float .f64 b.a5, .int .i64 0, .int .i64 0, .int .i64 0, .int .i64 0] 56)).row ⟨v7.heap.size, 0, none⟩ 1 1 (dcs (⟨b, 0, 0, 0, 0⟩ : Nd)) rfl rfl (cells_at0 (xs := dcs (⟨b, 0, 0, 0, 0⟩ : Nd)) (Lp.Bk.al v7 _ _)) (dcs_one _) (max_small (by omega)) (by omega) ?_; intro v' w9 hown hg hb; have hg : (v7.alloc (.cells #[.float .f64 b.a0, .float .f64 b.a1, .float .f64 b.a2, .float .f64 b.a3, .float .f64 b.a4, .float .f64 b.a5, .int .i64 0, .int .i64 0, .int .i64 0, .int .i64 0] 56)).grownBy w9 (Value.ownBlock (.slice an D.length cn)) := grown_drew hg; have hb : Newer (v7.alloc (.cells #[.float .f64 b.a0, .float .f64 b.a1, .float .f64 b.a2, .float .f64 b.a3, .float .f64 b.a4, .float .f64 b.a5, .int .i64 0, .int .i64 0, .int .i64 0, .int .i64 0] 56)) (.slice an D.length cn) v' := hb; have HS2 := hid (lay_end (⟨b, 0, 0, 0, 0⟩ : Nd) (HBT.out.alo _) (HON.out.alo _) (HOO.out.alo _) (HFR.out.trans (Fr.of (S := fun _ => False) ((Below.refl _ _).alloc (Nat.le_refl _) _)) (fun _ _ h => h.elim)) AP.out ht hN NM.out hown hg hb); have kT2 := HS2.out.1.cell; have zT2 := HS2.out.1.frz; obtain ⟨an2, cn2, rfl, -⟩ := owns_slice hown; clear hown hg hb kT kN))
  all_goals
    have HW2 := hid OVN
    clear OVN AP
    go_wp2_with fail
    obtain ⟨h1, h2, h3, h4', h5, h6⟩ := HS2.out
    refine bodyPost_ret (v := .int .i64 (D.length : Int)) (by simp [results, go_sem] <;> omega) rfl ⟨rfl, .slice an2 (D.length + 1) cn2, .slice ao O.length co, ⟨h1.set 0 _, h2.setc (by exact ht) _, h3.setc (by exact ht) _, h4'⟩, h5.trans (Fr.set _ _ _) (fun i _ e => .inl e), h6, HW2.out⟩

set_option maxRecDepth 100000 in
set_option maxHeartbeats 1000000 in
theorem lay_leaf (N t cl g off : Nat) (nv ov : Value) (D : List Nd) (O l : List Nat) (b : Bx) (w : World) (h : TreeS N w t nv ov D O) (ht : t < N) (hN : N ≤ w.heap.size) (hL : Sl w (some ⟨g, off, none⟩) l.length 1 (lvs l)) (hO : O.length ≤ 4000) (hD : D.length ≤ 4000) (h0 : 0 < l.length) (h4 : l.length ≤ 4) :
    Calls Tryz.prog 54 #[.pointer (some ⟨t, 0, none⟩), .slice (some ⟨g, off, none⟩) l.length cl, bxv b] w fun e w' => e = .returned (.int .i64 (D.length : Int)) ∧ ∃ nv' ov', TreeS N w' t nv' ov' (D ++ [(leafOfB b O.length l)]) (O ++ riseF l) ∧ Fr (fun k => k = t ∨ Value.ownBlock nv = some k ∨ Value.ownBlock ov = some k) w w' ∧ Newer w nv nv' ∧ Newer w ov ov' := by
  obtain ⟨iI, hI0, hI1, hI2, hI3⟩ := info_int
  obtain ⟨iN, hJ0, hJ1, hJ2, hJ3⟩ := info_node
  obtain ⟨an, cn, rfl⟩ := h.on.slice
  obtain ⟨ao, co, rfl⟩ := h.oo.slice
  have hlt : t < w.heap.size := h.bT.lt
  have hne1 : (t = w.heap.size) = False := eq_false (by omega)
  have hne2 : (t = w.heap.size + 1) = False := eq_false (by omega)
  have NL := aside (fun g e => h.on.lt g e : ∀ g, (Value.slice an D.length cn).ownBlock = some g → g < w.heap.size)
  have OL := aside (fun g e => h.oo.lt g e : ∀ g, (Value.slice ao O.length co).ownBlock = some g → g < w.heap.size)
  have NM := aside (fun g e => h.on.lo g e : ∀ g, (Value.slice an D.length cn).ownBlock = some g → N ≤ g)
  have OM := aside (fun g e => h.oo.lo g e : ∀ g, (Value.slice ao O.length co).ownBlock = some g → N ≤ g)
  have kT := h.bT.cell
  have zT := h.bT.frz
  have HT := hid h
  clear h
  unfold bxv
  have HE := hid (hL.get (i := 0) h0)
  have hc4 : ((l.length : Int) ≤ 4) = True := eq_true (by omega)
  have hL1 : Els w g off l.length 1 (lvs l) := by
    obtain ⟨g', o', e, hE⟩ := HE.out
    injection e with e
    injection e with e1 e2
    subst e1 e2
    exact hE
  clear HE hL
  have HEL := hid hL1
  clear hL1
  go_enter Tryz.func54, Tryz.ntmps54
  go_wp2_with (
    (at_builtin; refine wpList_push _ rfl _ _ 28 rfl 3 iI (.int .i64 0) 1 8 under_ints hI0 hI1 hI2 hI3 rfl (by decide) (.slice ao O.length co) O.length (flat O.length (lvs O)) rfl ((HT.out.oo.alo _).alo (.cells #[.float .f64 b.a0, .float .f64 b.a1, .float .f64 b.a2, .float .f64 b.a3, .float .f64 b.a4, .float .f64 b.a5, .int .i64 0, .int .i64 0, .int .i64 (O.length : Int), .int .i64 0] 56)).row ⟨g, off, none⟩ l.length cl (l.map numV) rfl (by simp) ((HEL.out.alo _).alo (.cells #[.float .f64 b.a0, .float .f64 b.a1, .float .f64 b.a2, .float .f64 b.a3, .float .f64 b.a4, .float .f64 b.a5, .int .i64 0, .int .i64 0, .int .i64 (O.length : Int), .int .i64 0] 56)).news (nums_one _) (max_small (by omega)) (by omega) ?_))
  intro v' w4 hown hg hb
  clear kT zT
  have hgs := hg.size
  simp at hgs
  have hb : Newer ((w.alloc (.cells #[.float .f64 b.a0, .float .f64 b.a1, .float .f64 b.a2, .float .f64 b.a3, .float .f64 b.a4, .float .f64 b.a5] 54)).alloc (.cells #[.float .f64 b.a0, .float .f64 b.a1, .float .f64 b.a2, .float .f64 b.a3, .float .f64 b.a4, .float .f64 b.a5, .int .i64 0, .int .i64 0, .int .i64 (O.length : Int), .int .i64 0] 56)) (.slice ao O.length co) v' := hb.imp id fun h k e => by have := h k e; simp; omega
  have BT := grown_keep hg ((HT.out.bT.alo _).alo _) (fun e => by have := OM.out _ e; omega)
  have BN := grown_keep hg (Lp.Bk.al1 w (.cells #[.float .f64 b.a0, .float .f64 b.a1, .float .f64 b.a2, .float .f64 b.a3, .float .f64 b.a4, .float .f64 b.a5] 54) #[.float .f64 b.a0, .float .f64 b.a1, .float .f64 b.a2, .float .f64 b.a3, .float .f64 b.a4, .float .f64 b.a5, .int .i64 0, .int .i64 0, .int .i64 (O.length : Int), .int .i64 0] 56) (fun e => by have := OL.out _ e; omega)
  have ON := ((HT.out.on.alo _).alo _).other hg (fun g e e2 => HT.out.ap g e e2)
  have OO := ((HT.out.oo.alo (.cells #[.float .f64 b.a0, .float .f64 b.a1, .float .f64 b.a2, .float .f64 b.a3, .float .f64 b.a4, .float .f64 b.a5] 54)).alo (.cells #[.float .f64 b.a0, .float .f64 b.a1, .float .f64 b.a2, .float .f64 b.a3, .float .f64 b.a4, .float .f64 b.a5, .int .i64 0, .int .i64 0, .int .i64 (O.length : Int), .int .i64 0] 56)).more hown hb (by simp; omega)
  have AP := (HT.out.ap.symm.push ((HT.out.on.alo (.cells #[.float .f64 b.a0, .float .f64 b.a1, .float .f64 b.a2, .float .f64 b.a3, .float .f64 b.a4, .float .f64 b.a5] 54)).alo (.cells #[.float .f64 b.a0, .float .f64 b.a1, .float .f64 b.a2, .float .f64 b.a3, .float .f64 b.a4, .float .f64 b.a5, .int .i64 0, .int .i64 0, .int .i64 (O.length : Int), .int .i64 0] 56)) hb).symm
  have OVN : Newer w (.slice ao O.length co) v' := Newer.back hb (by simp; omega)
  have FR : Fr (fun k => k = t ∨ Value.ownBlock (.slice an D.length cn) = some k ∨ Value.ownBlock (.slice ao O.length co) = some k) w w4 := (Fr.of (S := (fun k => k = t ∨ Value.ownBlock (.slice an D.length cn) = some k ∨ Value.ownBlock (.slice ao O.length co) = some k)) (((Below.refl w.heap.size w).alloc (Nat.le_refl _) _).alloc (by simp) _)).trans (Fr.grown hg) (fun i _ e => .inr (.inr e))
  clear HT HEL
  rcases hown.2 with ⟨_, hz⟩ | ⟨gO, cO, _, rfl, _, _, hcap, _, _, _⟩
  · exact absurd hz (by omega)
  clear hown hg
  have hgN := hid (OO.lo gO rfl)
  have hgW : gO ≠ w.heap.size + 1 := by
    rcases hb with e | e
    · have := OL.out gO e.symm
      omega
    · have := e gO rfl
      simp at this
      omega
  have HG := aside (fun i hi (e : i = gO) => (by
    rcases hb with e2 | e2
    · rw [e]; exact e2.symm
    · have := e2 gO rfl
      simp at this
      omega) : ∀ i, i < w.heap.size → i = gO → (Value.slice ao O.length co).ownBlock = some i)
  have HW := aside hgW
  clear hgW hb
  have kT := BT.cell
  have zT := BT.frz
  have kN := BN.cell
  have zN := BN.frz
  have hne3 : (w.heap.size + 1 = t) = False := eq_false (by omega)
  have hlt4 : w.heap.size + 1 < w4.heap.size := by omega
  have HBT := hid BT
  have HBN := hid BN
  have HON := hid ON
  have HOO := hid OO
  have HFR := hid FR
  clear BT BN ON OO FR
  go_wp2_with fail
  refine Lp.settle (fun w' => Lp.Bk w' t #[.slice an D.length cn, .slice (some ⟨gO, 0, none⟩) (O.length + l.length) cO] 72 ∧ Lp.Bk w' (w.heap.size + 1) #[.float .f64 b.a0, .float .f64 b.a1, .float .f64 b.a2, .float .f64 b.a3, .float .f64 b.a4, .float .f64 b.a5, .int .i64 0, .int .i64 0, .int .i64 (O.length : Int), .int .i64 ((O.length + l.length : Nat) : Int)] 56 ∧ Own N w' 56 10 (.slice an D.length cn) D.length (nds D) ∧ Own N w' 3 1 (.slice (some ⟨gO, 0, none⟩) (O.length + l.length) cO) (O ++ l).length (lvs (O ++ l)) ∧ Fr (fun k => k = t ∨ Value.ownBlock (.slice an D.length cn) = some k ∨ Value.ownBlock (.slice ao O.length co) = some k) w w') ⟨(HBT.out.set 1 _).seto (by show t ≠ w.heap.size + 1; omega) _, (HBN.out.seto (by show w.heap.size + 1 ≠ t; omega) _).set 9 _, (HON.out.setc (by exact ht) _).sete (fun g e => by have := NL.out g e; show g ≠ w.heap.size + 1; omega) _, (HOO.out.setc (by exact ht) _).sete (fun g e => by cases e; exact HW.out) _, (HFR.out.trans (Fr.set _ _ _) (fun i _ e => .inl e)).trans (Fr.set _ _ _) (S := (fun k => k = t ∨ Value.ownBlock (.slice an D.length cn) = some k ∨ Value.ownBlock (.slice ao O.length co) = some k)) (fun i hi e => by have e2 : i = w.heap.size + 1 := e; omega)⟩ ?_
  clear kT zT kN zN hne3 hlt4 HBT HBN HON HOO HFR
  rintro v5 ⟨BT, BN, ON, OO, FR⟩
  have hO1 : (0 : Int) ≤ (O.length : Int) := by omega
  have hO2 : (O.length : Int) ≤ (O.length : Int) + (l.length : Int) := by omega
  have hO3 : O.length ≤ O.length + l.length := by omega
  have hO4 : O.length ≤ cO := by omega
  have hO5 : (cO = O.length) = False := eq_false (by omega)
  have hO6 : (O.length = cO) = False := eq_false (by omega)
  apply Lw.region _ _ 7 (by kernel_rfl) (by kernel_rfl) (by kernel_rfl) (Below.refl _ _)
  apply Lw.facts
  · intro w1 hw
    exact And.intro (BT.cl hw).cell (BN.cl hw).cell
  intro HF
  iterate 7 (
    apply Lw.one ?_ rfl
    · intro w hw
      obtain ⟨k0, k1⟩ := HF.out _ hw
      go_simp
      exact rfl
    intro K hK
    go_simp
    refine hK.out _ ?_
    clear hK K)
  rotate_left
  exact []
  refine Lw.fin ?_
  intro v6 hm
  replace BT := BT.keep hm
  replace BN := BN.keep hm
  replace ON := ON.keep hm
  replace OO := OO.keep hm
  replace FR := FR.trans (Fr.of (S := fun _ => False) hm) (S := (fun k => k = t ∨ Value.ownBlock (.slice an D.length cn) = some k ∨ Value.ownBlock (.slice ao O.length co) = some k)) (fun _ _ h => h.elim)
  clear hm HF
  go_wp2_with fail
  have hcon := Tryz.slices_Sort_int gO O.length (cO - O.length) (l.map fun i : Nat => (i : Int)) v6 (own_holds OO) (OO.lt gO rfl) (by rw [List.length_map]; omega)
  rw [List.length_map, sort_nums] at hcon
  refine Calls.mono hcon ?_
  clear hcon
  rintro e w7 ⟨rfl, nn, os, hw⟩
  have hfr := fr_sort v6 gO O.length nn ((riseF l).map fun i : Nat => (i : Int)).toArray os
  have hos := own_sort nn os OO
  rw [← hw] at hfr hos
  clear hw
  have hnt : ¬ t = gO := by have := hgN.out; omega
  have hnw : ¬ w.heap.size + 1 = gO := fun e => HW.out e.symm
  replace BT := hfr.bk BT hnt
  replace BN := hfr.bk BN hnw
  replace ON := hfr.own ON (fun g e e2 => AP g e (by rw [e2]; rfl))
  replace FR := FR.trans hfr (fun i hi e => .inr (.inr (HG.out i hi e)))
  replace OO := hos
  clear hos hfr hnt hnw hO1 hO2 hO3 hO4 hO5 hO6 HG HW hgN hgs hcap
  replace AP := aside AP
  rw [show (Value.slice (some ⟨gO, 0, none⟩) (O.length + l.length) cO) = .slice (some ⟨gO, 0, none⟩) (O ++ riseF l).length cO by rw [List.length_append, rise_len]] at BT OO AP OVN
  go_wp2_with fail
  refine Lp.settle (fun w' => Lp.Bk w' t #[.slice an D.length cn, .slice (some ⟨gO, 0, none⟩) (O ++ riseF l).length cO] 72 ∧ Lp.Bk w' (w.heap.size + 1) #[.float .f64 b.a0, .float .f64 b.a1, .float .f64 b.a2, .float .f64 b.a3, .float .f64 b.a4, .float .f64 b.a5, .int .i64 0, .int .i64 0, .int .i64 (O.length : Int), .int .i64 ((O.length + l.length : Nat) : Int)] 56 ∧ Own N w' 56 10 (.slice an D.length cn) D.length (nds D) ∧ Own N w' 3 1 (.slice (some ⟨gO, 0, none⟩) (O ++ riseF l).length cO) (O ++ riseF l).length (lvs (O ++ riseF l)) ∧ Fr (fun k => k = t ∨ Value.ownBlock (.slice an D.length cn) = some k ∨ Value.ownBlock (.slice ao O.length co) = some k) w w') ⟨BT, BN, ON, OO, FR⟩ ?_
  clear BT BN ON OO FR
  rintro v7 ⟨BT, BN, ON, OO, FR⟩
  have kT := BT.cell
  have kN := BN.cell
  have hltv : t < v7.heap.size := BT.lt
  have hltn : w.heap.size + 1 < v7.heap.size := BN.lt
  have HBT := hid BT
  have HON := hid ON
  have HOO := hid OO
  have HFR := hid FR
  clear BT BN ON OO FR
  go_region_law ((refine step_push _ rfl _ _ 48 rfl 56 iN (.agg #[.float .f64 0, .float .f64 0, .float .f64 0, .float .f64 0, .float .f64 0, .float .f64 0, .int .i64 0, .int .i64 0, .int .i64 0, .int .i64 0]) 10 80 under_nodes hJ0 hJ1 hJ2 hJ3 rfl (by decide) (.slice an D.length cn) D.length (flat D.length (nds D)) rfl (HON.out.alo (.cells #[.float .f64 b.a0, .float .f64 b.a1, .float .f64 b.a2, .float .f64 b.a3, .float .f64 b.a4, .float .f64 b.a5, .int .i64 0, .int .i64 0, .int .i64 (O.length : Int), .int .i64 ((O.length + l.length : Nat) : Int)] 56)).row ⟨v7.heap.size, 0, none⟩ 1 1 (dcs (leafOfB b O.length l)) rfl rfl (cells_at0 (xs := dcs (leafOfB b O.length l)) (Lp.Bk.al v7 _ _)) (dcs_one _) (max_small (by omega)) (by omega) ?_; intro v' w9 hown hg hb; have hg : (v7.alloc (.cells #[.float .f64 b.a0, .float .f64 b.a1, .float .f64 b.a2, .float .f64 b.a3, .float .f64 b.a4, .float .f64 b.a5, .int .i64 0, .int .i64 0, .int .i64 (O.length : Int), .int .i64 ((O.length + l.length : Nat) : Int)] 56)).grownBy w9 (Value.ownBlock (.slice an D.length cn)) := grown_drew hg; have hb : Newer (v7.alloc (.cells #[.float .f64 b.a0, .float .f64 b.a1, .float .f64 b.a2, .float .f64 b.a3, .float .f64 b.a4, .float .f64 b.a5, .int .i64 0, .int .i64 0, .int .i64 (O.length : Int), .int .i64 ((O.length + l.length : Nat) : Int)] 56)) (.slice an D.length cn) v' := hb; have HS2 := hid (lay_end (leafOfB b O.length l) (HBT.out.alo _) (HON.out.alo _) (HOO.out.alo _) (HFR.out.trans (Fr.of (S := fun _ => False) ((Below.refl _ _).alloc (Nat.le_refl _) _)) (fun _ _ h => h.elim)) AP.out ht hN NM.out hown hg hb); have kT2 := HS2.out.1.cell; have zT2 := HS2.out.1.frz; obtain ⟨an2, cn2, rfl, -⟩ := owns_slice hown; clear hown hg hb kT kN))
  all_goals
    have HW2 := hid OVN
    clear OVN AP
    go_wp2_with fail
    obtain ⟨h1, h2, h3, h4', h5, h6⟩ := HS2.out
    refine bodyPost_ret (v := .int .i64 (D.length : Int)) (by simp [results, go_sem] <;> omega) rfl ⟨rfl, .slice an2 (D.length + 1) cn2, .slice (some ⟨gO, 0, none⟩) (O ++ riseF l).length cO, ⟨h1.set 0 _, h2.setc (by exact ht) _, h3.setc (by exact ht) _, h4'⟩, h5.trans (Fr.set _ _ _) (fun i _ e => .inl e), h6, HW2.out⟩

end Go.Proofs.YtiblmojdjnfoaaaGreat

namespace Go.Proofs.YtiblmojdjnfoaaaGreat
open Go.RowKit Fl Lm

set_option maxRecDepth 100000 in
set_option maxHeartbeats 1000000 in
theorem lay_empty (N t cl g : Nat) (b : Bx) (w : World) (h : TreeS N w t (.slice none 0 0) (.slice none 0 0) [] []) (ht : t < N) (hN : N ≤ w.heap.size) :
    Calls Tryz.prog 54 #[.pointer (some ⟨t, 0, none⟩), .slice (some ⟨g, 0, none⟩) 0 cl, bxv b] w fun e w' => e = .returned (.int .i64 0) ∧ ∃ nv' ov', TreeS N w' t nv' ov' [leafOfB b 0 []] [] ∧ Fr (fun k => k = t) w w' ∧ Newer w (.slice none 0 0) nv' ∧ Newer w (.slice none 0 0) ov' := by
  obtain ⟨iI, hI0, hI1, hI2, hI3⟩ := info_int
  obtain ⟨iN, hJ0, hJ1, hJ2, hJ3⟩ := info_node
  have hlt : t < w.heap.size := h.bT.lt
  have hne1 : (t = w.heap.size) = False := eq_false (by omega)
  have hne2 : (t = w.heap.size + 1) = False := eq_false (by omega)
  have kT := h.bT.cell
  have zT := h.bT.frz
  have HT := hid h
  have hne3 : (w.heap.size + 1 = t) = False := eq_false (by omega)
  clear h
  unfold bxv
  go_enter Tryz.func54, Tryz.ntmps54
  go_wp2_with fail
  refine Lp.settle (fun w' => Lp.Bk w' t #[.slice none 0 0, .slice none 0 0] 72 ∧ Lp.Bk w' (w.heap.size + 1) #[.float .f64 b.a0, .float .f64 b.a1, .float .f64 b.a2, .float .f64 b.a3, .float .f64 b.a4, .float .f64 b.a5, .int .i64 0, .int .i64 0, .int .i64 0, .int .i64 0] 56 ∧ Own N w' 56 10 (.slice none 0 0) ([] : List Nd).length (nds []) ∧ Own N w' 3 1 (.slice none 0 0) ([] : List Nat).length (lvs []) ∧ Fr (fun k => k = t ∨ Value.ownBlock (.slice none 0 0) = some k ∨ Value.ownBlock (.slice none 0 0) = some k) w w') ⟨((HT.out.bT.set 1 _).alo _).alo _, by have := Lp.Bk.al1 (w.setCell ⟨t, 1, none⟩ (.slice none 0 0)) (.cells #[.float .f64 b.a0, .float .f64 b.a1, .float .f64 b.a2, .float .f64 b.a3, .float .f64 b.a4, .float .f64 b.a5] 54) #[.float .f64 b.a0, .float .f64 b.a1, .float .f64 b.a2, .float .f64 b.a3, .float .f64 b.a4, .float .f64 b.a5, .int .i64 0, .int .i64 0, .int .i64 0, .int .i64 0] 56; simpa [World.setCell] using this, Own.nil _ _ _ _ _, Own.nil _ _ _ _ _, (Fr.set _ _ _).trans (Fr.of (S := fun _ => False) (((Below.refl _ _).alloc (Nat.le_refl _) _).alloc (by simp) _)) (fun _ _ h => h.elim) |>.weak (fun i e => .inl e)⟩ ?_
  clear kT zT hne1 hne2 hne3
  rintro v5 ⟨BT, BN, ON, OO, FR⟩
  apply Lw.region _ _ 7 (by kernel_rfl) (by kernel_rfl) (by kernel_rfl) (Below.refl _ _)
  apply Lw.facts
  · intro w1 hw
    exact And.intro (BT.cl hw).cell (BN.cl hw).cell
  intro HF
  iterate 7 (
    apply Lw.one ?_ rfl
    · intro w hw
      obtain ⟨k0, k1⟩ := HF.out _ hw
      go_simp
      exact rfl
    intro K hK
    go_simp
    refine hK.out _ ?_
    clear hK K)
  rotate_left
  exact []
  refine Lw.fin ?_
  intro v6 hm
  replace BT := BT.keep hm
  replace BN := BN.keep hm
  replace ON := ON.keep hm
  replace OO := OO.keep hm
  replace FR := FR.trans (Fr.of (S := fun _ => False) hm) (S := (fun k => k = t ∨ Value.ownBlock (.slice none 0 0) = some k ∨ Value.ownBlock (.slice none 0 0) = some k)) (fun _ _ h => h.elim)
  clear hm HF
  go_wp2_with fail
  refine Calls.mono (Tryz.slices_Sort_int_none _ _ _) ?_
  rintro e w7 ⟨rfl, hw⟩
  obtain rfl := hw.symm
  clear hw
  have AP : Aside (Apart2 (.slice none 0 0) (.slice none 0 0)) := aside (fun g h => by cases h)
  have NM : Aside (∀ g, (Value.slice none 0 0).ownBlock = some g → N ≤ g) := aside (fun g h => by cases h)
  have OVN : Newer w (.slice none 0 0) (.slice none 0 0) := Newer.refl _ _
  go_wp2_with fail
  generalize v6 = v7 at *
  have kT := BT.cell
  have kN := BN.cell
  have hltv : t < v7.heap.size := BT.lt
  have hltn : w.heap.size + 1 < v7.heap.size := BN.lt
  have HBT := hid BT
  have HON := hid ON
  have HOO := hid OO
  have HFR := hid FR
  clear BT BN ON OO FR
  go_region_law ((refine step_push _ rfl _ _ 48 rfl 56 iN (.agg #[.float .f64 0, .float .f64 0, .float .f64 0, .float .f64 0, .float .f64 0, .float .f64 0, .int .i64 0, .int .i64 0, .int .i64 0, .int .i64 0]) 10 80 under_nodes hJ0 hJ1 hJ2 hJ3 rfl (by decide) (.slice none 0 0) ([] : List Nd).length (flat ([] : List Nd).length (nds [])) rfl (HON.out.alo (.cells #[.float .f64 b.a0, .float .f64 b.a1, .float .f64 b.a2, .float .f64 b.a3, .float .f64 b.a4, .float .f64 b.a5, .int .i64 0, .int .i64 0, .int .i64 0, .int .i64 0] 56)).row ⟨v7.heap.size, 0, none⟩ 1 1 (dcs (leafOfB b 0 [])) rfl rfl (cells_at0 (xs := dcs (leafOfB b 0 [])) (Lp.Bk.al v7 _ _)) (dcs_one _) (max_small (by decide)) (by decide) ?_; intro v' w9 hown hg hb; have hg : (v7.alloc (.cells #[.float .f64 b.a0, .float .f64 b.a1, .float .f64 b.a2, .float .f64 b.a3, .float .f64 b.a4, .float .f64 b.a5, .int .i64 0, .int .i64 0, .int .i64 0, .int .i64 0] 56)).grownBy w9 (Value.ownBlock (.slice none 0 0)) := grown_drew hg; have hb : Newer (v7.alloc (.cells #[.float .f64 b.a0, .float .f64 b.a1, .float .f64 b.a2, .float .f64 b.a3, .float .f64 b.a4, .float .f64 b.a5, .int .i64 0, .int .i64 0, .int .i64 0, .int .i64 0] 56)) (.slice none 0 0) v' := hb; have HS2 := hid (lay_end (leafOfB b 0 []) (HBT.out.alo _) (HON.out.alo _) (HOO.out.alo _) (HFR.out.trans (Fr.of (S := fun _ => False) ((Below.refl _ _).alloc (Nat.le_refl _) _)) (fun _ _ h => h.elim)) AP.out ht hN NM.out hown hg hb); have kT2 := HS2.out.1.cell; have zT2 := HS2.out.1.frz; obtain ⟨an2, cn2, rfl, -⟩ := owns_slice hown; clear hown hg hb kT kN))
  all_goals
    have HW2 := hid OVN
    clear OVN AP
    go_wp2_with fail
    obtain ⟨h1, h2, h3, h4', h5, h6⟩ := HS2.out
    have h5b := (h5.trans (Fr.set w9 ⟨t, 0, none⟩ (.slice an2 1 cn2)) (fun i _ e => .inl e)).weak (S := fun k => k = t) (fun i e => by rcases e with e | e | e; exact e; cases e; cases e)
    refine bodyPost_ret (v := .int .i64 0) (by simp [results, go_sem] <;> omega) rfl ⟨rfl, .slice an2 1 cn2, .slice none 0 0, ⟨h1.set 0 _, h2.setc (by exact ht) _, h3.setc (by exact ht) _, h4'⟩, h5b, h6, HW2.out⟩

end Go.Proofs.YtiblmojdjnfoaaaGreat
