/- Package bvh: what build knows in each round. Package bvh: measured: of each triangle its box, and that box's middle; numbers. Package bvh: build. -/
import Derived.Deep.LoopGhost
import Derived.WalkMore
import Derived.Test.YtiblmojdjnfoaaaGreatG19
import Derived.Test.YtiblmojdjnfoaaaGreatG16
import Derived.Test.YtiblmojdjnfoaaaGreatG10
import Derived.Test.YtiblmojdjnfoaaaGreatG7
namespace Go.Proofs.YtiblmojdjnfoaaaGreat
open Go.RowKit Fl Lm

/-- A list that waits. -/
structure Pd where
  ao : Option Addr
  cap : Nat
  l : List Nat
  a : Nat

def pd0 : Pd := ⟨none, 0, [], 0⟩
def pcl (p : Pd) : List Value := [.slice p.ao p.l.length p.cap, .int .i64 (p.a : Int)]
def pds (P : List Pd) (i : Nat) : List Value := pcl (P.getD i pd0)
theorem pds_snoc {P : List Pd} {x : Pd} {i : Nat} (h : i < P.length) : pds P i = pds (P ++ [x]) i := by
  unfold pds
  rw [List.getD_eq_getElem?_getD, List.getD_eq_getElem?_getD, List.getElem?_append_left h]
theorem pds_last (P : List Pd) (x : Pd) : pds (P ++ [x]) P.length = pcl x := by
  unfold pds
  rw [List.getD_eq_getElem?_getD, List.getElem?_append_right (Nat.le_refl _), Nat.sub_self]
  rfl
theorem pcl_one (p : Pd) : ∀ u ∈ pcl p, u.oneCell' = true := by
  intro u hu
  simp only [pcl, List.mem_cons, List.not_mem_nil, or_false] at hu
  rcases hu with rfl | rfl <;> rfl
def stk (P : List Pd) : List (List Nat) := P.reverse.map (·.l)
theorem stk_snoc (P : List Pd) (x : Pd) : stk (P ++ [x]) = x.l :: stk P := by simp [stk]
section
variable (S : Parts)
def Rts (D : List Nd) : Nat → List Pd → Prop
  | _, [] => True
  | k, p :: st => (∃ x, D[p.a]? = some x ∧ x.right = k) ∧ Rts D (k + szL S p.l) st
theorem Rts.more {D : List Nd} (x : Nd) : ∀ (st : List Pd) (k : Nat), Rts S D k st → Rts S (D ++ [x]) k st
  | [], _, _ => trivial
  | p :: st, k, h => by
    obtain ⟨⟨y, hy, hr⟩, h2⟩ := h
    exact ⟨⟨y, by rw [List.getElem?_append_left (List.getElem?_eq_some_iff.1 hy).1]; exact hy, hr⟩, Rts.more x st _ h2⟩
/-- What is told of the lists. -/
structure BuP (n : Nat) (FN : List Nd) (FO : List Nat) (D : List Nd) (O l : List Nat) (P : List Pd) : Prop where
  fin : FN = D ++ ndS S D.length O.length (l :: stk P)
  ofin : FO = O ++ orS S (l :: stk P)
  rts : Rts S D (D.length + szL S l) P.reverse
  li : ∀ i, i ∈ l → i < n
  pi : ∀ p, p ∈ P → ∀ i, i ∈ p.l → i < n
section
variable {S : Parts} {n : Nat} {FN : List Nd} {FO : List Nat} {D : List Nd} {O l : List Nat} {P : List Pd}
theorem BuP.start (n : Nat) : BuP S n (ndL S 0 0 (List.range n)) (orL S (List.range n)) [] [] (List.range n) [] := by
  refine ⟨by simp [stk, ndS], by simp [stk, orS], trivial, fun i hi => List.mem_range.1 hi, fun p hp => by cases hp⟩
theorem BuP.node (h : BuP S n FN FO D O l P) (h4 : 4 < l.length) (a2 : Option Addr) (c2 : Nat) : BuP S n FN FO (D ++ [⟨S.box l, D.length + 1, D.length + 1 + szL S (S.part l).1, 0, 0⟩]) O (S.part l).1 (P ++ [⟨a2, c2, (S.part l).2, D.length⟩]) := by
  have hp := S.perm l h4
  refine ⟨?_, ?_, ?_, fun i hi => h.li i (hp.mem_iff.1 (List.mem_append_left _ hi)), fun p hp' i hi => ?_⟩
  · rw [h.fin, ndS_node S _ _ h4, stk_snoc, List.length_append, List.append_assoc]
    rfl
  · rw [h.ofin, orS_node S h4, stk_snoc]
  · rw [List.reverse_append]
    refine ⟨⟨_, List.getElem?_concat_length, ?_⟩, ?_⟩
    · simp
    · have := Rts.more S ⟨S.box l, D.length + 1, D.length + 1 + szL S (S.part l).1, 0, 0⟩ _ _ h.rts
      rw [sz_node S h4] at this
      simp only [List.length_append, List.length_singleton]
      rw [show D.length + 1 + szL S (S.part l).1 + szL S (S.part l).2 = D.length + (szL S (S.part l).1 + szL S (S.part l).2 + 1) by omega]
      exact this
  · rcases List.mem_append.1 hp' with e | e
    · exact h.pi p e i hi
    · rcases List.mem_singleton.1 e with rfl
      exact h.li i (hp.mem_iff.1 (List.mem_append_right _ hi))
theorem BuP.leaf {p : Pd} (h : BuP S n FN FO D O l (P ++ [p])) (h4 : l.length ≤ 4) : BuP S n FN FO (D ++ [leafOf S O.length l]) (O ++ riseF l) p.l P ∧ ∃ x, (D ++ [leafOf S O.length l])[p.a]? = some x ∧ x.right = D.length + 1 := by
  have hr := Rts.more S (leafOf S O.length l) _ _ h.rts
  rw [List.reverse_append, sz_leaf S h4] at hr
  obtain ⟨h1, h2⟩ := hr
  refine ⟨⟨?_, ?_, ?_, h.pi p (List.mem_append_right _ (List.mem_singleton.2 rfl)), fun q hq => h.pi q (List.mem_append_left _ hq)⟩, h1⟩
  · rw [h.fin, ndS_leaf S _ _ h4, stk_snoc, List.length_append, List.length_append, rise_len, List.append_assoc]
    rfl
  · rw [h.ofin, orS_leaf S h4, stk_snoc, List.append_assoc]
  · rw [List.length_append]
    exact h2
theorem BuP.done (h : BuP S n FN FO D O l []) (h4 : l.length ≤ 4) : FN = D ++ [leafOf S O.length l] ∧ FO = O ++ riseF l := by
  refine ⟨?_, ?_⟩
  · rw [h.fin, ndS_leaf S _ _ h4]; rfl
  · rw [h.ofin, orS_leaf S h4]; simp [stk, orS]
theorem BuP.big (h : BuP S n FN FO D O l P) : D.length < FN.length ∧ O.length ≤ FO.length := by
  have := ndS_pos S (l := l) D.length O.length (s := l :: stk P) (List.mem_cons_self ..)
  rw [h.fin, h.ofin, List.length_append, List.length_append]
  omega
theorem BuP.wait (h : BuP S n FN FO D O l P) : P.length < FN.length - D.length := by
  have : ∀ (s : List (List Nat)) (k p : Nat), s.length ≤ (ndS S k p s).length := by
    intro s
    induction s with
    | nil => intro k p; simp
    | cons a s ih =>
      intro k p
      rw [ndS, List.length_append, nd_len, List.length_cons]
      have := ih (k + szL S a) (p + a.length)
      have := sz_pos S a
      omega
  have h1 := this (l :: stk P) D.length O.length
  have h2 : (l :: stk P).length = P.length + 1 := by simp [stk]
  rw [h.fin, List.length_append]
  omega
end
end

/-- What the memory has of the nodes: the right part of some is not told yet. -/
def Mem (D' D : List Nd) (P : List Pd) : Prop := D'.length = D.length ∧ ∀ i x, D[i]? = some x → ∃ r, D'[i]? = some { x with right := r } ∧ (r = x.right ∨ ∃ p, p ∈ P ∧ p.a = i)
theorem Mem.done {D' D : List Nd} (h : Mem D' D []) : D' = D := by
  apply List.ext_getElem? 
  intro i
  by_cases hi : i < D.length
  · obtain ⟨r, h1, h2⟩ := h.2 i D[i] (List.getElem?_eq_getElem hi)
    rcases h2 with rfl | ⟨p, hp, _⟩
    · rw [h1, List.getElem?_eq_getElem hi]
    · cases hp
  · rw [List.getElem?_eq_none (by have := h.1; omega), List.getElem?_eq_none (by omega)]
theorem Mem.leaf {D' D : List Nd} {P : List Pd} (h : Mem D' D P) (x : Nd) : Mem (D' ++ [x]) (D ++ [x]) P := by
  refine ⟨by simp [h.1], fun i y hy => ?_⟩
  by_cases hi : i < D.length
  · rw [List.getElem?_append_left hi] at hy
    obtain ⟨r, h1, h2⟩ := h.2 i y hy
    exact ⟨r, by rw [List.getElem?_append_left (by rw [h.1]; exact hi)]; exact h1, h2⟩
  · rw [List.getElem?_append_right (by omega)] at hy
    refine ⟨y.right, ?_, .inl rfl⟩
    rw [List.getElem?_append_right (by rw [h.1]; omega), h.1]
    exact hy
theorem Mem.node {D' D : List Nd} {P : List Pd} (h : Mem D' D P) (x : Nd) (p : Pd) (hp : p.a = D.length) : Mem (D' ++ [{ x with right := 0 }]) (D ++ [x]) (P ++ [p]) := by
  refine ⟨by simp [h.1], fun i y hy => ?_⟩
  by_cases hi : i < D.length
  · rw [List.getElem?_append_left hi] at hy
    obtain ⟨r, h1, h2⟩ := h.2 i y hy
    exact ⟨r, by rw [List.getElem?_append_left (by rw [h.1]; exact hi)]; exact h1, h2.imp id fun ⟨q, hq, e⟩ => ⟨q, List.mem_append_left _ hq, e⟩⟩
  · rw [List.getElem?_append_right (by omega)] at hy
    have hi2 : i = D.length := by
      have := (List.getElem?_eq_some_iff.1 hy).1
      simp at this
      omega
    subst hi2
    rw [Nat.sub_self] at hy
    injection hy with hy
    subst hy
    refine ⟨0, ?_, .inr ⟨p, List.mem_append_right _ (List.mem_singleton.2 rfl), hp⟩⟩
    rw [← h.1, List.getElem?_concat_length]
theorem Mem.pop {D' D : List Nd} {P : List Pd} {p : Pd} (h : Mem D' D (P ++ [p])) {x y : Nd} (hx : D[p.a]? = some x) (hy : D'[p.a]? = some y) : Mem (D'.set p.a { y with right := x.right }) D P := by
  refine ⟨by simp [h.1], fun i z hz => ?_⟩
  by_cases e : p.a = i
  · subst e
    rw [hx] at hz
    injection hz with hz
    subst hz
    obtain ⟨r, h1, _⟩ := h.2 _ _ hx
    rw [hy] at h1
    injection h1 with h1
    subst h1
    refine ⟨x.right, ?_, .inl rfl⟩
    rw [List.getElem?_set_self (List.getElem?_eq_some_iff.1 hy).1]
  · obtain ⟨r, h1, h2⟩ := h.2 i z hz
    refine ⟨r, by rw [List.getElem?_set_ne e]; exact h1, h2.imp id ?_⟩
    rintro ⟨q, hq, hqa⟩
    rcases List.mem_append.1 hq with hq | hq
    · exact ⟨q, hq, hqa⟩
    · rcases List.mem_singleton.1 hq with rfl
      exact absurd hqa e

/-- A store into an element of a row of the call's own. -/
theorem Own.put {N : Nat} {w : World} {ty : TypeId} {k n cap g i j : Nat} {e e' : Nat → List Value} {u : Value} (h : Own N w ty k (.slice (some ⟨g, 0, none⟩) n cap) n e) (he : ∀ i, i < n → (e i).length = k) (hi : i < n) (hj : j < k) (h1 : e' i = (e i).set j u) (h2 : ∀ i', i' < n → i' ≠ i → e' i' = e i') :
    Own N (w.setCell ⟨g, i * k + j, none⟩ u) ty k (.slice (some ⟨g, 0, none⟩) n cap) n e' := by
  refine ⟨?_, h.lo⟩
  have he' : ∀ i', i' < n → (e' i').length = k := fun i' hi' => by
    by_cases e0 : i' = i
    · subst e0; rw [h1, List.length_set]; exact he _ hi
    · rw [h2 i' hi' e0]; exact he i' hi'
  obtain ⟨h3, h4⟩ := h.row
  rcases h4 with ⟨h4, _⟩ | ⟨g', cap', cur, hv, hg, hh, hc1, hc2, hc3, hc4⟩
  · cases h4
  · injection hv with e1 e2 e3
    injection e1 with e1
    injection e1 with e1
    subst e1
    subst e3
    have hb : Lp.Bk w g cur ty := hh
    refine ⟨by rw [flat_len he'], .inr ⟨g, cap, cur.setIfInBounds (i * k + j) u, rfl, hg, hb.set _ _, hc1, hc2, by simp [hc3], ?_⟩⟩
    have hik : i * k + j < n * k := by
      have : (i + 1) * k ≤ n * k := Nat.mul_le_mul_right k hi
      rw [Nat.succ_mul] at this
      omega
    apply List.ext_getElem?
    intro q
    by_cases hq : q < n * k
    · have hk : 0 < k := by omega
      have hq1 : q / k < n := (Nat.div_lt_iff_lt_mul hk).2 hq
      have hq2 : q % k < k := Nat.mod_lt _ hk
      have hqe : q = q / k * k + q % k := by have := Nat.div_add_mod q k; rw [Nat.mul_comm] at this; omega
      have hold : cur.toList[q]? = (e (q / k))[q % k]? := by
        have := congrArg (fun z : List Value => z[q]?) hc4
        simp only [List.getElem?_take_of_lt hq] at this
        rw [this]
        conv => lhs; rw [hqe]
        exact flat_at he hq1 hq2
      have hnew : (flat n e')[q]? = (e' (q / k))[q % k]? := by
        conv => lhs; rw [hqe]
        exact flat_at he' hq1 hq2
      rw [List.getElem?_take_of_lt hq, hnew, Array.getElem?_toList]
      by_cases e0 : q / k = i
      · rw [e0, h1]
        by_cases e3 : q % k = j
        · have : i * k + j = q := by rw [hqe, e0, e3]
          rw [this, e3, Array.getElem?_setIfInBounds_self_of_lt (by rw [hc3]; have : n * k ≤ cap * k := Nat.mul_le_mul_right k hc1; omega), List.getElem?_set_self (by rw [he i hi]; exact hj)]
        · have : i * k + j ≠ q := fun e4 => e3 (by rw [hqe, e0] at e4; omega)
          rw [Array.getElem?_setIfInBounds_ne this, List.getElem?_set_ne (fun e4 => e3 e4.symm), ← Array.getElem?_toList, hold, e0]
      · have : i * k + j ≠ q := fun e4 => e0 (by rw [← e4]; exact Nat.div_eq_of_lt_le (by omega) (by rw [Nat.succ_mul]; omega))
        rw [Array.getElem?_setIfInBounds_ne this, h2 _ hq1 e0, ← Array.getElem?_toList, hold]
    · rw [List.getElem?_take_eq_none (by omega), List.getElem?_eq_none (by rw [flat_len he']; omega)]
theorem nds_len (D : List Nd) (i : Nat) : (nds D i).length = 10 := rfl
theorem nds_set {D : List Nd} {i i' : Nat} {y : Nd} (hi : i' ≠ i) : nds (D.set i y) i' = nds D i' := by
  unfold nds
  rw [List.getD_eq_getElem?_getD, List.getD_eq_getElem?_getD, List.getElem?_set_ne (Ne.symm hi)]
theorem nds_self {D : List Nd} {i : Nat} {y : Nd} (hi : i < D.length) : nds (D.set i y) i = dcs y := by
  unfold nds
  rw [List.getD_eq_getElem?_getD, List.getElem?_set_self hi]
  rfl
theorem nds_of {D : List Nd} {i : Nat} {y : Nd} (h : D[i]? = some y) : nds D i = dcs y := by
  unfold nds
  rw [List.getD_eq_getElem?_getD, h]
  rfl

/-- A list's memory, apart from all that build changes. -/
def LstOk (w : World) (t : Nat) (nv ov wv : Value) (ao : Option Addr) (l : List Nat) : Prop :=
  ∃ g off, ao = some ⟨g, off, none⟩ ∧ Els w g off l.length 1 (lvs l) ∧ g ≠ t ∧ nv.ownBlock ≠ some g ∧ ov.ownBlock ≠ some g ∧ wv.ownBlock ≠ some g
theorem LstOk.sl {w : World} {t : Nat} {nv ov wv : Value} {ao : Option Addr} {l : List Nat} (h : LstOk w t nv ov wv ao l) : Sl w ao l.length 1 (lvs l) := by
  obtain ⟨g, off, e, h, _⟩ := h
  exact .inr ⟨g, off, e, h⟩
theorem newer_ne {w : World} {v v' : Value} {g : Nat} (h : Newer w v v') (hg : g < w.heap.size) (hn : v.ownBlock ≠ some g) : v'.ownBlock ≠ some g := by
  rcases h with h | h
  · rw [h]; exact hn
  · intro e
    have := h g e
    omega
theorem LstOk.step {S : Nat → Prop} {w w' : World} {t : Nat} {nv ov wv nv' ov' wv' : Value} {ao : Option Addr} {l : List Nat} (h : LstOk w t nv ov wv ao l) (hf : Fr S w w') (hS : ∀ k, S k → k = t ∨ nv.ownBlock = some k ∨ ov.ownBlock = some k ∨ wv.ownBlock = some k)
    (hn : Newer w nv nv') (ho : Newer w ov ov') (hw : Newer w wv wv') : LstOk w' t nv' ov' wv' ao l := by
  obtain ⟨g, off, e, h1, h2, h3, h4, h5⟩ := h
  exact ⟨g, off, e, hf.els h1 fun hs => by rcases hS g hs with e | e | e | e; exact h2 e; exact h3 e; exact h4 e; exact h5 e, h2, newer_ne hn h1.lt h3, newer_ne ho h1.lt h4, newer_ne hw h1.lt h5⟩
/-- What build's memory is. -/
structure BuC (t : Nat) (w1 wr : World) (P : List Pd) (nv ov wv : Value) (D : List Nd) (O : List Nat) : Prop where
  ts : TreeS w1.heap.size wr t nv ov D O
  wa : Own w1.heap.size wr 107 2 wv P.length (pds P)
  an : Apart2 nv wv
  ao : Apart2 ov wv
  fr : Fr (fun k => k = t) w1 wr
  ps : ∀ p, p ∈ P → LstOk wr t nv ov wv p.ao p.l
section
variable {t : Nat} {w1 wr w' : World} {P : List Pd} {nv ov wv nv' ov' : Value} {D D2 : List Nd} {O O2 : List Nat}
theorem BuC.keep (h : BuC t w1 wr P nv ov wv D O) (hb : Below wr.heap.size wr w') : BuC t w1 w' P nv ov wv D O :=
  ⟨h.ts.keep hb, h.wa.keep hb, h.an, h.ao, h.fr.trans (Fr.of (S := fun _ => False) hb) (fun _ _ h => h.elim), fun p hp => (h.ps p hp).step (Fr.of (S := fun _ => False) hb) (fun _ h => h.elim) (Newer.refl _ _) (Newer.refl _ _) (Newer.refl _ _)⟩
theorem apart_newer {N : Nat} {w : World} {ty : TypeId} {k n : Nat} {e : Nat → List Value} {v v' u : Value} (h : Apart2 v u) (hn : Newer w v v') (hu : Own N w ty k u n e) : Apart2 v' u := fun g hg hug => by
  rcases hn with hn | hn
  · exact h g (hn ▸ hg) hug
  · have := hn g hg
    have := hu.lt g hug
    omega
theorem BuC.lay (h : BuC t w1 wr P nv ov wv D O) (ht : t < w1.heap.size) (ts : TreeS w1.heap.size w' t nv' ov' D2 O2) (hf : Fr (fun k => k = t ∨ nv.ownBlock = some k ∨ ov.ownBlock = some k) wr w') (hn : Newer wr nv nv') (ho : Newer wr ov ov') : BuC t w1 w' P nv' ov' wv D2 O2 := by
  refine ⟨ts, hf.own h.wa (fun g hg e => ?_), apart_newer h.an hn h.wa, apart_newer h.ao ho h.wa, h.fr.trans hf (fun i hi e => ?_), fun p hp => (h.ps p hp).step hf (fun k e => ?_) hn ho (Newer.refl _ _)⟩
  · rcases e with e | e | e
    · have := h.wa.lo g hg
      omega
    · exact h.an g e hg
    · exact h.ao g e hg
  · rcases e with e | e | e
    · exact e
    · have := h.ts.on.lo i e
      omega
    · have := h.ts.oo.lo i e
      omega
  · rcases e with e | e | e
    · exact .inl e
    · exact .inr (.inl e)
    · exact .inr (.inr (.inl e))
/-- A store into a node. -/
theorem BuC.put {gN cN i j : Nat} {u : Value} {y : Nd} (h : BuC t w1 wr P (.slice (some ⟨gN, 0, none⟩) D.length cN) ov wv D O) (ht : t < w1.heap.size) (hi : i < D.length) (hj : j < 10) (hy : dcs y = (nds D i).set j u) : BuC t w1 (wr.setCell ⟨gN, i * 10 + j, none⟩ u) P (.slice (some ⟨gN, 0, none⟩) D.length cN) ov wv (D.set i y) O := by
  have hf := Fr.set wr ⟨gN, i * 10 + j, none⟩ u
  have hlo := h.ts.on.lo gN rfl
  have hN := h.ts.on.put (e' := nds (D.set i y)) (fun _ _ => rfl) hi hj ((nds_self hi).trans hy) (fun i' _ hne => nds_set hne)
  refine ⟨⟨hf.bk h.ts.bT (by show ¬ t = gN; omega), by rw [List.length_set]; exact hN, hf.own h.ts.oo (fun g hg e => h.ts.ap gN rfl (by rw [hg]; exact congrArg some e)), h.ts.ap⟩, hf.own h.wa (fun g hg e => h.an gN rfl (by rw [hg]; exact congrArg some e)), h.an, h.ao, h.fr.trans hf (fun k hk e => ?_), fun p hp => (h.ps p hp).step hf (fun k e => .inr (.inl (congrArg some e.symm))) (Newer.refl _ _) (Newer.refl _ _) (Newer.refl _ _)⟩
  have e2 : k = gN := e
  omega
/-- A list waits. -/
theorem BuC.push {wv' : Value} {p : Pd} (h : BuC t w1 wr P nv ov wv D O) (hN : w1.heap.size ≤ wr.heap.size) (ht : t < w1.heap.size) (h1 : w'.ownsRow 0 107 2 wv' (P.length + 1) (flat P.length (pds P) ++ pcl p)) (hg : wr.grownBy w' wv.ownBlock) (hb : Newer wr wv wv') (hp : LstOk wr t nv ov wv p.ao p.l) : BuC t w1 w' (P ++ [p]) nv ov wv' D O := by
  have hf := Fr.grown hg
  have hw := h.wa.push (e' := pds (P ++ [p])) h1 hb hN (fun i hi => pds_snoc hi) (pds_last P p)
  rw [show P.length + 1 = (P ++ [p]).length by simp] at hw
  refine ⟨⟨grown_keep hg h.ts.bT (fun e => by have := h.wa.lo t e; omega), hf.own h.ts.on (fun g hg e => h.an g hg e), hf.own h.ts.oo (fun g hg e => h.ao g hg e), h.ts.ap⟩, hw, (apart_newer h.an.symm hb h.ts.on).symm, (apart_newer h.ao.symm hb h.ts.oo).symm, h.fr.trans hf (fun k hk e => ?_), fun q hq => ?_⟩
  · have := h.wa.lo k e
    omega
  · have key : LstOk wr t nv ov wv q.ao q.l := by
      rcases List.mem_append.1 hq with hq | hq
      · exact h.ps q hq
      · rcases List.mem_singleton.1 hq with rfl
        exact hp
    exact key.step hf (fun k e => .inr (.inr (.inr e))) (Newer.refl _ _) (Newer.refl _ _) hb
theorem BuC.cut {aw : Option Addr} {cw : Nat} {p : Pd} (h : BuC t w1 wr (P ++ [p]) nv ov (.slice aw (P.length + 1) cw) D O) : BuC t w1 wr P nv ov (.slice aw P.length cw) D O := by
  have hb : (Value.slice aw P.length cw).ownBlock = (Value.slice aw (P.length + 1) cw).ownBlock := by cases aw <;> rfl
  have hw := h.wa
  rw [show (P ++ [p]).length = P.length + 1 by simp] at hw
  have h2 := (hw.cut (fun _ _ => rfl) (Nat.le_succ _)).congr (e' := pds P) (fun i hi => (pds_snoc hi).symm)
  refine ⟨h.ts, h2, fun g hg e => h.an g hg (hb ▸ e), fun g hg e => h.ao g hg (hb ▸ e), h.fr, fun q hq => ?_⟩
  obtain ⟨g, off, e, h1, h2, h3, h4, h5⟩ := h.ps q (List.mem_append_left _ hq)
  exact ⟨g, off, e, h1, h2, h3, h4, fun e => h5 (hb ▸ e)⟩
end

end Go.Proofs.YtiblmojdjnfoaaaGreat

namespace Go.Proofs.YtiblmojdjnfoaaaGreat
open Go.RowKit Fl Lm

theorem of_c (t : Tr) (w : World) : Ret Tryz.prog 56 #[.agg #[.float .f64 t.t0, .float .f64 t.t1, .float .f64 t.t2, .float .f64 t.t3, .float .f64 t.t4, .float .f64 t.t5, .float .f64 t.t6, .float .f64 t.t7, .float .f64 t.t8]] w (fun v => v = bxv t.box) := of_any _ _ _ _ _ _ _ _ _ w
theorem mid_c {b : Bx} (h : b.Mo) (w : World) : Ret Tryz.prog 57 #[.agg #[.float .f64 b.a0, .float .f64 b.a1, .float .f64 b.a2, .float .f64 b.a3, .float .f64 b.a4, .float .f64 b.a5]] w (fun v => v = pxv b.mid) :=
  (mid_any _ _ _ _ _ _ w).mono fun v ⟨x, y, z, e, hx, hy, hz⟩ => by
    have e0 := hx.sm.symm.eq (mid_mo h.h0 h.h3).nan
    have e1 := hy.sm.symm.eq (mid_mo h.h1 h.h4).nan
    have e2 := hz.sm.symm.eq (mid_mo h.h2 h.h5).nan
    rw [e, ← e0, ← e1, ← e2]
    rfl

/-- What is known while triangles are measured. -/
structure MeaS (T : Nat → Tr) (w0 w : World) (sb sm : Value) (jb jm : Nat) : Prop where
  bR : Lp.Bk w w0.heap.size #[.slice none 0 0, .slice none 0 0] 77
  bS : Lp.Bk w (w0.heap.size + 1) #[sb, sm] 77
  ob : Own (w0.heap.size + 2) w 54 6 sb jb fun i => bcs (T i).box
  om : Own (w0.heap.size + 2) w 25 3 sm jm fun i => pcs (T i).box.mid
  ap : Apart2 sb sm
  cl : Cl w0 w
section
variable {T : Nat → Tr} {w0 w w' : World} {sb sm v' : Value} {jb jm : Nat}
theorem MeaS.keep (h : MeaS T w0 w sb sm jb jm) (hb : Below w.heap.size w w') : MeaS T w0 w' sb sm jb jm :=
  ⟨h.bR.keep hb, h.bS.keep hb, h.ob.keep hb, h.om.keep hb, h.ap, h.cl.call hb⟩
theorem MeaS.alo (h : MeaS T w0 w sb sm jb jm) (o : Obj) : MeaS T w0 (w.alloc o) sb sm jb jm := h.keep ((Below.refl _ _).alloc (Nat.le_refl _) _)
theorem MeaS.size (h : MeaS T w0 w sb sm jb jm) : w0.heap.size + 2 ≤ w.heap.size := h.bS.lt
theorem MeaS.midB (h : MeaS T w0 w sb sm jb jm) (hg : w.grownBy w' sb.ownBlock) : Lp.Bk w' (w0.heap.size + 1) #[sb, sm] 77 :=
  Bk_grown h.bS hg fun g e => by have := h.ob.lo g e; omega
theorem MeaS.midM (h : MeaS T w0 w sb sm jb jm) (hg : w.grownBy w' sm.ownBlock) : Lp.Bk w' (w0.heap.size + 1) #[sb, sm] 77 :=
  Bk_grown h.bS hg fun g e => by have := h.om.lo g e; omega
theorem MeaS.pushB (h : MeaS T w0 w sb sm jb jm) (h1 : w'.ownsRow 0 54 6 v' (jb + 1) (flat jb (fun i => bcs (T i).box) ++ bcs (T jb).box)) (hg : w.grownBy w' sb.ownBlock)
    (hb : v'.ownBlock = sb.ownBlock ∨ ∀ g, v'.ownBlock = some g → w.heap.size ≤ g) : MeaS T w0 (w'.setCell ⟨w0.heap.size + 1, 0, none⟩ v') v' sm (jb + 1) jm := by
  have hs := h.size
  have l : ∀ g, sb.ownBlock = some g → w0.heap.size + 2 ≤ g := h.ob.lo
  refine ⟨?_, (h.midB hg).set 0 v', ?_, ?_, h.ap.push h.om hb, ?_⟩
  · exact (Bk_grown h.bR hg fun g e => by have := l g e; omega).seto (by show w0.heap.size ≠ w0.heap.size + 1; omega) _
  · exact (h.ob.push h1 hb hs (fun _ _ => rfl) rfl).setc (by show w0.heap.size + 1 < _; omega) _
  · exact (h.om.other hg fun g e => fun e2 => h.ap g e2 e).setc (by show w0.heap.size + 1 < _; omega) _
  · exact (Cl_grown h.cl hg fun g e => by have := l g e; omega).setCell (by show w0.heap.size ≤ w0.heap.size + 1; omega) _
theorem MeaS.pushM (h : MeaS T w0 w sb sm jb jm) (h1 : w'.ownsRow 0 25 3 v' (jm + 1) (flat jm (fun i => pcs (T i).box.mid) ++ pcs (T jm).box.mid)) (hg : w.grownBy w' sm.ownBlock)
    (hb : v'.ownBlock = sm.ownBlock ∨ ∀ g, v'.ownBlock = some g → w.heap.size ≤ g) : MeaS T w0 (w'.setCell ⟨w0.heap.size + 1, 1, none⟩ v') sb v' jb (jm + 1) := by
  have hs := h.size
  have l : ∀ g, sm.ownBlock = some g → w0.heap.size + 2 ≤ g := h.om.lo
  refine ⟨?_, (h.midM hg).set 1 v', ?_, ?_, (h.ap.symm.push h.ob hb).symm, ?_⟩
  · exact (Bk_grown h.bR hg fun g e => by have := l g e; omega).seto (by show w0.heap.size ≠ w0.heap.size + 1; omega) _
  · exact (h.ob.other hg fun g e => fun e2 => h.ap g e e2).setc (by show w0.heap.size + 1 < _; omega) _
  · exact (h.om.push h1 hb hs (fun _ _ => rfl) rfl).setc (by show w0.heap.size + 1 < _; omega) _
  · exact (Cl_grown h.cl hg fun g e => by have := l g e; omega).setCell (by show w0.heap.size ≤ w0.heap.size + 1; omega) _
end

set_option maxRecDepth 100000 in
set_option maxHeartbeats 1000000 in
theorem measured_any (T : Nat → Tr) (hT : ∀ i, (T i).Mo) (n c : Nat) (ao : Option Addr) (w : World) (h : Sl w ao n 9 fun i => tcs (T i)) (hn : n ≤ 512) :
    Calls Tryz.prog 30 #[.slice ao n c] w fun e w' => ∃ ab cb am cm, e = .returned (.agg #[.slice ab n cb, .slice am n cm]) ∧ Shp T w' n ab am ∧ (∀ g o, ab = some ⟨g, o, none⟩ → w.heap.size ≤ g) ∧ (∀ g o, am = some ⟨g, o, none⟩ → w.heap.size ≤ g) ∧ Cl w w' := by
  obtain ⟨iB, hB0, hB1, hB2, hB3⟩ := info_box
  obtain ⟨iV, hV0, hV1, hV2, hV3⟩ := info_vec
  have HF := hid h
  have HN := aside hn
  have HTT := aside hT
  clear h hn hT
  go_enter Tryz.func30, Tryz.ntmps30
  go_wp2_with fail
  go_loopg [10] n (fun k i wr => ∃ (j : Nat) (sb sm : Value), k + j = n ∧ i = .int .i64 (j : Int) ∧ MeaS T w wr sb sm j j)
  case atStart =>
    refine ⟨0, _, _, Nat.add_zero _, rfl, Lp.Bk.alo (Lp.Bk.al _ _ _) _, Lp.Bk.al1 _ _ _ _, Own.nil _ _ _ _ _, Own.nil _ _ _ _ _, fun g h => (by cases h), ?_⟩
    exact ((Below.refl _ _).alloc (by simp <;> omega) _).alloc (by simp <;> omega) _
  case round =>
    obtain ⟨g0, hg0⟩ : ∃ g0, g0 = gk := ⟨_, rfl⟩
    subst hg0
    obtain ⟨j, sb, sm, hk, rfl, hS⟩ := hrel
    have HK := aside hk
    clear hk
    by_cases hj : j < n
    · have hd : ((j : Int) < (n : Int)) = True := eq_true (by omega)
      have hj5 : j < 512 := by have := HN.out; omega
      obtain ⟨g, o, rfl, E⟩ := (HF.out.keep hS.cl).get hj
      obtain ⟨k0, k1, k2, k3, k4, k5, k6, k7, k8⟩ := tat E hj
      obtain ⟨at0, ct0, rfl⟩ := hS.ob.slice
      obtain ⟨aa0, ca0, rfl⟩ := hS.om.slice
      have HMO := aside (HTT.out j).box
      have HOF := hid (fun w => of_c (T j) w)
      have hjl := aside hj
      clear E hj
      have HS := hid hS
      clear hS
      go_wp2_with fail
      clear k0 k1 k2 k3 k4 k5 k6 k7 k8
      refine Calls.mono (HOF.out _) ?_
      rintro e v1 ⟨v, rfl, rfl, hm⟩
      have hm1 : Below wr.heap.size wr v1 := ((Below.refl _ _).alloc (Nat.le_refl _) _).trans (Below.mono hm (by simp))
      replace HS := hid (HS.out.keep hm1)
      clear hm hm1 HOF
      unfold bxv
      have kS := HS.out.bS.cell
      have hne : (w.heap.size + 1 = v1.heap.size) = False := eq_false (by have := HS.out.bS.lt; omega)
      have hlt : w.heap.size + 1 < v1.heap.size := HS.out.bS.lt
      go_wp2_with (first
        | (at_builtin; refine wpList_push _ rfl _ _ 74 rfl 54 iB (.agg #[.float .f64 0, .float .f64 0, .float .f64 0, .float .f64 0, .float .f64 0, .float .f64 0]) 6 48 under_boxes hB0 hB1 hB2 hB3 rfl (by decide) (.slice at0 j ct0) j (flat j fun i => bcs (T i).box) rfl ((HS.out.ob.row.alloc _).alloc _) ⟨v1.heap.size + 1, 0, none⟩ 1 1 (bcs (T j).box) rfl rfl (cells_at0 (Lp.Bk.al1 _ _ _ _)) (bcs_one _) (max_small (by omega)) (by omega) ?_)
        | fail)
      intro v' w1 hown hg hb
      have hM := ((HS.out.alo _).alo _).midB hg
      have hX := grown_keep hg ((Lp.Bk.al v1 #[.float .f64 (T j).box.a0, .float .f64 (T j).box.a1, .float .f64 (T j).box.a2, .float .f64 (T j).box.a3, .float .f64 (T j).box.a4, .float .f64 (T j).box.a5] 54).alo _) (fun e => by have := HS.out.ob.lt _ e; omega)
      have HS2 := hid (((HS.out.alo _).alo _).pushB hown hg (hb.imp id fun h k hk => by have := h k hk; simp; omega))
      obtain ⟨at1, ct1, rfl⟩ := HS2.out.ob.slice
      have hX2 := hX.seto (p := ⟨w.heap.size + 1, 0, none⟩) (by show v1.heap.size ≠ w.heap.size + 1; omega) (.slice at1 (j + 1) ct1)
      clear kS hown hg hb HS
      have kS := hM.cell
      have zS := hM.frz
      go_wp2_with fail
      refine Lp.settle (fun w' => MeaS T w w' (.slice at1 (j + 1) ct1) (.slice aa0 j ca0) (j + 1) j ∧ Lp.Bk w' v1.heap.size #[.float .f64 (T j).box.a0, .float .f64 (T j).box.a1, .float .f64 (T j).box.a2, .float .f64 (T j).box.a3, .float .f64 (T j).box.a4, .float .f64 (T j).box.a5] 54) ⟨HS2.out, hX2⟩ ?_
      clear kS zS hM hX hX2 HS2 hne hlt
      rintro v2 ⟨hS2, hX⟩
      have HS2 := hid hS2
      have HMID := hid (fun w => mid_c HMO.out w)
      have HLE := aside hX.lt
      clear hS2
      apply Lw.region _ _ 5 (by kernel_rfl) (by kernel_rfl) (by kernel_rfl) (Below.refl _ _)
      apply Lw.facts
      · intro w1 hw
        exact And.intro (HS2.out.bS.cl hw).cell (hX.cl hw).cell
      intro HF2
      iterate 3 (
        apply Lw.one ?_ rfl
        · intro w hw
          obtain ⟨k0, k1⟩ := HF2.out _ hw
          go_simp
          exact rfl
        intro K hK
        go_simp
        refine hK.out _ ?_
        clear hK K)
      apply Lw.any rfl
      · intro w hw
        go_simp
        exact Lw.ret (HMID.out _)
      intro K hK
      rintro v rfl
      unfold pxv
      go_simp
      refine hK.out _ ?_
      clear hK K
      apply Lw.anyW (V := fun v w' => ∃ b, v = .slice (some ⟨b, 0, none⟩) 1 1 ∧ Lp.Bk w' b #[.float .f64 (T j).box.mid.x, .float .f64 (T j).box.mid.y, .float .f64 (T j).box.mid.z] 25) rfl
      · exact fun v x y hb ⟨b, e, h⟩ => ⟨b, e, Lp.Bk.keep h hb⟩
      · intro w hw _
        go_simp
        exact ⟨⟨_, rfl, Lp.Bk.al _ _ _⟩, (Below.refl _ _).alloc (Nat.le_refl _) _⟩
      intro K hK v hv
      obtain ⟨_, _, b0, rfl, _⟩ := hv
      go_simp
      refine hK.out _ _ ?_
      clear hK K
      rotate_left
      exact []
      refine Lw.finE ?_
      intro v3 hm hE
      obtain ⟨b1, hb1, hV1⟩ := (hE 4).2 rfl
      simp only [Value.slice.injEq, Option.some.injEq, Addr.mk.injEq, and_true] at hb1
      subst hb1
      have HS3 := hid (HS2.out.keep hm)
      clear hm hE HS2 HF2 hX
      have kS := HS3.out.bS.cell
      have hnews : ∀ i u, (pcs (T j).box.mid)[i]? = some u → v3.cell? ((⟨b0, 0, none⟩ : Addr).add i) = some u := cells_at0 (xs := pcs (T j).box.mid) hV1
      clear hV1
      have hj6 : j ≤ 1000 := by omega
      go_wp2_with (
        (at_builtin; refine wpList_push _ rfl _ _ 75 rfl 25 iV (.agg #[.float .f64 0, .float .f64 0, .float .f64 0]) 3 24 under_vecs hV0 hV1 hV2 hV3 rfl (by decide) (.slice aa0 j ca0) j (flat j fun i => pcs (T i).box.mid) rfl HS3.out.om.row ⟨b0, 0, none⟩ 1 1 (pcs (T j).box.mid) rfl rfl hnews (pcs_one _) (max_small (by omega)) (by omega) ?_))
      intro v' w2 hown hg hb
      have hM := HS3.out.midM hg
      have HS4 := hid (HS3.out.pushM hown hg hb)
      obtain ⟨aa1, ca1, rfl⟩ := HS4.out.om.slice
      clear kS hown hg hb HS3
      have kS := hM.cell
      have zS := hM.frz
      go_wp2_with fail
      go_roundg (g0 - 1)
      case measure => have := HK.out; have := hjl.out; omega
      case rel => exact ⟨j + 1, _, _, by have := HK.out; have := hjl.out; omega, by go_num, HS4.out⟩
    · have hd : ((j : Int) < (n : Int)) = False := eq_false (by omega)
      have hjn : j = n := by have := HK.out; omega
      subst hjn
      clear hj
      obtain ⟨at0, ct0, rfl⟩ := hS.ob.slice
      obtain ⟨aa0, ca0, rfl⟩ := hS.om.slice
      have kS := hS.bS.cell
      have kR := hS.bR.cell
      have zR := hS.bR.frz
      have HS := hid hS
      clear hS
      go_wp2_with fail
      have hb2 : Below wr.heap.size wr wr := Below.refl _ _
      have hS2 : Shp T ((wr.setCell ⟨w.heap.size, 0, none⟩ (.slice at0 j ct0)).setCell ⟨w.heap.size, 1, none⟩ (.slice aa0 j ca0)) j at0 aa0 :=
        ⟨((HS.out.ob.setc (p := ⟨w.heap.size, 0, none⟩) (by show w.heap.size < _; omega) _).setc (p := ⟨w.heap.size, 1, none⟩) (by show w.heap.size < _; omega) _).sl (fun _ _ => rfl), ((HS.out.om.setc (p := ⟨w.heap.size, 0, none⟩) (by show w.heap.size < _; omega) _).setc (p := ⟨w.heap.size, 1, none⟩) (by show w.heap.size < _; omega) _).sl (fun _ _ => rfl)⟩
      refine bodyPost_ret (v := .agg #[.slice at0 j ct0, .slice aa0 j ca0]) (by simp [results, go_sem, kR]) rfl ⟨at0, ct0, aa0, ca0, rfl, hS2, fun g o e => ?_, fun g o e => ?_, ?_⟩
      · subst e
        have := HS.out.ob.lo g rfl
        omega
      · subst e
        have := HS.out.om.lo g rfl
        omega
      · exact (HS.out.cl.setCell (by show w.heap.size ≤ w.heap.size; omega) _).setCell (by show w.heap.size ≤ w.heap.size; omega) _

end Go.Proofs.YtiblmojdjnfoaaaGreat

namespace Go.Proofs.YtiblmojdjnfoaaaGreat
open Go.RowKit Fl Lm

theorem info_pend : ∃ i, Tryz.prog.info? 107 = some i ∧ i.zero = some (.agg #[.slice none 0 0, .int .i64 0]) ∧ i.size = 2 ∧ i.bytes = 32 := by
  have h : (Tryz.prog.info? 107).map (fun i => (i.zero, i.size, i.bytes)) = some (some (.agg #[.slice none 0 0, .int .i64 0]), 2, 32) := by kernel_rfl
  obtain ⟨i, hi, hz⟩ := Option.map_eq_some_iff.1 h
  simp only [Prod.mk.injEq] at hz
  exact ⟨i, hi, hz⟩

theorem under_pends : Tryz.prog.underlying 102 = some (.slice 107) := by kernel_rfl

theorem Shp.fr {T : Nat → Tr} {t n : Nat} {w w' : World} {ab am : Option Addr} (h : Shp T w n ab am) (hf : Fr (fun k => k = t) w w') (h1 : ∀ g o, ab = some ⟨g, o, none⟩ → t < g) (h2 : ∀ g o, am = some ⟨g, o, none⟩ → t < g) : Shp T w' n ab am := by
  refine ⟨?_, ?_⟩
  · rcases h.bx with e | ⟨g, o, e, he⟩
    · exact .inl e
    · exact .inr ⟨g, o, e, hf.els he (by have := h1 g o e; omega)⟩
  · rcases h.md with e | ⟨g, o, e, he⟩
    · exact .inl e
    · exact .inr ⟨g, o, e, hf.els he (by have := h2 g o e; omega)⟩
theorem owns_cap {w : World} {b : Nat} {ty : TypeId} {k n : Nat} {g cap : Nat} {xs : List Value} (h : w.ownsRow b ty k (.slice (some ⟨g, 0, none⟩) n cap) n xs) : n ≤ cap := by
  rcases h.2 with ⟨h2, _⟩ | ⟨g', cap', cur, hv, _, _, hc, _⟩
  · cases h2
  · injection hv with _ _ e3
    omega
theorem Own.frz {N : Nat} {w : World} {ty : TypeId} {k n : Nat} {g cap : Nat} {e : Nat → List Value} (h : Own N w ty k (.slice (some ⟨g, 0, none⟩) n cap) n e) : ∀ i, w.frozen? ⟨g, i, none⟩ = false := by
  intro i
  rcases h.row.2 with ⟨h2, _⟩ | ⟨g', cap', cur, hv, _, hh, _⟩
  · cases h2
  · injection hv with e1
    injection e1 with e1
    injection e1 with e1
    subst e1
    exact Lp.Bk.frz (vs := cur) (t := ty) hh i
theorem wat {w : World} {g : Nat} {P : List Pd} {p : Pd} (h : Els w g 0 (P.length + 1) 2 (pds (P ++ [p]))) : w.cell? ⟨g, P.length * 2, none⟩ = some (.slice p.ao p.l.length p.cap) ∧ w.cell? ⟨g, P.length * 2 + 1, none⟩ = some (.int .i64 (p.a : Int)) := by
  have h0 := h.at0 (Nat.lt_succ_self _) (by decide)
  have h1 := h.atj (Nat.lt_succ_self _) (j := 1) (by decide)
  rw [pds_last, Nat.zero_add] at h0 h1
  exact ⟨h0, h1⟩
/-- lay of at most 4, or of none at all. -/
theorem lay_small (N t cl g off : Nat) (nv ov : Value) (D : List Nd) (O l : List Nat) (b : Bx) (w : World) (h : TreeS N w t nv ov D O) (ht : t < N) (hN : N ≤ w.heap.size) (hL : Sl w (some ⟨g, off, none⟩) l.length 1 (lvs l)) (hO : O.length ≤ 4000) (hD : D.length ≤ 4000) (h0 : 0 < l.length ∨ (l = [] ∧ off = 0 ∧ D = [] ∧ O = [] ∧ nv = .slice none 0 0 ∧ ov = .slice none 0 0)) (h4 : l.length ≤ 4) :
    Calls Tryz.prog 54 #[.pointer (some ⟨t, 0, none⟩), .slice (some ⟨g, off, none⟩) l.length cl, bxv b] w fun e w' => e = .returned (.int .i64 (D.length : Int)) ∧ ∃ nv' ov', TreeS N w' t nv' ov' (D ++ [leafOfB b O.length l]) (O ++ riseF l) ∧ Fr (fun k => k = t ∨ Value.ownBlock nv = some k ∨ Value.ownBlock ov = some k) w w' ∧ Newer w nv nv' ∧ Newer w ov ov' := by
  rcases h0 with h0 | ⟨rfl, rfl, rfl, rfl, rfl, rfl⟩
  · exact lay_leaf N t cl g off nv ov D O l b w h ht hN hL hO hD h0 h4
  · refine Calls.mono (lay_empty N t cl g b w h ht hN) ?_
    rintro e w' ⟨h1, nv', ov', h2, h3, h4, h5⟩
    exact ⟨h1, nv', ov', h2, h3.weak (fun _ e => .inl e), h4, h5⟩

set_option maxRecDepth 100000 in
set_option maxHeartbeats 1000000 in
theorem build_any (T : Nat → Tr) (hT : ∀ i, (T i).Mo) (sur : Bool) (n t cb cm : Nat) (ab am : Option Addr) (w : World) (hn : n ≤ 512) (hB : Lp.Bk w t #[.slice none 0 0, .slice none 0 0] 72) (hS : Shp T w n ab am) (hab : ∀ g o, ab = some ⟨g, o, none⟩ → t < g) (ham : ∀ g o, am = some ⟨g, o, none⟩ → t < g) :
    Calls Tryz.prog 29 #[.pointer (some ⟨t, 0, none⟩), .agg #[.slice ab n cb, .slice am n cm], .bool sur] w fun e w' => e = .returned (.tuple #[]) ∧ ∃ nv ov, TreeS (t + 1) w' t nv ov (ndL (treeT T sur) 0 0 (List.range n)) (orL (treeT T sur) (List.range n)) ∧ Fr (fun k => k = t) w w' := by
  obtain ⟨iP, hP0, hP1, hP2, hP3⟩ := info_pend
  have HB0 := hid hB
  have HSH := hid hS
  have HAB := aside hab
  have HAM := aside ham
  have HTT := aside hT
  have htw : t < w.heap.size := hB.lt
  clear hB hS hab ham hT
  go_enter Tryz.func29, Tryz.ntmps29
  go_wp2_with fail
  go_step3
  go_wp2_with fail
  refine Calls.mono (parter_any n cb cm ab am sur _) ?_
  rintro e w1 ⟨rfl, hw⟩
  have b0 : Lp.Bk w1 w.heap.size #[.slice ab n cb, .slice am n cm] 77 := by rw [hw]; exact ((Lp.Bk.al _ _ _).alo _).alo _
  have b1 : Lp.Bk w1 (w.heap.size + 1) #[.slice ab n cb, .slice am n cm] 77 := by rw [hw]; simpa using (Lp.Bk.al (w.alloc (.cells #[.slice ab n cb, .slice am n cm] 77)) _ _).alo (.cells #[.bool sur] 4)
  have b2 : Lp.Bk w1 (w.heap.size + 1 + 1) #[.bool sur] 4 := by rw [hw]; simpa using Lp.Bk.al ((w.alloc (.cells #[.slice ab n cb, .slice am n cm] 77)).alloc (.cells #[.slice ab n cb, .slice am n cm] 77)) #[.bool sur] 4
  have hb : Cl w w1 := by rw [hw]; exact (((Below.refl _ _).alloc (Nat.le_refl _) _).alloc (by simp) _).alloc (by simp <;> omega) _
  have hb1 := hb
  have e1 : (w.alloc (.cells #[.slice ab n cb, .slice am n cm] 77)).heap.size = w.heap.size + 1 := by simp
  clear hw
  have k0 := b0.cell
  go_wp2_with fail
  refine Calls.mono (numbers_any n cb cm ab am _ hn) ?_
  rintro e w2 ⟨rfl, hsl, hlt, hm⟩
  replace b0 := b0.keep hm
  replace b1 := b1.keep hm
  replace b2 := b2.keep hm
  replace hb := hb.call hm
  clear hm k0
  go_wp2_with fail
  go_step3
  go_wp2_with fail
  have hbT := HB0.out.keep hb
  have hwa : Own w2.heap.size (w2.alloc (.cells #[] 107)) 107 2 (.slice (some ⟨w2.heap.size, 0, none⟩) 0 0) ([] : List Pd).length (pds []) := ⟨⟨rfl, .inr ⟨w2.heap.size, 0, #[], rfl, Nat.zero_le _, Lp.Bk.al w2 #[] 107, Nat.le_refl _, by decide, rfl, rfl⟩⟩, fun g e => by have e2 : w2.heap.size = g := Option.some.inj e; omega⟩
  have hC0 : BuC t w2 (w2.alloc (.cells #[] 107)) [] (.slice none 0 0) (.slice none 0 0) (.slice (some ⟨w2.heap.size, 0, none⟩) 0 0) [] [] :=
    ⟨⟨hbT.alo _, Own.nil _ _ _ _ _, Own.nil _ _ _ _ _, (fun g e => by cases e)⟩, hwa, (fun g e => by cases e), (fun g e => by cases e), Fr.of ((Below.refl _ _).alloc (Nat.le_refl _) _), fun p hp => by cases hp⟩
  have hts : t < w2.heap.size := hbT.lt
  have hL0 : LstOk (w2.alloc (.cells #[] 107)) t (.slice none 0 0) (.slice none 0 0) (.slice (some ⟨w2.heap.size, 0, none⟩) 0 0) (some ⟨w1.heap.size + 1, 0, none⟩) (List.range n) := by
    refine ⟨w1.heap.size + 1, 0, rfl, Els.alo ?_ _, by have := hb1.size; omega, (fun e => by cases e), (fun e => by cases e), (fun e => by have e2 : w2.heap.size = w1.heap.size + 1 := Option.some.inj e; omega)⟩
    rcases hsl with e | ⟨g, o, e, he⟩
    · exact ⟨hlt, fun i hi => absurd hi (by omega)⟩
    · cases e; exact he
  have HS0 := hid (HSH.out.keep hb)
  have hfr0 : Fr (fun k => k = t) w w2 := Fr.of hb
  have HFR0 := aside hfr0
  have hFN : (ndL (treeT T sur) 0 0 (List.range n)).length ≤ 1100 := by
    rw [nd_len]
    have := sz_le (treeT T sur) (List.range n)
    rw [List.length_range] at this
    have : max n 1 ≤ 512 := by omega
    omega
  have hFO : (orL (treeT T sur) (List.range n)).length ≤ 512 := by
    rw [(or_perm (treeT T sur) (List.range n)).length_eq, List.length_range]; exact hn
  have hP0 := BuP.start (S := treeT T sur) n
  have HLN := aside (And.intro hFN hFO)
  clear hFN hFO hsl hlt hfr0 hbT hwa hb HSH HB0 hb1
  generalize hFNe : ndL (treeT T sur) 0 0 (List.range n) = FN at *
  generalize hFOe : orL (treeT T sur) (List.range n) = FO at *
  have HFE := aside (And.intro hFNe hFOe)
  clear hFNe hFOe
  have hrl : (List.range n).length = n := List.length_range
  go_loopg [7, 8] FN.length (fun k vl vw wr => ∃ (D' D : List Nd) (O l : List Nat) (P : List Pd) (nv ov : Value) (ao : Option Addr) (cl : Nat), k + D.length = FN.length ∧ vl = .slice ao l.length cl ∧ BuP (treeT T sur) n FN FO D O l P ∧ Mem D' D P ∧ BuC t w2 wr P nv ov vw D' O ∧ LstOk wr t nv ov vw ao l ∧ (0 < l.length ∨ (ao = some ⟨w1.heap.size + 1, 0, none⟩ ∧ l = [] ∧ D' = [] ∧ O = [] ∧ P = [] ∧ nv = .slice none 0 0 ∧ ov = .slice none 0 0)) ∧ l.length ≤ 512 ∧ ∀ p, p ∈ P → 0 < p.l.length ∧ p.l.length ≤ 512)
  case atStart =>
    refine ⟨[], [], [], List.range n, [], _, _, _, n, Nat.add_zero _, by rw [hrl], hP0, ⟨rfl, fun i x h => by cases h⟩, hC0, hL0, ?_, by omega, fun p hp => by cases hp⟩
    rcases Nat.eq_zero_or_pos n with rfl | hpos
    · exact .inr ⟨rfl, rfl, rfl, rfl, rfl, rfl, rfl⟩
    · exact .inl (by omega)
  case round =>
    clear hP0 hC0 hL0 hrl
    obtain ⟨g0, hg0⟩ : ∃ g0, g0 = gk := ⟨_, rfl⟩
    subst hg0
    obtain ⟨D', D, O, l, P, nv, ov, ao, cl, hk, rfl, hP, hM, hC, hL, hz, hl5, hq⟩ := hrel
    have HK := aside hk
    clear hk
    have hbig := hP.big
    have hwt := hP.wait
    have hDD := hM.1
    have hD4 : D'.length ≤ 4000 := by have := HLN.out; omega
    have hO4 : O.length ≤ 4000 := by have := HLN.out; omega
    have hPl : P.length ≤ 2000 := by have := HLN.out; omega
    have HSR := hid (HS0.out.fr hC.fr HAB.out HAM.out)
    have HB1 := hid (hC.fr.bk b1 (by omega))
    have HB2 := hid (hC.fr.bk b2 (by omega))
    have k0 := (hC.fr.bk b0 (by omega)).cell
    have HAR := hid (around_any T n cb cm cl ab am ao l wr HSR.out hL.sl hP.li hl5)
    have HP := hid hP
    have HM := hid hM
    have HC := hid hC
    have HL := hid hL
    have HQ := aside hq
    have HZ := aside hz
    have HX := aside (And.intro hbig (And.intro hwt hDD))
    clear hP hM hC hL hq hz hbig hwt hDD
    obtain ⟨g, off, rfl, hEl, hgt, hgn, hgo, hgw⟩ := HL.out
    clear hEl hgt hgn hgo hgw
    go_wp2_with fail
    refine Calls.mono HAR.out ?_
    rintro e w3 ⟨v, rfl, rfl, hm⟩
    replace HC := hid (HC.out.keep hm)
    replace HL := hid (HL.out.step (Fr.of (S := fun _ => False) hm) (fun _ h => h.elim) (Newer.refl _ _) (Newer.refl _ _) (Newer.refl _ _))
    clear hm HAR k0 HSR HB1 HB2
    obtain ⟨aw, cw, hwv⟩ := HC.out.wa.slice
    subst hwv
    have hN : w2.heap.size ≤ w3.heap.size := HC.out.fr.size
    go_wp2_with fail
    by_cases h4 : l.length ≤ 4
    · have hz2 : 0 < l.length ∨ (l = [] ∧ off = 0 ∧ D' = [] ∧ O = [] ∧ nv = .slice none 0 0 ∧ ov = .slice none 0 0) := by
        rcases HZ.out with h | ⟨h1, h2, h3, h4, _, h5, h6⟩
        · exact .inl h
        · injection h1 with h1
          injection h1 with _ h1
          exact .inr ⟨h2, h1, h3, h4, h5, h6⟩
      refine Calls.mono (lay_small w2.heap.size t cl g off nv ov D' O l (bxs T l) w3 HC.out.ts hts hN HL.out.sl hO4 hD4 hz2 h4) ?_
      rintro e w4 ⟨rfl, nv', ov', hTS, hFr, hnn, hno⟩
      have HC4 := hid (HC.out.lay hts hTS hFr hnn hno)
      obtain ⟨an, cn, hnv⟩ := hTS.on.slice
      subst hnv
      clear hTS hFr hnn hno HC HL HZ hz2
      have hc4 : (4 < (l.length : Int)) = False := eq_false (by omega)
      have kT := HC4.out.ts.bT.cell
      have HH4 := aside h4
      clear h4
      have hPc : P = [] ∨ ∃ P0 p, P = P0 ++ [p] := by
        rcases List.eq_nil_or_concat P with h | ⟨P0, p, h⟩
        · exact .inl h
        · exact .inr ⟨P0, p, by rw [h, List.concat_eq_append]⟩
      rcases hPc with rfl | ⟨P0, p, rfl⟩
      · go_wp2_with fail
        rw [Exit.noGoto_normal]
        obtain ⟨eN, eO⟩ := HP.out.done HH4.out
        have eD := HM.out.done
        have hts4 := HC4.out.ts
        refine bodyPost_end (v := .tuple #[]) (by simp [results, go_sem]) rfl ⟨rfl, .slice an (D' ++ [leafOfB (bxs T l) O.length l]).length cn, ov', ?_, HFR0.out.trans HC4.out.fr (fun i _ e => e)⟩
        have eN2 : FN = D' ++ [leafOfB (bxs T l) O.length l] := by rw [eD]; exact eN
        rw [HFE.out.1, HFE.out.2, eN2, eO]
        exact ⟨hts4.bT, hts4.on.weak hts, hts4.oo.weak hts, hts4.ap⟩
      · obtain ⟨hP2, x, hx, hxr⟩ := HP.out.leaf HH4.out
        have hpl : (P0 ++ [p]).length = P0.length + 1 := by simp
        have hxa : p.a < D.length + 1 := by have := (List.getElem?_eq_some_iff.1 hx).1; simpa using this
        have hDL : (D' ++ [leafOfB (bxs T l) O.length l]).length = D'.length + 1 := by simp
        have hpa : p.a < (D' ++ [leafOfB (bxs T l) O.length l]).length := by rw [hDL, HX.out.2.2]; exact hxa
        obtain ⟨gW, hgW, _, EW⟩ := owns_els HC4.out.wa.row (fun _ _ => rfl) (by rw [hpl]; omega)
        obtain ⟨gN, hgN, _, EN⟩ := owns_els HC4.out.ts.on.row (fun _ _ => rfl) (by rw [hDL]; omega)
        subst hgW hgN
        have hgne := fun e : gW = gN => HC4.out.an gN rfl (by rw [e]; rfl)
        have hcw := owns_cap HC4.out.wa.row
        rw [hpl] at hcw
        have hpn := pds_last P0 p
        have HEW := hid EW
        have HEN := hid EN
        have HP2 := hid hP2
        have HGN := aside hgne
        have zN := HC4.out.ts.on.frz
        rw [hDL] at kT
        simp only [hpl] at *
        clear EW EN hP2 hgne
        have HXA := aside (And.intro hx (And.intro hxr hpa))
        clear hx hxr hpa
        obtain ⟨y, hy⟩ : ∃ y, (D' ++ [leafOfB (bxs T l) O.length l])[p.a]? = some y := ⟨_, List.getElem?_eq_getElem HXA.out.2.2⟩
        have HY := aside hy
        clear hy
        have i1 : (0 : Int) ≤ (P0.length : Int) := by omega
        have i2 : (P0.length : Int) < (P0.length : Int) + 1 := by omega
        have i3 : (0 : Int) ≤ (p.a : Int) := by omega
        have i4 : (p.a : Int) < (D'.length : Int) + 1 := by have := HX.out.2.2; omega
        have i5 : (P0.length : Int) ≤ (cw : Int) := by omega
        have i6 : P0.length ≤ cw := by omega
        have i7 : (P0.length = cw) = False := eq_false (by omega)
        go_wp2_with fail
        apply Lw.region _ _ 11 (by kernel_rfl) (by kernel_rfl) (by kernel_rfl) (Below.refl _ _)
        apply Lw.facts
        · intro w1 hw
          exact And.intro (by have := (HC4.out.ts.bT.cl hw).cell; rw [hDL] at this; exact this) (wat (HEW.out.cl hw))
        intro HF
        iterate 11 (
          apply Lw.one ?_ rfl
          · intro w hw
            obtain ⟨q0, q1, q2⟩ := HF.out _ hw
            go_simp
            exact rfl
          intro K hK
          go_simp
          refine hK.out _ ?_
          clear hK K)
        rotate_left
        exact []
        refine Lw.fin ?_
        intro v5 hm
        have HC5 := hid (HC4.out.keep hm)
        obtain ⟨q1, q2⟩ := wat (HEW.out.keep hm)
        have q3 : v5.cell? ⟨gN, p.a * 10 + 7, none⟩ = some (.int .i64 (y.right : Nat)) := by
          have := (HEN.out.keep hm).atj (j := 7) HXA.out.2.2 (by decide)
          rw [nds_of HY.out, Nat.zero_add] at this
          exact this
        have zN := HC5.out.ts.on.frz
        have hgne : (gW = gN) = False := eq_false HGN.out
        have hgl : gN < v5.heap.size := HC5.out.ts.on.lt gN rfl
        clear hm HF HEW HEN kT HC4
        go_wp2_with fail
        go_roundg (g0 - 1)
        case measure => have := HK.out; have := HX.out.1.1; omega
        case rel =>
          obtain ⟨hx, hxr, hpa⟩ := HXA.out
          have hu : Value.int .i64 ((x.right : Nat) : Int) = .int .i64 ((D'.length : Int) + 1) := by rw [hxr, ← HX.out.2.2]; rfl
          have hC6 := HC5.out.put (i := p.a) (j := 7) (u := .int .i64 ((D'.length : Int) + 1)) (y := { y with right := x.right }) hts hpa (by decide) (by rw [nds_of HY.out, ← hu]; rfl)
          have hC7 := hC6.cut
          refine ⟨_, D ++ [leafOfB (bxs T l) O.length l], O ++ riseF l, p.l, P0, _, _, p.ao, p.cap, ?_, rfl, HP2.out, (HM.out.leaf _).pop hx HY.out, hC7, hC6.ps p (List.mem_append_right _ (List.mem_singleton.2 rfl)), .inl (HQ.out p (List.mem_append_right _ (List.mem_singleton.2 rfl))).1, (HQ.out p (List.mem_append_right _ (List.mem_singleton.2 rfl))).2, fun q hq => HQ.out q (List.mem_append_left _ hq)⟩
          have := HK.out
          have := HX.out.1.1
          simp
          omega
    · have h4' : 4 < l.length := by omega
      refine Calls.mono (lay_node w2.heap.size t cl g off nv ov D' O l (bxs T l) w3 HC.out.ts hts hN hD4 h4') ?_
      rintro e w4 ⟨rfl, nv', ov', hTS, hFr, hnn, hno⟩
      have HC4 := hid (HC.out.lay hts hTS hFr hnn hno)
      have HL4 := hid (HL.out.step hFr (fun k e => by rcases e with e | e | e; exact .inl e; exact .inr (.inl e); exact .inr (.inr (.inl e))) hnn hno (Newer.refl _ _))
      obtain ⟨an, cn, hnv⟩ := hTS.on.slice
      subst hnv
      clear hTS hFr hnn hno HC HL HZ h4
      have hc4 : (4 < (l.length : Int)) = True := eq_true (by omega)
      have hDL : (D' ++ [(⟨bxs T l, 0, 0, 0, 0⟩ : Nd)]).length = D'.length + 1 := by simp
      obtain ⟨gN, hgN, _, EN⟩ := owns_els HC4.out.ts.on.row (fun _ _ => rfl) (by rw [hDL]; omega)
      subst hgN
      have HEN := hid EN
      clear EN
      have hN4 : w2.heap.size ≤ w4.heap.size := HC4.out.fr.size
      have htw2 : ¬ w.heap.size + 1 = t := by omega
      have htw3 : ¬ w.heap.size + 1 + 1 = t := by omega
      have hlp := HP.out.li
      have HPA := hid (parter1_any T HTT.out sur n cb cm cl (w.heap.size + 1) (w.heap.size + 1 + 1) ab am (some ⟨g, off, none⟩) l w4 (HC4.out.fr.bk b1 htw2) (HC4.out.fr.bk b2 htw3) (HS0.out.fr HC4.out.fr HAB.out HAM.out) HL4.out.sl hlp h4' hl5)
      have H1 := aside (show 0 < (partT T sur l).1.length from (treeT T sur).one l h4')
      have H2 := aside (show 0 < (partT T sur l).2.length from (treeT T sur).two l h4')
      have HSM := aside (show (partT T sur l).1.length + (partT T sur l).2.length = l.length from (treeT T sur).sum h4')
      have HH4 := aside h4'
      clear h4' htw2 htw3 hlp
      go_wp2_with fail
      refine Calls.mono HPA.out ?_
      rintro e w5 ⟨v, rfl, aX, cX, aY, cY, rfl, hX, hY, hXg, hYg, hcl⟩
      clear HPA
      have HC5 := hid (HC4.out.keep hcl)
      have hLX : LstOk w5 t (.slice (some ⟨gN, 0, none⟩) (D' ++ [(⟨bxs T l, 0, 0, 0, 0⟩ : Nd)]).length cn) ov' (.slice aw P.length cw) aX (partT T sur l).1 := by
        obtain ⟨gx, ox, e, hE⟩ := hX.get H1.out
        have := hXg gx ox e
        have := HC4.out.ts.bT.lt
        exact ⟨gx, ox, e, hE, by omega, (fun e => by have := HC4.out.ts.on.lt gx e; omega), (fun e => by have := HC4.out.ts.oo.lt gx e; omega), (fun e => by have := HC4.out.wa.lt gx e; omega)⟩
      have hLY : LstOk w5 t (.slice (some ⟨gN, 0, none⟩) (D' ++ [(⟨bxs T l, 0, 0, 0, 0⟩ : Nd)]).length cn) ov' (.slice aw P.length cw) aY (partT T sur l).2 := by
        obtain ⟨gx, ox, e, hE⟩ := hY.get H2.out
        have := hYg gx ox e
        have := HC4.out.ts.bT.lt
        exact ⟨gx, ox, e, hE, by omega, (fun e => by have := HC4.out.ts.on.lt gx e; omega), (fun e => by have := HC4.out.ts.oo.lt gx e; omega), (fun e => by have := HC4.out.wa.lt gx e; omega)⟩
      have q3 : w5.cell? ⟨gN, D'.length * 10 + 6, none⟩ = some (.int .i64 0) := by
        have := (HEN.out.keep hcl).atj (i := D'.length) (j := 6) (by rw [hDL]; omega) (by decide)
        rw [nds_last, Nat.zero_add] at this
        exact this
      have zN := HC5.out.ts.on.frz
      have hgl : gN < w5.heap.size := HC5.out.ts.on.lt gN rfl
      have kT := HC5.out.ts.bT.cell
      rw [hDL] at kT
      have HLX := hid hLX
      have HLY := hid hLY
      clear hX hY hXg hYg hcl HC4 HL4 hLX hLY HEN
      have hu : dcs (⟨bxs T l, D'.length + 1, 0, 0, 0⟩ : Nd) = (nds (D' ++ [(⟨bxs T l, 0, 0, 0, 0⟩ : Nd)]) D'.length).set 6 (.int .i64 ((D'.length : Int) + 1)) := by rw [nds_last]; rfl
      have HC6 := hid (HC5.out.put (i := D'.length) (j := 6) (u := .int .i64 ((D'.length : Int) + 1)) (y := ⟨bxs T l, D'.length + 1, 0, 0, 0⟩) hts (by rw [hDL]; omega) (by decide) hu)
      clear HC5 hu
      have i1 : (0 : Int) ≤ (D'.length : Int) := by omega
      have i2 : (D'.length : Int) < (D'.length : Int) + 1 := by omega
      have hsz : (w5.setCell ⟨gN, D'.length * 10 + 6, none⟩ (.int .i64 ((D'.length : Int) + 1))).heap.size = w5.heap.size := by simp [World.setCell]
      have HY6 := hid (HLY.out.step (Fr.set w5 ⟨gN, D'.length * 10 + 6, none⟩ (.int .i64 ((D'.length : Int) + 1))) (fun k e => .inr (.inl (congrArg some e.symm))) (Newer.refl _ _) (Newer.refl _ _) (Newer.refl _ _))
      have HX6 := hid (HLX.out.step (Fr.set w5 ⟨gN, D'.length * 10 + 6, none⟩ (.int .i64 ((D'.length : Int) + 1))) (fun k e => .inr (.inl (congrArg some e.symm))) (Newer.refl _ _) (Newer.refl _ _) (Newer.refl _ _))
      have HCB := hid (hsz ▸ Lp.Bk.al (w5.setCell ⟨gN, D'.length * 10 + 6, none⟩ (.int .i64 ((D'.length : Int) + 1))) #[.slice aY (partT T sur l).2.length cY, .int .i64 (D'.length : Int)] 107)
      have HSZ := aside hsz
      have HKB := hid (((Below.refl _ _).alloc (Nat.le_refl _) (.cells #[.slice aY (partT T sur l).2.length cY, .int .i64 (D'.length : Int)] 107) : Below (w5.setCell ⟨gN, D'.length * 10 + 6, none⟩ (.int .i64 ((D'.length : Int) + 1))).heap.size (w5.setCell ⟨gN, D'.length * 10 + 6, none⟩ (.int .i64 ((D'.length : Int) + 1))) ((w5.setCell ⟨gN, D'.length * 10 + 6, none⟩ (.int .i64 ((D'.length : Int) + 1))).alloc (.cells #[.slice aY (partT T sur l).2.length cY, .int .i64 (D'.length : Int)] 107))))
      clear HLX HLY hsz
      go_wp2_with ((at_builtin; refine wpList_push _ rfl _ _ 102 rfl 107 iP (.agg #[.slice none 0 0, .int .i64 0]) 2 32 under_pends hP0 hP1 hP2 hP3 rfl (by decide) (.slice aw P.length cw) P.length (flat P.length (pds P)) rfl (HC6.out.wa.alo (.cells #[.slice aY (partT T sur l).2.length cY, .int .i64 (D'.length : Int)] 107)).row ⟨w5.heap.size, 0, none⟩ 1 1 (pcl ⟨aY, cY, (partT T sur l).2, D'.length⟩) rfl rfl (cells_at0 (xs := pcl ⟨aY, cY, (partT T sur l).2, D'.length⟩) HCB.out) (pcl_one _) (max_small (by omega)) (by omega) ?_))
      intro v' w7 hown hg hb
      have hn7 : Newer ((w5.setCell ⟨gN, D'.length * 10 + 6, none⟩ (.int .i64 ((D'.length : Int) + 1))).alloc (.cells #[.slice aY (partT T sur l).2.length cY, .int .i64 (D'.length : Int)] 107)) (.slice aw P.length cw) v' := hb.imp id fun h k e => by have := h k e; simp at this ⊢; omega
      have hlo6 : w2.heap.size ≤ ((w5.setCell ⟨gN, D'.length * 10 + 6, none⟩ (.int .i64 ((D'.length : Int) + 1))).alloc (.cells #[.slice aY (partT T sur l).2.length cY, .int .i64 (D'.length : Int)] 107)).heap.size := by have := HC6.out.fr.size; simp at this ⊢; omega
      have hY7 := HY6.out.step (Fr.of (S := fun _ => False) HKB.out) (fun _ h => h.elim) (Newer.refl _ _) (Newer.refl _ _) (Newer.refl _ _)
      have hX7 := HX6.out.step (Fr.of (S := fun _ => False) HKB.out) (fun _ h => h.elim) (Newer.refl _ _) (Newer.refl _ _) (Newer.refl _ _)
      have HC7 := hid ((HC6.out.keep HKB.out).push hlo6 hts hown hg hn7 hY7)
      have HX7 := hid (hX7.step (Fr.grown hg) (fun k e => .inr (.inr (.inr e))) (Newer.refl _ _) (Newer.refl _ _) hn7)
      clear hown hg hb hn7 hlo6 hY7 hX7 HY6 HX6 HCB HKB HSZ HC6 q3 zN hgl kT
      go_wp2_with fail
      go_roundg (g0 - 1)
      case measure => have := HK.out; have := HX.out.1.1; omega
      case rel =>
        have hPn := HP.out.node HH4.out aY cY
        rw [← HX.out.2.2] at hPn
        have hset : (D' ++ [(⟨bxs T l, 0, 0, 0, 0⟩ : Nd)]).set D'.length ⟨bxs T l, D'.length + 1, 0, 0, 0⟩ = D' ++ [⟨bxs T l, D'.length + 1, 0, 0, 0⟩] := by simp
        have hM7 := HM.out.node ⟨bxs T l, D'.length + 1, D'.length + 1 + szL (treeT T sur) (partT T sur l).1, 0, 0⟩ ⟨aY, cY, (partT T sur l).2, D'.length⟩ HX.out.2.2
        have hC7 := HC7.out
        rw [hset] at hC7
        have h1 := H1.out
        have h2 := H2.out
        have h3 := HSM.out
        refine ⟨D' ++ [⟨bxs T l, D'.length + 1, 0, 0, 0⟩], D ++ [⟨bxs T l, D'.length + 1, D'.length + 1 + szL (treeT T sur) (partT T sur l).1, 0, 0⟩], O, (partT T sur l).1, P ++ [⟨aY, cY, (partT T sur l).2, D'.length⟩], _, _, aX, cX, ?_, rfl, hPn, hM7, ?_, HX7.out, .inl h1, by omega, fun q hq => ?_⟩
        · have := HK.out
          have := HX.out.1.1
          simp
          omega
        · exact hC7
        · rcases List.mem_append.1 hq with hq | hq
          · exact HQ.out q hq
          · rcases List.mem_singleton.1 hq with rfl
            exact ⟨h2, by show (partT T sur l).2.length ≤ 512; omega⟩

end Go.Proofs.YtiblmojdjnfoaaaGreat
