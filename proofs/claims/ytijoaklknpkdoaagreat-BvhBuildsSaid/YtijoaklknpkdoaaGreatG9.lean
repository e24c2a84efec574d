/- How a list of triangles is parted: by the median, or by the cheapest bin; and that both ways to reckon the cheapest tell the same. Bins hold what they ought to; so both ways to reckon the cheapest one tell the same, and a list whose middles are apart is parted by it. The structs of floats and numbers: as cells, as values, in rows. Package box: Grow, Of. -/
import Derived.Test.YtijoaklknpkdoaaGreatG8
import Derived.Test.YtijoaklknpkdoaaGreatG7
import Derived.Test.YtijoaklknpkdoaaGreatG2
import Derived.Test.YtijoaklknpkdoaaGreatRows
namespace Go.Proofs.YtijoaklknpkdoaaGreat.Fl

/-! Numbers ordered by what they have. -/
section
variable (X : Nat → Nat)
def ltK (i j : Nat) : Bool := ltB (X i) (X j) || (eqB (X i) (X j) && decide (i < j))
def putK (x : Nat) : List Nat → List Nat
  | [] => [x]
  | y :: l => if ltK X x y then x :: y :: l else y :: putK x l
def medF (l : List Nat) : List Nat := l.foldl (fun o x => putK X x o) []
theorem putK_perm (x : Nat) : ∀ l, (putK X x l).Perm (x :: l)
  | [] => .refl _
  | y :: l => by
    unfold putK
    split
    · exact .refl _
    · exact ((putK_perm x l).cons y).trans (.swap x y l)
theorem med_fold : ∀ (l o : List Nat), (l.foldl (fun o x => putK X x o) o).Perm (o ++ l)
  | [], o => by simp
  | x :: l, o => (med_fold l (putK X x o)).trans (((putK_perm X x o).append_right l).trans List.perm_middle.symm)
theorem med_perm (l : List Nat) : (medF X l).Perm l := by
  have h := med_fold X l []
  rwa [List.nil_append] at h
theorem ltK_iff {X : Nat → Nat} (hX : ∀ i, Num (X i)) (i j : Nat) : ltK X i j = true ↔ val (X i) < val (X j) ∨ (val (X i) = val (X j) ∧ i < j) := by
  unfold ltK ltB eqB
  rw [lt_val (hX i) (hX j)]
  obtain ⟨a, b, e, h1, h2⟩ := ord_val (hX i) (hX j)
  have h3 : (ford (X i) (X j) == some .eq) = decide (val (X i) = val (X j)) := by
    rw [e]
    by_cases h : a = b
    · rw [decide_eq_true (h2.1 h), h, Int.compare_eq_eq.2 rfl]; rfl
    · rw [decide_eq_false fun k => h (h2.2 k)]
      have : compare a b ≠ .eq := fun k => h (Int.compare_eq_eq.1 k)
      generalize compare a b = o at this
      cases o <;> simp_all
  rw [h3]
  simp
theorem ltK_no {X : Nat → Nat} (hX : ∀ i, Num (X i)) (i j : Nat) : ltK X i j = false ↔ val (X j) < val (X i) ∨ (val (X i) = val (X j) ∧ j ≤ i) := by
  rw [← Bool.not_eq_true, ltK_iff hX]
  have := Rat.le_total (a := val (X i)) (b := val (X j))
  constructor
  · intro h
    by_cases a : val (X j) < val (X i)
    · exact .inl a
    · have e : val (X i) = val (X j) := by grind
      exact .inr ⟨e, by rcases Nat.lt_or_ge i j with k | k; exact absurd (.inr ⟨e, k⟩) h; exact k⟩
  · rintro (h | ⟨e, h⟩) (k | ⟨f, k⟩)
    · grind
    · grind
    · grind
    · omega
theorem putK_sorts {X : Nat → Nat} (hX : ∀ i, Num (X i)) (x : Nat) : ∀ l, l.Pairwise (fun i j => ltK X j i = false) → (putK X x l).Pairwise (fun i j => ltK X j i = false)
  | [], _ => by simp [putK]
  | y :: l, h => by
    unfold putK
    have hy := List.pairwise_cons.1 h
    split
    · rename_i hlt
      rw [ltK_iff hX] at hlt
      refine List.pairwise_cons.2 ⟨fun z hz => ?_, h⟩
      rw [ltK_no hX]
      rcases List.mem_cons.1 hz with rfl | hz
      · rcases hlt with a | ⟨a, b⟩
        · exact .inl a
        · exact .inr ⟨a.symm, by omega⟩
      · have := (ltK_no hX _ _).1 (hy.1 z hz)
        rcases hlt with a | ⟨a, b⟩ <;> rcases this with c | ⟨c, d⟩
        · exact .inl (by grind)
        · exact .inl (by grind)
        · exact .inl (by grind)
        · exact .inr ⟨by grind, by omega⟩
    · rename_i hlt
      have hlt' : ltK X x y = false := by simpa using hlt
      refine List.pairwise_cons.2 ⟨fun z hz => ?_, putK_sorts hX x l hy.2⟩
      rcases List.mem_cons.1 ((putK_perm X x l).mem_iff.1 hz) with rfl | hz
      · exact hlt'
      · exact hy.1 z hz
theorem med_sorts {X : Nat → Nat} (hX : ∀ i, Num (X i)) (l : List Nat) : (medF X l).Pairwise (fun i j => ltK X j i = false) := by
  have : ∀ (l o : List Nat), o.Pairwise (fun i j => ltK X j i = false) → (l.foldl (fun o x => putK X x o) o).Pairwise (fun i j => ltK X j i = false) := by
    intro l
    induction l with
    | nil => exact fun o h => h
    | cons x l ih => exact fun o h => ih _ (putK_sorts hX x o h)
  exact this l [] .nil
theorem sorts_one {X : Nat → Nat} (hX : ∀ i, Num (X i)) : ∀ {l m : List Nat}, l.Perm m → l.Pairwise (fun i j => ltK X j i = false) → m.Pairwise (fun i j => ltK X j i = false) → l = m
  | [], m, h, _, _ => h.nil_eq
  | x :: l, [], h, _, _ => absurd h.length_eq (by simp)
  | x :: l, y :: m, h, hl, hm => by
    have a := List.pairwise_cons.1 hl
    have b := List.pairwise_cons.1 hm
    have e : x = y := by
      rcases List.mem_cons.1 (h.mem_iff.2 (List.mem_cons_self : y ∈ y :: m)) with e | e
      · exact e.symm
      · rcases List.mem_cons.1 (h.mem_iff.1 (List.mem_cons_self : x ∈ x :: l)) with e' | e'
        · exact e'
        · have h1 := (ltK_no hX _ _).1 (a.1 y e)
          have h2 := (ltK_no hX _ _).1 (b.1 x e')
          rcases h1 with h1 | ⟨h1, h3⟩ <;> rcases h2 with h2 | ⟨h2, h4⟩
          · grind
          · grind
          · grind
          · omega
    subst e
    rw [sorts_one hX h.cons_inv a.2 b.2]
theorem med_uniq {X : Nat → Nat} (hX : ∀ i, Num (X i)) {l m : List Nat} (h : m.Perm l) (hm : m.Pairwise (fun i j => ltK X j i = false)) : m = medF X l := sorts_one hX (h.trans (med_perm X l).symm) hm (med_sorts hX l)
end

/-! Triangles. -/
structure Tr where
  t0 : Nat
  t1 : Nat
  t2 : Nat
  t3 : Nat
  t4 : Nat
  t5 : Nat
  t6 : Nat
  t7 : Nat
  t8 : Nat
structure Tr.Mo (t : Tr) : Prop where
  h0 : Fl.Mo t.t0
  h1 : Fl.Mo t.t1
  h2 : Fl.Mo t.t2
  h3 : Fl.Mo t.t3
  h4 : Fl.Mo t.t4
  h5 : Fl.Mo t.t5
  h6 : Fl.Mo t.t6
  h7 : Fl.Mo t.t7
  h8 : Fl.Mo t.t8
def Tr.mayB (t : Tr) : Bool := moB t.t0 && moB t.t1 && moB t.t2 && moB t.t3 && moB t.t4 && moB t.t5 && moB t.t6 && moB t.t7 && moB t.t8
theorem Tr.may {t : Tr} (h : t.mayB = true) : t.Mo := by
  unfold Tr.mayB at h
  simp only [Bool.and_eq_true] at h
  obtain ⟨⟨⟨⟨⟨⟨⟨⟨h0, h1⟩, h2⟩, h3⟩, h4⟩, h5⟩, h6⟩, h7⟩, h8⟩ := h
  exact ⟨mo_of h0, mo_of h1, mo_of h2, mo_of h3, mo_of h4, mo_of h5, mo_of h6, mo_of h7, mo_of h8⟩
def ptB (x y z : Nat) : Bx := ⟨x, y, z, x, y, z⟩
def Tr.box (t : Tr) : Bx := Bx.all [ptB t.t0 t.t1 t.t2, ptB t.t3 t.t4 t.t5, ptB t.t6 t.t7 t.t8]
theorem pt_mo {x y z : Nat} (hx : Mo x) (hy : Mo y) (hz : Mo z) : (ptB x y z).Mo := ⟨hx, hy, hz, hx, hy, hz⟩
theorem Tr.Mo.box {t : Tr} (h : t.Mo) : (Tr.box t).Mo := by
  have hs : ∀ c, c ∈ [ptB t.t0 t.t1 t.t2, ptB t.t3 t.t4 t.t5, ptB t.t6 t.t7 t.t8] → c.Mo := by
    intro c hc
    simp only [List.mem_cons, List.not_mem_nil, or_false] at hc
    rcases hc with rfl | rfl | rfl
    · exact pt_mo h.h0 h.h1 h.h2
    · exact pt_mo h.h3 h.h4 h.h5
    · exact pt_mo h.h6 h.h7 h.h8
  exact (BoxP.all fun c hc => (hs c hc).ok).mo hs (List.mem_cons_self)
def Bx.mid (b : Bx) : V3 := ⟨fmul (fadd b.a0 b.a3) half, fmul (fadd b.a1 b.a4) half, fmul (fadd b.a2 b.a5) half⟩
def partV (p : V3) (k : Int) : Nat := partF p.x p.y p.z k
theorem mid_part {b : Bx} (h : b.Mo) (k : Int) : Mo (partV b.mid k) := by
  unfold partV partF Bx.mid
  split
  · exact mid_mo h.h0 h.h3
  · split
    · exact mid_mo h.h1 h.h4
    · exact mid_mo h.h2 h.h5
def Bx.midpt (b : Bx) : Bx := ptB b.mid.x b.mid.y b.mid.z
theorem midpt_mo {b : Bx} (h : b.Mo) : b.midpt.Mo := pt_mo (mid_part h 0) (mid_part h 1) (mid_part h 2)
def Bx.axis (b : Bx) : Nat := bestF (fsub b.a3 b.a0) (fsub b.a4 b.a1) (fsub b.a5 b.a2) 3
def Bx.loP (b : Bx) (k : Int) : Nat := partF b.a0 b.a1 b.a2 k
def Bx.hiP (b : Bx) (k : Int) : Nat := partF b.a3 b.a4 b.a5 k

section
variable (T : Nat → Tr)
def bxs (s : List Nat) : Bx := Bx.all (s.map fun i => (T i).box)
def mds (s : List Nat) : Bx := Bx.all (s.map fun i => (T i).box.midpt)
def keyT (k : Nat) (i : Nat) : Nat := partV (T i).box.mid k
/-- The list's axis, and the least and the greatest part of a middle on it. -/
def axT (s : List Nat) : Nat := (mds T s).axis
def loT (s : List Nat) : Nat := (mds T s).loP (axT T s)
def hiT (s : List Nat) : Nat := (mds T s).hiP (axT T s)
def binT (s : List Nat) (i : Nat) : Int := binF (loT T s) (hiT T s) (keyT T (axT T s) i)
def medT (s : List Nat) : List Nat := medF (keyT T (axT T s)) s
def leftT (s : List Nat) (k : Nat) : List Nat := s.filter fun i => decide (binT T s i < k)
def restT (s : List Nat) (k : Nat) : List Nat := s.filter fun i => !decide (binT T s i < k)
def gather (l : List (Nat × Bx)) : Nat × Bx := l.foldl (fun a b => (a.1 + b.1, a.2.join b.2)) (0, Bx.none)
def updB (f : Nat → Nat × Bx) (k : Nat) (v : Nat × Bx) (j : Nat) : Nat × Bx := if j = k then v else f j
def stepB (s : List Nat) (f : Nat → Nat × Bx) (i : Nat) : Nat → Nat × Bx := updB f (binT T s i).toNat (gather [f (binT T s i).toNat, (1, (T i).box)])
def binsT (s : List Nat) : Nat → Nat × Bx := s.foldl (stepB T s) (fun _ => gather [])
def sumC (a b : Nat × Bx) : Nat := fadd (costF a.2 a.1) (costF b.2 b.1)
def costP (s : List Nat) (k : Nat) : Nat := sumC (gather ((List.range k).map (binsT T s))) (gather ((List.range (8 - k)).map fun j => binsT T s (k + j)))
def costR (s : List Nat) (k : Nat) : Nat := sumC ((leftT T s k).length, bxs T (leftT T s k)) ((restT T s k).length, bxs T (restT T s k))
def cutT (s : List Nat) : Nat := (bestP (costP T s) 7).1
def partT (sur : Bool) (s : List Nat) : List Nat × List Nat :=
  if sur = true ∧ (ford (hiT T s) (loT T s) == some .gt) = true ∧ 0 < (leftT T s (cutT T s)).length ∧ 0 < (restT T s (cutT T s)).length then (leftT T s (cutT T s), restT T s (cutT T s))
  else ((medT T s).take ((medT T s).length / 2), (medT T s).drop ((medT T s).length / 2))
def treeT (sur : Bool) : Parts where
  part := partT T sur
  box := bxs T
  perm l h := by
    unfold partT
    split
    · exact List.filter_append_perm _ _
    · rw [List.take_append_drop]
      exact med_perm _ l
  one l h := by
    unfold partT
    split
    · rename_i h2; exact h2.2.2.1
    · have := (med_perm (keyT T (axT T l)) l).length_eq
      show 0 < (List.take _ _).length
      unfold medT
      rw [List.length_take, this]
      omega
  two l h := by
    unfold partT
    split
    · rename_i h2; exact h2.2.2.2
    · have := (med_perm (keyT T (axT T l)) l).length_eq
      show 0 < (List.drop _ _).length
      unfold medT
      rw [List.length_drop, this]
      omega
end
section
variable {T : Nat → Tr}
theorem key_mo (hT : ∀ i, (T i).Mo) (k i : Nat) : Mo (keyT T k i) := mid_part (hT i).box k
theorem bxs_P (hT : ∀ i, (T i).Mo) (s : List Nat) : BoxP (fun c => ∃ i, i ∈ s ∧ c = (T i).box) (bxs T s) :=
  (BoxP.all fun c hc => by obtain ⟨i, _, rfl⟩ := List.mem_map.1 hc; exact (hT i).box.ok).iff fun c => by rw [List.mem_map]; exact ⟨fun ⟨i, h, e⟩ => ⟨i, h, e.symm⟩, fun ⟨i, h, e⟩ => ⟨i, h, e.symm⟩⟩
theorem bxs_mo (hT : ∀ i, (T i).Mo) {s : List Nat} (h : 0 < s.length) : (bxs T s).Mo := by
  obtain ⟨i, hi⟩ := List.exists_mem_of_length_pos h
  exact (bxs_P hT s).mo (fun c ⟨i, _, e⟩ => e ▸ (hT i).box) ⟨i, hi, rfl⟩
theorem mds_P (hT : ∀ i, (T i).Mo) (s : List Nat) : BoxP (fun c => ∃ i, i ∈ s ∧ c = (T i).box.midpt) (mds T s) :=
  (BoxP.all fun c hc => by obtain ⟨i, _, rfl⟩ := List.mem_map.1 hc; exact (midpt_mo (hT i).box).ok).iff fun c => by rw [List.mem_map]; exact ⟨fun ⟨i, h, e⟩ => ⟨i, h, e.symm⟩, fun ⟨i, h, e⟩ => ⟨i, h, e.symm⟩⟩
theorem lo_P (hT : ∀ i, (T i).Mo) (s : List Nat) (k : Nat) : LowP (fun y => ∃ i, i ∈ s ∧ y = keyT T k i) ((mds T s).loP k) := by
  obtain ⟨h0, h1, h2, h3, h4, h5⟩ := mds_P hT s
  unfold Bx.loP keyT partV partF
  split
  · exact h0.iff fun y => ⟨fun ⟨_, ⟨i, hi, rfl⟩, e⟩ => ⟨i, hi, e⟩, fun ⟨i, hi, e⟩ => ⟨_, ⟨i, hi, rfl⟩, e⟩⟩
  · split
    · exact h1.iff fun y => ⟨fun ⟨_, ⟨i, hi, rfl⟩, e⟩ => ⟨i, hi, e⟩, fun ⟨i, hi, e⟩ => ⟨_, ⟨i, hi, rfl⟩, e⟩⟩
    · exact h2.iff fun y => ⟨fun ⟨_, ⟨i, hi, rfl⟩, e⟩ => ⟨i, hi, e⟩, fun ⟨i, hi, e⟩ => ⟨_, ⟨i, hi, rfl⟩, e⟩⟩
theorem hi_P (hT : ∀ i, (T i).Mo) (s : List Nat) (k : Nat) : HighP (fun y => ∃ i, i ∈ s ∧ y = keyT T k i) ((mds T s).hiP k) := by
  obtain ⟨h0, h1, h2, h3, h4, h5⟩ := mds_P hT s
  unfold Bx.hiP keyT partV partF
  split
  · exact h3.iff fun y => ⟨fun ⟨_, ⟨i, hi, rfl⟩, e⟩ => ⟨i, hi, e⟩, fun ⟨i, hi, e⟩ => ⟨_, ⟨i, hi, rfl⟩, e⟩⟩
  · split
    · exact h4.iff fun y => ⟨fun ⟨_, ⟨i, hi, rfl⟩, e⟩ => ⟨i, hi, e⟩, fun ⟨i, hi, e⟩ => ⟨_, ⟨i, hi, rfl⟩, e⟩⟩
    · exact h5.iff fun y => ⟨fun ⟨_, ⟨i, hi, rfl⟩, e⟩ => ⟨i, hi, e⟩, fun ⟨i, hi, e⟩ => ⟨_, ⟨i, hi, rfl⟩, e⟩⟩
/-- What is known of a list whose middles are apart. -/
theorem apart_of (hT : ∀ i, (T i).Mo) {s : List Nat} (h0 : 0 < s.length) (h : (ford (hiT T s) (loT T s) == some .gt) = true) :
    (∀ i, i ∈ s → Bin (loT T s) (hiT T s) (keyT T (axT T s) i)) ∧ (∃ i, i ∈ s ∧ binT T s i = 0) ∧ (∃ i, i ∈ s ∧ binT T s i = 7) := by
  obtain ⟨j, hj⟩ := List.exists_mem_of_length_pos h0
  have hl : LowP (fun y => ∃ i, i ∈ s ∧ y = keyT T (axT T s) i) (loT T s) := lo_P hT s (axT T s)
  have hh : HighP (fun y => ∃ i, i ∈ s ∧ y = keyT T (axT T s) i) (hiT T s) := hi_P hT s (axT T s)
  have sm : ∀ y, (∃ i, i ∈ s ∧ y = keyT T (axT T s) i) → Mo y := fun y ⟨i, _, e⟩ => e ▸ key_mo hT _ i
  obtain ⟨ml, il, hil, el⟩ := hl.mo sm ⟨j, hj, rfl⟩
  obtain ⟨mh, ih, hih, eh⟩ := hh.mo sm ⟨j, hj, rfl⟩
  have hlt : val (loT T s) < val (hiT T s) := by
    rw [gt_val mh.num ml.num] at h
    exact of_decide_eq_true h
  have hb : ∀ i, i ∈ s → Bin (loT T s) (hiT T s) (keyT T (axT T s) i) := fun i hi => by
    have a := hl.le _ ⟨i, hi, rfl⟩
    have b := hh.ge _ ⟨i, hi, rfl⟩
    have mk := key_mo hT (axT T s) i
    rw [leB_val ml.num mk.num] at a
    rw [leB_val mk.num mh.num] at b
    exact bin_of ml mh mk (of_decide_eq_true a) (of_decide_eq_true b) hlt
  have B := hb j hj
  refine ⟨hb, ⟨il, hil, ?_⟩, ⟨ih, hih, ?_⟩⟩
  · show binF (loT T s) (hiT T s) (keyT T (axT T s) il) = 0
    rw [← el]
    exact bin_lo ml B.s2 B.s2p
  · show binF (loT T s) (hiT T s) (keyT T (axT T s) ih) = 7
    rw [← eh]
    exact bin_hi B.s2 B.s2p
theorem bin_in {lo hi x : Nat} (h : Bin lo hi x) : 0 ≤ binF lo hi x ∧ binF lo hi x ≤ 7 := by
  have := h.t0
  unfold binF
  omega
end
end Go.Proofs.YtijoaklknpkdoaaGreat.Fl

namespace Go.Proofs.YtijoaklknpkdoaaGreat.Fl

theorem gather_P (S : Nat → Bx → Prop) : ∀ (l : List (Nat × Bx)) (K : List Nat) (a : Nat × Bx) (Q : Bx → Prop), l.length = K.length → (∀ j, j < l.length → BoxP (S (K.getD j 0)) (l.getD j (0, Bx.none)).2) → BoxP Q a.2 →
    (l.foldl (fun a b => (a.1 + b.1, a.2.join b.2)) a).1 = a.1 + (l.map (·.1)).sum ∧ BoxP (fun c => Q c ∨ ∃ j, j ∈ K ∧ S j c) (l.foldl (fun a b => (a.1 + b.1, a.2.join b.2)) a).2
  | [], [], a, Q, _, _, hQ => ⟨by simp, hQ.iff fun c => by simp⟩
  | [], _ :: _, _, _, h, _, _ => absurd h (by simp)
  | _ :: _, [], _, _, h, _, _ => absurd h (by simp)
  | x :: l, k :: K, a, Q, h, hS, hQ => by
    have h0 := hS 0 (by simp)
    have ih := gather_P S l K (a.1 + x.1, a.2.join x.2) (fun c => Q c ∨ S k c) (by simpa using h) (fun j hj => by have := hS (j + 1) (by simpa using hj); simpa using this) (hQ.join (by simpa using h0))
    refine ⟨?_, ?_⟩
    · rw [List.foldl_cons, ih.1]
      simp only [List.map_cons, List.sum_cons]
      omega
    · rw [List.foldl_cons]
      refine ih.2.iff fun c => ?_
      constructor
      · rintro ((hc | hc) | ⟨j, hj, hc⟩)
        · exact .inl hc
        · exact .inr ⟨k, by simp, hc⟩
        · exact .inr ⟨j, by simp [hj], hc⟩
      · rintro (hc | ⟨j, hj, hc⟩)
        · exact .inl (.inl hc)
        · rcases List.mem_cons.1 hj with e | hj
          · exact .inl (.inr (e ▸ hc))
          · exact .inr ⟨j, hj, hc⟩
theorem gather_is {S : Nat → Bx → Prop} {f : Nat → Nat × Bx} (K : List Nat) (hf : ∀ k, k ∈ K → BoxP (S k) (f k).2) :
    (gather (K.map f)).1 = (K.map fun k => (f k).1).sum ∧ BoxP (fun c => ∃ j, j ∈ K ∧ S j c) (gather (K.map f)).2 := by
  have h := gather_P S (K.map f) K (0, Bx.none) (fun _ => False) (by simp) (fun j hj => by
    rw [List.length_map] at hj
    simp only [List.getD_eq_getElem?_getD, List.getElem?_map, List.getElem?_eq_getElem hj, Option.map_some, Option.getD_some]
    exact hf _ (List.getElem_mem hj)) BoxP.none
  refine ⟨?_, h.2.iff fun c => by simp⟩
  unfold gather
  rw [h.1, List.map_map]
  simp [Function.comp_def]

section
variable {T : Nat → Tr}
/-- What a bin holds behind the list p. -/
structure BinsP (T : Nat → Tr) (s p : List Nat) (f : Nat → Nat × Bx) : Prop where
  cnt : ∀ k, (f k).1 = (p.filter fun i => (binT T s i).toNat == k).length
  box : ∀ k, BoxP (fun c => ∃ i, i ∈ p ∧ (binT T s i).toNat = k ∧ c = (T i).box) (f k).2
theorem bins_step (hT : ∀ i, (T i).Mo) {s p : List Nat} {f : Nat → Nat × Bx} (h : BinsP T s p f) (i : Nat) : BinsP T s (p ++ [i]) (stepB T s f i) := by
  refine ⟨fun k => ?_, fun k => ?_⟩
  · unfold stepB updB
    rw [List.filter_append, List.length_append, ← h.cnt k]
    by_cases e : k = (binT T s i).toNat
    · rw [if_pos e, ← e]
      simp [gather, e]
    · rw [if_neg e]
      simp [Ne.symm e]
  · unfold stepB updB
    by_cases e : k = (binT T s i).toNat
    · rw [if_pos e]
      have h1 := (BoxP.none.join (h.box (binT T s i).toNat)).join (BoxP.one (hT i).box.ok)
      refine h1.iff fun c => ?_
      constructor
      · rintro ((h | ⟨j, hj, hk, e2⟩) | h)
        · exact h.elim
        · exact ⟨j, by simp [hj], by rw [hk, e], e2⟩
        · exact ⟨i, by simp, e.symm, h⟩
      · rintro ⟨j, hj, hk, e2⟩
        rcases List.mem_append.1 hj with hj | hj
        · exact .inl (.inr ⟨j, hj, by rw [hk, e], e2⟩)
        · simp only [List.mem_singleton] at hj
          subst hj
          exact .inr e2
    · rw [if_neg e]
      refine (h.box k).iff fun c => ?_
      constructor
      · rintro ⟨j, hj, hk, e2⟩
        exact ⟨j, by simp [hj], hk, e2⟩
      · rintro ⟨j, hj, hk, e2⟩
        rcases List.mem_append.1 hj with hj | hj
        · exact ⟨j, hj, hk, e2⟩
        · simp only [List.mem_singleton] at hj
          subst hj
          exact absurd hk.symm e
theorem bins_P (hT : ∀ i, (T i).Mo) (s : List Nat) : BinsP T s s (binsT T s) := by
  have : ∀ (q p : List Nat) (f : Nat → Nat × Bx), BinsP T s p f → BinsP T s (p ++ q) (q.foldl (stepB T s) f) := by
    intro q
    induction q with
    | nil => intro p f h; simpa using h
    | cons i q ih =>
      intro p f h
      have := ih (p ++ [i]) _ (bins_step hT h i)
      simpa using this
  refine this s [] _ ⟨fun k => rfl, fun k => ?_⟩
  exact BoxP.none.iff fun c => by simp
theorem count_sum (s : List Nat) (g : Nat → Nat) : ∀ K : List Nat, K.Nodup → (K.map fun k => (s.filter fun i => g i == k).length).sum = (s.filter fun i => decide (g i ∈ K)).length
  | [], _ => by rw [List.filter_eq_nil_iff.2 (fun i _ => by simp)]; rfl
  | k :: K, h => by
    have hn := List.nodup_cons.1 h
    rw [List.map_cons, List.sum_cons, count_sum s g K hn.2]
    induction s with
    | nil => rfl
    | cons x s ih =>
      simp only [List.filter_cons, List.mem_cons]
      by_cases e : g x = k
      · have : ¬ (g x ∈ K) := by rw [e]; exact hn.1
        simp [e, hn.1] at ih ⊢
        omega
      · by_cases m : g x ∈ K
        · simp [e, m] at ih ⊢
          omega
        · simp [e, m] at ih ⊢
          omega
theorem filter_sum (s : List Nat) (p : Nat → Bool) : (s.filter p).length + (s.filter fun i => !p i).length = s.length := by
  have := (List.filter_append_perm p s).length_eq
  simpa using this

/-- The cost by bins and the cost by lists: numbers, and equal. -/
theorem costs_same (hT : ∀ i, (T i).Mo) {s : List Nat} (h0 : 0 < s.length) (h5 : s.length ≤ 512) (h : (ford (hiT T s) (loT T s) == some .gt) = true) {k : Nat} (k1 : 1 ≤ k) (k7 : k ≤ 7) :
    Num (costP T s k) ∧ Num (costR T s k) ∧ val (costP T s k) = val (costR T s k) ∧ 0 < (leftT T s k).length ∧ 0 < (restT T s k).length := by
  obtain ⟨hb, ⟨a, ha, ea⟩, ⟨b, hb', eb⟩⟩ := apart_of hT h0 h
  have B := bins_P hT s
  have rng : ∀ i, i ∈ s → (binT T s i).toNat < 8 ∧ binT T s i = ((binT T s i).toNat : Int) := fun i hi => by
    have := bin_in (hb i hi)
    unfold binT
    omega
  have ml : a ∈ leftT T s k := List.mem_filter.2 ⟨ha, by rw [ea]; exact decide_eq_true (by omega)⟩
  have mr : b ∈ restT T s k := List.mem_filter.2 ⟨hb', by rw [eb]; simp; omega⟩
  have pl := List.length_pos_of_mem ml
  have pr := List.length_pos_of_mem mr
  have hfs := filter_sum s fun i => decide (binT T s i < k)
  have hle : (leftT T s k).length ≤ 512 := by unfold leftT; omega
  have hre : (restT T s k).length ≤ 512 := by unfold restT; omega
  have G1 := gather_is (S := fun j c => ∃ i, i ∈ s ∧ (binT T s i).toNat = j ∧ c = (T i).box) (f := binsT T s) (List.range k) fun j _ => B.box j
  have G2 := gather_is (S := fun j c => ∃ i, i ∈ s ∧ (binT T s i).toNat = j ∧ c = (T i).box) (f := binsT T s) ((List.range (8 - k)).map (k + ·)) fun j _ => B.box j
  rw [List.map_map] at G2
  have c1 : (gather ((List.range k).map (binsT T s))).1 = (leftT T s k).length := by
    rw [G1.1]
    have := count_sum s (fun i => (binT T s i).toNat) (List.range k) List.nodup_range
    simp only [← B.cnt] at this
    rw [this]
    unfold leftT
    congr 1
    refine List.filter_congr fun i hi => ?_
    have := (rng i hi).2
    by_cases hh : binT T s i < (k : Int)
    · rw [decide_eq_true hh, decide_eq_true (List.mem_range.2 (by omega))]
    · rw [decide_eq_false hh, decide_eq_false (fun m => hh (by rw [List.mem_range] at m; omega))]
  have c2 : (gather ((List.range (8 - k)).map (binsT T s ∘ fun x => k + x))).1 = (restT T s k).length := by
    rw [G2.1]
    have := count_sum s (fun i => (binT T s i).toNat) ((List.range (8 - k)).map (k + ·)) (List.Pairwise.map _ (fun _ _ h e => h (Nat.add_left_cancel e)) List.nodup_range)
    simp only [← B.cnt] at this
    rw [this]
    unfold restT
    congr 1
    refine List.filter_congr fun i hi => ?_
    have := rng i hi
    by_cases hh : binT T s i < (k : Int)
    · rw [decide_eq_true hh, decide_eq_false fun m => by obtain ⟨x, _, e⟩ := List.mem_map.1 m; omega]; rfl
    · rw [decide_eq_false hh, decide_eq_true (List.mem_map.2 ⟨(binT T s i).toNat - k, List.mem_range.2 (by omega), by omega⟩)]; rfl
  have b1 : BoxP (fun c => ∃ i, i ∈ leftT T s k ∧ c = (T i).box) (gather ((List.range k).map (binsT T s))).2 := G1.2.iff fun c => by
    constructor
    · rintro ⟨j, hj, i, hi, e, hc⟩
      have := (rng i hi).2
      exact ⟨i, List.mem_filter.2 ⟨hi, decide_eq_true (by rw [List.mem_range] at hj; omega)⟩, hc⟩
    · rintro ⟨i, hi, hc⟩
      obtain ⟨hi, hlt⟩ := List.mem_filter.1 hi
      have := (rng i hi).2
      have := of_decide_eq_true hlt
      exact ⟨_, List.mem_range.2 (by omega), i, hi, rfl, hc⟩
  have b2 : BoxP (fun c => ∃ i, i ∈ restT T s k ∧ c = (T i).box) (gather ((List.range (8 - k)).map (binsT T s ∘ fun x => k + x))).2 := G2.2.iff fun c => by
    constructor
    · rintro ⟨j, hj, i, hi, e, hc⟩
      obtain ⟨x, _, rfl⟩ := List.mem_map.1 hj
      have := (rng i hi).2
      exact ⟨i, List.mem_filter.2 ⟨hi, by simp; omega⟩, hc⟩
    · rintro ⟨i, hi, hc⟩
      obtain ⟨hi, hlt⟩ := List.mem_filter.1 hi
      have := rng i hi
      have : ¬ (binT T s i < (k : Int)) := by simpa using hlt
      exact ⟨_, List.mem_map.2 ⟨(binT T s i).toNat - k, List.mem_range.2 (by omega), by omega⟩, i, hi, rfl, hc⟩
  have r1 := bxs_P hT (leftT T s k)
  have r2 := bxs_P hT (restT T s k)
  have m1 := bxs_mo hT pl
  have m2 := bxs_mo hT pr
  have n1 := b1.mo (fun c ⟨i, _, e⟩ => e ▸ (hT i).box) ⟨a, ml, rfl⟩
  have n2 := b2.mo (fun c ⟨i, _, e⟩ => e ▸ (hT i).box) ⟨b, mr, rfl⟩
  unfold costP costR sumC
  have e8 : (List.range (8 - k)).map (fun j => binsT T s (k + j)) = (List.range (8 - k)).map (binsT T s ∘ fun x => k + x) := rfl
  rw [e8, c1, c2]
  exact ⟨sum_num n1 n2 hle hre, sum_num m1 m2 hle hre, sum_same n1 n2 m1 m2 (b1.eq r1) (b2.eq r2) hle hre, pl, pr⟩
/-- A list whose middles are apart is parted by the cheapest bin, however that is reckoned. -/
theorem part_sur (hT : ∀ i, (T i).Mo) {s : List Nat} (h0 : 0 < s.length) (h5 : s.length ≤ 512) (h : (ford (hiT T s) (loT T s) == some .gt) = true) :
    partT T true s = (leftT T s (cutT T s), restT T s (cutT T s)) ∧ (bestR (costR T s) 7).1 = cutT T s ∧ 1 ≤ cutT T s ∧ cutT T s ≤ 7 := by
  have hc := fun k k1 k7 => costs_same hT h0 h5 h (k := k) k1 k7
  obtain ⟨e1, _, _, _, e2, e3⟩ := best_same (c := costP T s) (d := costR T s) (fun k a b => (hc k a b).1) (fun k a b => (hc k a b).2.1) (fun k a b => (hc k a b).2.2.1) 6 (by omega)
  have h7 := hc (cutT T s) e2 e3
  refine ⟨?_, e1.symm, e2, e3⟩
  unfold partT
  rw [if_pos ⟨rfl, h, h7.2.2.2.1, h7.2.2.2.2⟩]
theorem part_med {s : List Nat} {sur : Bool} (h : sur = false ∨ (ford (hiT T s) (loT T s) == some .gt) = false) : partT T sur s = ((medT T s).take ((medT T s).length / 2), (medT T s).drop ((medT T s).length / 2)) := by
  unfold partT
  rw [if_neg]
  rintro ⟨h1, h2, _⟩
  rcases h with h | h
  · rw [h] at h1; cases h1
  · rw [h] at h2; cases h2
end
end Go.Proofs.YtijoaklknpkdoaaGreat.Fl

namespace Go.Proofs.YtijoaklknpkdoaaGreat
open Go.RowKit Fl Lm

def bcs (b : Bx) : List Value := [.float .f64 b.a0, .float .f64 b.a1, .float .f64 b.a2, .float .f64 b.a3, .float .f64 b.a4, .float .f64 b.a5]
def bxv (b : Bx) : Value := .agg #[.float .f64 b.a0, .float .f64 b.a1, .float .f64 b.a2, .float .f64 b.a3, .float .f64 b.a4, .float .f64 b.a5]
theorem bcs_len (b : Bx) : (bcs b).length = 6 := rfl
theorem bcs_one (b : Bx) : ∀ u ∈ bcs b, u.oneCell' = true := by
  intro u hu
  simp only [bcs, List.mem_cons, List.not_mem_nil, or_false] at hu
  rcases hu with rfl | rfl | rfl | rfl | rfl | rfl <;> rfl
def tcs (t : Tr) : List Value := [.float .f64 t.t0, .float .f64 t.t1, .float .f64 t.t2, .float .f64 t.t3, .float .f64 t.t4, .float .f64 t.t5, .float .f64 t.t6, .float .f64 t.t7, .float .f64 t.t8]
def txv (t : Tr) : Value := .agg #[.float .f64 t.t0, .float .f64 t.t1, .float .f64 t.t2, .float .f64 t.t3, .float .f64 t.t4, .float .f64 t.t5, .float .f64 t.t6, .float .f64 t.t7, .float .f64 t.t8]
theorem tcs_len (t : Tr) : (tcs t).length = 9 := rfl
theorem tcs_one (t : Tr) : ∀ u ∈ tcs t, u.oneCell' = true := by
  intro u hu
  simp only [tcs, List.mem_cons, List.not_mem_nil, or_false] at hu
  rcases hu with rfl | rfl | rfl | rfl | rfl | rfl | rfl | rfl | rfl <;> rfl
def pcs (p : V3) : List Value := [.float .f64 p.x, .float .f64 p.y, .float .f64 p.z]
def pxv (p : V3) : Value := .agg #[.float .f64 p.x, .float .f64 p.y, .float .f64 p.z]
theorem pcs_len (p : V3) : (pcs p).length = 3 := rfl
theorem pcs_one (p : V3) : ∀ u ∈ pcs p, u.oneCell' = true := by
  intro u hu
  simp only [pcs, List.mem_cons, List.not_mem_nil, or_false] at hu
  rcases hu with rfl | rfl | rfl <;> rfl
def dcs (d : Nd) : List Value := [.float .f64 d.box.a0, .float .f64 d.box.a1, .float .f64 d.box.a2, .float .f64 d.box.a3, .float .f64 d.box.a4, .float .f64 d.box.a5, .int .i64 (d.left : Nat), .int .i64 (d.right : Nat), .int .i64 (d.lo : Nat), .int .i64 (d.hi : Nat)]
def dxv (d : Nd) : Value := .agg #[.float .f64 d.box.a0, .float .f64 d.box.a1, .float .f64 d.box.a2, .float .f64 d.box.a3, .float .f64 d.box.a4, .float .f64 d.box.a5, .int .i64 (d.left : Nat), .int .i64 (d.right : Nat), .int .i64 (d.lo : Nat), .int .i64 (d.hi : Nat)]
theorem dcs_len (d : Nd) : (dcs d).length = 10 := rfl
theorem dcs_one (d : Nd) : ∀ u ∈ dcs d, u.oneCell' = true := by
  intro u hu
  simp only [dcs, List.mem_cons, List.not_mem_nil, or_false] at hu
  rcases hu with rfl | rfl | rfl | rfl | rfl | rfl | rfl | rfl | rfl | rfl <;> rfl
def ncs (c : Nat × Bx) : List Value := [.int .i64 (c.1 : Nat), .float .f64 c.2.a0, .float .f64 c.2.a1, .float .f64 c.2.a2, .float .f64 c.2.a3, .float .f64 c.2.a4, .float .f64 c.2.a5]
def nxv (c : Nat × Bx) : Value := .agg #[.int .i64 (c.1 : Nat), .float .f64 c.2.a0, .float .f64 c.2.a1, .float .f64 c.2.a2, .float .f64 c.2.a3, .float .f64 c.2.a4, .float .f64 c.2.a5]
theorem ncs_len (c : Nat × Bx) : (ncs c).length = 7 := rfl
theorem ncs_one (c : Nat × Bx) : ∀ u ∈ ncs c, u.oneCell' = true := by
  intro u hu
  simp only [ncs, List.mem_cons, List.not_mem_nil, or_false] at hu
  rcases hu with rfl | rfl | rfl | rfl | rfl | rfl | rfl <;> rfl
section
variable {w : World} {g off n : Nat}
theorem bat {f : Nat → Bx} (h : Els w g off n 6 fun i => bcs (f i)) {i : Nat} (hi : i < n) : w.cell? ⟨g, off + i * 6, none⟩ = some (.float .f64 (f i).a0) ∧ w.cell? ⟨g, off + i * 6 + 1, none⟩ = some (.float .f64 (f i).a1) ∧ w.cell? ⟨g, off + i * 6 + 2, none⟩ = some (.float .f64 (f i).a2) ∧ w.cell? ⟨g, off + i * 6 + 3, none⟩ = some (.float .f64 (f i).a3) ∧ w.cell? ⟨g, off + i * 6 + 4, none⟩ = some (.float .f64 (f i).a4) ∧ w.cell? ⟨g, off + i * 6 + 5, none⟩ = some (.float .f64 (f i).a5) :=
  ⟨h.at0 hi (by omega), h.atj hi (j := 1) (by omega), h.atj hi (j := 2) (by omega), h.atj hi (j := 3) (by omega), h.atj hi (j := 4) (by omega), h.atj hi (j := 5) (by omega)⟩
theorem tat {f : Nat → Tr} (h : Els w g off n 9 fun i => tcs (f i)) {i : Nat} (hi : i < n) : w.cell? ⟨g, off + i * 9, none⟩ = some (.float .f64 (f i).t0) ∧ w.cell? ⟨g, off + i * 9 + 1, none⟩ = some (.float .f64 (f i).t1) ∧ w.cell? ⟨g, off + i * 9 + 2, none⟩ = some (.float .f64 (f i).t2) ∧ w.cell? ⟨g, off + i * 9 + 3, none⟩ = some (.float .f64 (f i).t3) ∧ w.cell? ⟨g, off + i * 9 + 4, none⟩ = some (.float .f64 (f i).t4) ∧ w.cell? ⟨g, off + i * 9 + 5, none⟩ = some (.float .f64 (f i).t5) ∧ w.cell? ⟨g, off + i * 9 + 6, none⟩ = some (.float .f64 (f i).t6) ∧ w.cell? ⟨g, off + i * 9 + 7, none⟩ = some (.float .f64 (f i).t7) ∧ w.cell? ⟨g, off + i * 9 + 8, none⟩ = some (.float .f64 (f i).t8) :=
  ⟨h.at0 hi (by omega), h.atj hi (j := 1) (by omega), h.atj hi (j := 2) (by omega), h.atj hi (j := 3) (by omega), h.atj hi (j := 4) (by omega), h.atj hi (j := 5) (by omega), h.atj hi (j := 6) (by omega), h.atj hi (j := 7) (by omega), h.atj hi (j := 8) (by omega)⟩
theorem pat {f : Nat → V3} (h : Els w g off n 3 fun i => pcs (f i)) {i : Nat} (hi : i < n) : w.cell? ⟨g, off + i * 3, none⟩ = some (.float .f64 (f i).x) ∧ w.cell? ⟨g, off + i * 3 + 1, none⟩ = some (.float .f64 (f i).y) ∧ w.cell? ⟨g, off + i * 3 + 2, none⟩ = some (.float .f64 (f i).z) :=
  ⟨h.at0 hi (by omega), h.atj hi (j := 1) (by omega), h.atj hi (j := 2) (by omega)⟩
theorem dat {f : Nat → Nd} (h : Els w g off n 10 fun i => dcs (f i)) {i : Nat} (hi : i < n) : w.cell? ⟨g, off + i * 10, none⟩ = some (.float .f64 (f i).box.a0) ∧ w.cell? ⟨g, off + i * 10 + 1, none⟩ = some (.float .f64 (f i).box.a1) ∧ w.cell? ⟨g, off + i * 10 + 2, none⟩ = some (.float .f64 (f i).box.a2) ∧ w.cell? ⟨g, off + i * 10 + 3, none⟩ = some (.float .f64 (f i).box.a3) ∧ w.cell? ⟨g, off + i * 10 + 4, none⟩ = some (.float .f64 (f i).box.a4) ∧ w.cell? ⟨g, off + i * 10 + 5, none⟩ = some (.float .f64 (f i).box.a5) ∧ w.cell? ⟨g, off + i * 10 + 6, none⟩ = some (.int .i64 ((f i).left : Nat)) ∧ w.cell? ⟨g, off + i * 10 + 7, none⟩ = some (.int .i64 ((f i).right : Nat)) ∧ w.cell? ⟨g, off + i * 10 + 8, none⟩ = some (.int .i64 ((f i).lo : Nat)) ∧ w.cell? ⟨g, off + i * 10 + 9, none⟩ = some (.int .i64 ((f i).hi : Nat)) :=
  ⟨h.at0 hi (by omega), h.atj hi (j := 1) (by omega), h.atj hi (j := 2) (by omega), h.atj hi (j := 3) (by omega), h.atj hi (j := 4) (by omega), h.atj hi (j := 5) (by omega), h.atj hi (j := 6) (by omega), h.atj hi (j := 7) (by omega), h.atj hi (j := 8) (by omega), h.atj hi (j := 9) (by omega)⟩
theorem nat {f : Nat → Nat × Bx} (h : Els w g off n 7 fun i => ncs (f i)) {i : Nat} (hi : i < n) : w.cell? ⟨g, off + i * 7, none⟩ = some (.int .i64 ((f i).1 : Nat)) ∧ w.cell? ⟨g, off + i * 7 + 1, none⟩ = some (.float .f64 (f i).2.a0) ∧ w.cell? ⟨g, off + i * 7 + 2, none⟩ = some (.float .f64 (f i).2.a1) ∧ w.cell? ⟨g, off + i * 7 + 3, none⟩ = some (.float .f64 (f i).2.a2) ∧ w.cell? ⟨g, off + i * 7 + 4, none⟩ = some (.float .f64 (f i).2.a3) ∧ w.cell? ⟨g, off + i * 7 + 5, none⟩ = some (.float .f64 (f i).2.a4) ∧ w.cell? ⟨g, off + i * 7 + 6, none⟩ = some (.float .f64 (f i).2.a5) :=
  ⟨h.at0 hi (by omega), h.atj hi (j := 1) (by omega), h.atj hi (j := 2) (by omega), h.atj hi (j := 3) (by omega), h.atj hi (j := 4) (by omega), h.atj hi (j := 5) (by omega), h.atj hi (j := 6) (by omega)⟩
end
end Go.Proofs.YtijoaklknpkdoaaGreat

namespace Go.Proofs.YtijoaklknpkdoaaGreat
open Go.RowKit Fl

set_option maxRecDepth 100000 in
set_option maxHeartbeats 1000000 in
theorem grow_any (a0 a1 a2 a3 a4 a5 p0 p1 p2 : Nat) (w : World) : Ret Tryz.prog 63 #[.agg #[.float .f64 a0, .float .f64 a1, .float .f64 a2, .float .f64 a3, .float .f64 a4, .float .f64 a5], .agg #[.float .f64 p0, .float .f64 p1, .float .f64 p2]] w (fun v => v = .agg #[.float .f64 (lowF a0 p0), .float .f64 (lowF a1 p1), .float .f64 (lowF a2 p2), .float .f64 (highF a3 p0), .float .f64 (highF a4 p1), .float .f64 (highF a5 p2)]) := by
  unfold Ret
  go_enter Tryz.func63, Tryz.ntmps63
  go_wp2_with fail
  refine Calls.mono (join_any _ _ _ _ _ _ _ _ _ _ _ _ _) ?_
  rintro e w' ⟨v, rfl, rfl, hw'⟩
  have HW : Hid _ := hw'
  obtain ⟨hc, hf⟩ := Lp.bcell hw'
  clear hw'
  go_wp2_with fail
  refine bodyPost_ret (v := .agg #[.float .f64 (lowF a0 p0), .float .f64 (lowF a1 p1), .float .f64 (lowF a2 p2), .float .f64 (highF a3 p0), .float .f64 (highF a4 p1), .float .f64 (highF a5 p2)]) (by simp [results, go_sem, hc]) rfl ⟨_, rfl, rfl, ?_⟩
  repeat (refine Below.setCell ?_ (by simp <;> omega) _)
  exact Cl.out3 HW.out

set_option maxRecDepth 100000 in
set_option maxHeartbeats 1000000 in
theorem of_any (t0 t1 t2 t3 t4 t5 t6 t7 t8 : Nat) (w : World) : Ret Tryz.prog 46 #[.agg #[.float .f64 t0, .float .f64 t1, .float .f64 t2, .float .f64 t3, .float .f64 t4, .float .f64 t5, .float .f64 t6, .float .f64 t7, .float .f64 t8]] w (fun v => v = .agg #[.float .f64 (lowF (lowF (lowF pinf t0) t3) t6), .float .f64 (lowF (lowF (lowF pinf t1) t4) t7), .float .f64 (lowF (lowF (lowF pinf t2) t5) t8), .float .f64 (highF (highF (highF ninf t0) t3) t6), .float .f64 (highF (highF (highF ninf t1) t4) t7), .float .f64 (highF (highF (highF ninf t2) t5) t8)]) := by
  unfold Ret
  go_enter Tryz.func46, Tryz.ntmps46
  go_wp2_with fail
  apply Lp.wp_region_loose _ _ 10 (by kernel_rfl) (by kernel_rfl) (by kernel_rfl) (Below.refl _ _)
  apply Lp.facts
  · intro w1 hw
    exact And.intro (Lp.c3 hw (w.heap.size) 0 1 2 (by go_simp; exact rfl) (by go_simp; exact rfl) (by go_simp; exact rfl) (by go_simp; done)) (And.intro (Lp.c3 hw (w.heap.size) 3 4 5 (by go_simp; exact rfl) (by go_simp; exact rfl) (by go_simp; exact rfl) (by go_simp; done)) ((Lp.c3 hw (w.heap.size) 6 7 8 (by go_simp; exact rfl) (by go_simp; exact rfl) (by go_simp; exact rfl) (by go_simp; done))))
  intro HF
  apply Lp.any rfl
  · intro w hw
    go_simp
    exact Lp.ret (empty_any _)
  intro K hK
  rintro v rfl
  go_simp
  refine hK.out _ ?_
  clear hK K
  iterate 2 (
    apply Lp.one ?_ rfl
    · intro w hw
      obtain ⟨⟨c0, c1, c2⟩, ⟨⟨c3, c4, c5⟩, ⟨c6, c7, c8⟩⟩⟩ := HF.out _ hw
      go_simp
      exact rfl
    intro K hK
    go_simp
    refine hK.out _ ?_
    clear hK K)
  apply Lp.any rfl
  · intro w hw
    go_simp
    exact Lp.ret (grow_any _ _ _ _ _ _ _ _ _ _)
  intro K hK
  rintro v rfl
  go_simp
  refine hK.out _ ?_
  clear hK K
  iterate 2 (
    apply Lp.one ?_ rfl
    · intro w hw
      obtain ⟨⟨c0, c1, c2⟩, ⟨⟨c3, c4, c5⟩, ⟨c6, c7, c8⟩⟩⟩ := HF.out _ hw
      go_simp
      exact rfl
    intro K hK
    go_simp
    refine hK.out _ ?_
    clear hK K)
  apply Lp.any rfl
  · intro w hw
    go_simp
    exact Lp.ret (grow_any _ _ _ _ _ _ _ _ _ _)
  intro K hK
  rintro v rfl
  go_simp
  refine hK.out _ ?_
  clear hK K
  iterate 2 (
    apply Lp.one ?_ rfl
    · intro w hw
      obtain ⟨⟨c0, c1, c2⟩, ⟨⟨c3, c4, c5⟩, ⟨c6, c7, c8⟩⟩⟩ := HF.out _ hw
      go_simp
      exact rfl
    intro K hK
    go_simp
    refine hK.out _ ?_
    clear hK K)
  apply Lp.any rfl
  · intro w hw
    go_simp
    exact Lp.ret (grow_any _ _ _ _ _ _ _ _ _ _)
  intro K hK
  rintro v rfl
  go_simp
  refine hK.out _ ?_
  clear hK K
  rotate_left
  exact []
  intro w' hw'
  have HW : Hid _ := hw'
  obtain ⟨hc, hf⟩ := Lp.bcell hw'
  clear hw'
  go_wp2_with fail
  refine bodyPost_ret (v := .agg #[.float .f64 (lowF (lowF (lowF pinf t0) t3) t6), .float .f64 (lowF (lowF (lowF pinf t1) t4) t7), .float .f64 (lowF (lowF (lowF pinf t2) t5) t8), .float .f64 (highF (highF (highF ninf t0) t3) t6), .float .f64 (highF (highF (highF ninf t1) t4) t7), .float .f64 (highF (highF (highF ninf t2) t5) t8)]) (by simp [results, go_sem, hc]) rfl ⟨_, rfl, rfl, ?_⟩
  repeat (refine Below.setCell ?_ (by simp <;> omega) _)
  exact Cl.out2 HW.out

end Go.Proofs.YtijoaklknpkdoaaGreat
