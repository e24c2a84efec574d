/- How a list of triangles is parted: by the median, or by the cheapest bin; and that both ways to reckon the cheapest tell the same. The parts of a vector that is a value. Package tri: Edges, upright, Normal, Flat, Area, At. Package tri: cut, inside, miss. -/
import Derived.Test.YtiblmojdjnfoaaaGreatG8
import Derived.Test.YtiblmojdjnfoaaaGreatG6
import Derived.Test.YtiblmojdjnfoaaaGreatRows
import Derived.Test.YtiblmojdjnfoaaaGreatG3
import Derived.Test.YtiblmojdjnfoaaaGreatG7
namespace Go.Proofs.YtiblmojdjnfoaaaGreat.Fl

/-! Numbers ordered by what they have. -/
section
variable (X : Nat → Nat)
def ltK (i j : Nat) : Bool := ltB (X i) (X j) || (eqB (X i) (X j) && decide (i < j))
def putK (x : Nat) : List Nat → List Nat
  | [] => [x]
  | y :: l => if ltK X x y then x :: y :: l else y :: putK x l
def medF (l : List Nat) : List Nat := l.foldl (fun o x => putK X x o) []
theorem putK_perm (x : Nat) : ∀ l, (putK X x l).Perm (x :: l)
  | [] => .refl _
  | y :: l => by
    unfold putK
    split
    · exact .refl _
    · exact ((putK_perm x l).cons y).trans (.swap x y l)
theorem med_fold : ∀ (l o : List Nat), (l.foldl (fun o x => putK X x o) o).Perm (o ++ l)
  | [], o => by simp
  | x :: l, o => (med_fold l (putK X x o)).trans (((putK_perm X x o).append_right l).trans List.perm_middle.symm)
theorem med_perm (l : List Nat) : (medF X l).Perm l := by
  have h := med_fold X l []
  rwa [List.nil_append] at h
theorem ltK_iff {X : Nat → Nat} (hX : ∀ i, Num (X i)) (i j : Nat) : ltK X i j = true ↔ val (X i) < val (X j) ∨ (val (X i) = val (X j) ∧ i < j) := by
  unfold ltK ltB eqB
  rw [lt_val (hX i) (hX j)]
  obtain ⟨a, b, e, h1, h2⟩ := ord_val (hX i) (hX j)
  have h3 : (ford (X i) (X j) == some .eq) = decide (val (X i) = val (X j)) := by
    rw [e]
    by_cases h : a = b
    · rw [decide_eq_true (h2.1 h), h, Int.compare_eq_eq.2 rfl]; rfl
    · rw [decide_eq_false fun k => h (h2.2 k)]
      have : compare a b ≠ .eq := fun k => h (Int.compare_eq_eq.1 k)
      generalize compare a b = o at this
      cases o <;> simp_all
  rw [h3]
  simp
theorem ltK_no {X : Nat → Nat} (hX : ∀ i, Num (X i)) (i j : Nat) : ltK X i j = false ↔ val (X j) < val (X i) ∨ (val (X i) = val (X j) ∧ j ≤ i) := by
  rw [← Bool.not_eq_true, ltK_iff hX]
  have := Rat.le_total (a := val (X i)) (b := val (X j))
  constructor
  · intro h
    by_cases a : val (X j) < val (X i)
    · exact .inl a
    · have e : val (X i) = val (X j) := by grind
      exact .inr ⟨e, by rcases Nat.lt_or_ge i j with k | k; exact absurd (.inr ⟨e, k⟩) h; exact k⟩
  · rintro (h | ⟨e, h⟩) (k | ⟨f, k⟩)
    · grind
    · grind
    · grind
    · omega
theorem putK_sorts {X : Nat → Nat} (hX : ∀ i, Num (X i)) (x : Nat) : ∀ l, l.Pairwise (fun i j => ltK X j i = false) → (putK X x l).Pairwise (fun i j => ltK X j i = false)
  | [], _ => by simp [putK]
  | y :: l, h => by
    unfold putK
    have hy := List.pairwise_cons.1 h
    split
    · rename_i hlt
      rw [ltK_iff hX] at hlt
      refine List.pairwise_cons.2 ⟨fun z hz => ?_, h⟩
      rw [ltK_no hX]
      rcases List.mem_cons.1 hz with rfl | hz
      · rcases hlt with a | ⟨a, b⟩
        · exact .inl a
        · exact .inr ⟨a.symm, by omega⟩
      · have := (ltK_no hX _ _).1 (hy.1 z hz)
        rcases hlt with a | ⟨a, b⟩ <;> rcases this with c | ⟨c, d⟩
        · exact .inl (by grind)
        · exact .inl (by grind)
        · exact .inl (by grind)
        · exact .inr ⟨by grind, by omega⟩
    · rename_i hlt
      have hlt' : ltK X x y = false := by simpa using hlt
      refine List.pairwise_cons.2 ⟨fun z hz => ?_, putK_sorts hX x l hy.2⟩
      rcases List.mem_cons.1 ((putK_perm X x l).mem_iff.1 hz) with rfl | hz
      · exact hlt'
      · exact hy.1 z hz
theorem med_sorts {X : Nat → Nat} (hX : ∀ i, Num (X i)) (l : List Nat) : (medF X l).Pairwise (fun i j => ltK X j i = false) := by
  have : ∀ (l o : List Nat), o.Pairwise (fun i j => ltK X j i = false) → (l.foldl (fun o x => putK X x o) o).Pairwise (fun i j => ltK X j i = false) := by
    intro l
    induction l with
    | nil => exact fun o h => h
    | cons x l ih => exact fun o h => ih _ (putK_sorts hX x o h)
  exact this l [] .nil
theorem sorts_one {X : Nat → Nat} (hX : ∀ i, Num (X i)) : ∀ {l m : List Nat}, l.Perm m → l.Pairwise (fun i j => ltK X j i = false) → m.Pairwise (fun i j => ltK X j i = false) → l = m
  | [], m, h, _, _ => h.nil_eq
  | x :: l, [], h, _, _ => absurd h.length_eq (by simp)
  | x :: l, y :: m, h, hl, hm => by
    have a := List.pairwise_cons.1 hl
    have b := List.pairwise_cons.1 hm
    have e : x = y := by
      rcases List.mem_cons.1 (h.mem_iff.2 (List.mem_cons_self : y ∈ y :: m)) with e | e
      · exact e.symm
      · rcases List.mem_cons.1 (h.mem_iff.1 (List.mem_cons_self : x ∈ x :: l)) with e' | e'
        · exact e'
        · have h1 := (ltK_no hX _ _).1 (a.1 y e)
          have h2 := (ltK_no hX _ _).1 (b.1 x e')
          rcases h1 with h1 | ⟨h1, h3⟩ <;> rcases h2 with h2 | ⟨h2, h4⟩
          · grind
          · grind
          · grind
          · omega
    subst e
    rw [sorts_one hX h.cons_inv a.2 b.2]
theorem med_uniq {X : Nat → Nat} (hX : ∀ i, Num (X i)) {l m : List Nat} (h : m.Perm l) (hm : m.Pairwise (fun i j => ltK X j i = false)) : m = medF X l := sorts_one hX (h.trans (med_perm X l).symm) hm (med_sorts hX l)
end

/-! Triangles. -/
structure Tr where
  t0 : Nat
  t1 : Nat
  t2 : Nat
  t3 : Nat
  t4 : Nat
  t5 : Nat
  t6 : Nat
  t7 : Nat
  t8 : Nat
structure Tr.Mo (t : Tr) : Prop where
  h0 : Fl.Mo t.t0
  h1 : Fl.Mo t.t1
  h2 : Fl.Mo t.t2
  h3 : Fl.Mo t.t3
  h4 : Fl.Mo t.t4
  h5 : Fl.Mo t.t5
  h6 : Fl.Mo t.t6
  h7 : Fl.Mo t.t7
  h8 : Fl.Mo t.t8
def Tr.mayB (t : Tr) : Bool := moB t.t0 && moB t.t1 && moB t.t2 && moB t.t3 && moB t.t4 && moB t.t5 && moB t.t6 && moB t.t7 && moB t.t8
theorem Tr.may {t : Tr} (h : t.mayB = true) : t.Mo := by
  unfold Tr.mayB at h
  simp only [Bool.and_eq_true] at h
  obtain ⟨⟨⟨⟨⟨⟨⟨⟨h0, h1⟩, h2⟩, h3⟩, h4⟩, h5⟩, h6⟩, h7⟩, h8⟩ := h
  exact ⟨mo_of h0, mo_of h1, mo_of h2, mo_of h3, mo_of h4, mo_of h5, mo_of h6, mo_of h7, mo_of h8⟩
def ptB (x y z : Nat) : Bx := ⟨x, y, z, x, y, z⟩
def Tr.box (t : Tr) : Bx := Bx.all [ptB t.t0 t.t1 t.t2, ptB t.t3 t.t4 t.t5, ptB t.t6 t.t7 t.t8]
theorem pt_mo {x y z : Nat} (hx : Mo x) (hy : Mo y) (hz : Mo z) : (ptB x y z).Mo := ⟨hx, hy, hz, hx, hy, hz⟩
theorem Tr.Mo.box {t : Tr} (h : t.Mo) : (Tr.box t).Mo := by
  have hs : ∀ c, c ∈ [ptB t.t0 t.t1 t.t2, ptB t.t3 t.t4 t.t5, ptB t.t6 t.t7 t.t8] → c.Mo := by
    intro c hc
    simp only [List.mem_cons, List.not_mem_nil, or_false] at hc
    rcases hc with rfl | rfl | rfl
    · exact pt_mo h.h0 h.h1 h.h2
    · exact pt_mo h.h3 h.h4 h.h5
    · exact pt_mo h.h6 h.h7 h.h8
  exact (BoxP.all fun c hc => (hs c hc).ok).mo hs (List.mem_cons_self)
def Bx.mid (b : Bx) : V3 := ⟨fmul (fadd b.a0 b.a3) half, fmul (fadd b.a1 b.a4) half, fmul (fadd b.a2 b.a5) half⟩
def partV (p : V3) (k : Int) : Nat := partF p.x p.y p.z k
theorem mid_part {b : Bx} (h : b.Mo) (k : Int) : Mo (partV b.mid k) := by
  unfold partV partF Bx.mid
  split
  · exact mid_mo h.h0 h.h3
  · split
    · exact mid_mo h.h1 h.h4
    · exact mid_mo h.h2 h.h5
def Bx.midpt (b : Bx) : Bx := ptB b.mid.x b.mid.y b.mid.z
theorem midpt_mo {b : Bx} (h : b.Mo) : b.midpt.Mo := pt_mo (mid_part h 0) (mid_part h 1) (mid_part h 2)
def Bx.axis (b : Bx) : Nat := bestF (fsub b.a3 b.a0) (fsub b.a4 b.a1) (fsub b.a5 b.a2) 3
def Bx.loP (b : Bx) (k : Int) : Nat := partF b.a0 b.a1 b.a2 k
def Bx.hiP (b : Bx) (k : Int) : Nat := partF b.a3 b.a4 b.a5 k

section
variable (T : Nat → Tr)
def bxs (s : List Nat) : Bx := Bx.all (s.map fun i => (T i).box)
def mds (s : List Nat) : Bx := Bx.all (s.map fun i => (T i).box.midpt)
def keyT (k : Nat) (i : Nat) : Nat := partV (T i).box.mid k
/-- The list's axis, and the least and the greatest part of a middle on it. -/
def axT (s : List Nat) : Nat := (mds T s).axis
def loT (s : List Nat) : Nat := (mds T s).loP (axT T s)
def hiT (s : List Nat) : Nat := (mds T s).hiP (axT T s)
def binT (s : List Nat) (i : Nat) : Int := binF (loT T s) (hiT T s) (keyT T (axT T s) i)
def medT (s : List Nat) : List Nat := medF (keyT T (axT T s)) s
def leftT (s : List Nat) (k : Nat) : List Nat := s.filter fun i => decide (binT T s i < k)
def restT (s : List Nat) (k : Nat) : List Nat := s.filter fun i => !decide (binT T s i < k)
def gather (l : List (Nat × Bx)) : Nat × Bx := l.foldl (fun a b => (a.1 + b.1, a.2.join b.2)) (0, Bx.none)
def updB (f : Nat → Nat × Bx) (k : Nat) (v : Nat × Bx) (j : Nat) : Nat × Bx := if j = k then v else f j
def stepB (s : List Nat) (f : Nat → Nat × Bx) (i : Nat) : Nat → Nat × Bx := updB f (binT T s i).toNat (gather [f (binT T s i).toNat, (1, (T i).box)])
def binsT (s : List Nat) : Nat → Nat × Bx := s.foldl (stepB T s) (fun _ => gather [])
def sumC (a b : Nat × Bx) : Nat := fadd (costF a.2 a.1) (costF b.2 b.1)
def costP (s : List Nat) (k : Nat) : Nat := sumC (gather ((List.range k).map (binsT T s))) (gather ((List.range (8 - k)).map fun j => binsT T s (k + j)))
def costR (s : List Nat) (k : Nat) : Nat := sumC ((leftT T s k).length, bxs T (leftT T s k)) ((restT T s k).length, bxs T (restT T s k))
def bcutT (s : List Nat) : Nat := (bestP (costP T s) 7).1
def partT (sur : Bool) (s : List Nat) : List Nat × List Nat :=
  if sur = true ∧ (ford (hiT T s) (loT T s) == some .gt) = true ∧ 0 < (leftT T s (bcutT T s)).length ∧ 0 < (restT T s (bcutT T s)).length then (leftT T s (bcutT T s), restT T s (bcutT T s))
  else ((medT T s).take ((medT T s).length / 2), (medT T s).drop ((medT T s).length / 2))
def treeT (sur : Bool) : Parts where
  part := partT T sur
  box := bxs T
  perm l h := by
    unfold partT
    split
    · exact List.filter_append_perm _ _
    · rw [List.take_append_drop]
      exact med_perm _ l
  one l h := by
    unfold partT
    split
    · rename_i h2; exact h2.2.2.1
    · have := (med_perm (keyT T (axT T l)) l).length_eq
      show 0 < (List.take _ _).length
      unfold medT
      rw [List.length_take, this]
      omega
  two l h := by
    unfold partT
    split
    · rename_i h2; exact h2.2.2.2
    · have := (med_perm (keyT T (axT T l)) l).length_eq
      show 0 < (List.drop _ _).length
      unfold medT
      rw [List.length_drop, this]
      omega
end
section
variable {T : Nat → Tr}
theorem key_mo (hT : ∀ i, (T i).Mo) (k i : Nat) : Mo (keyT T k i) := mid_part (hT i).box k
theorem bxs_P (hT : ∀ i, (T i).Mo) (s : List Nat) : BoxP (fun c => ∃ i, i ∈ s ∧ c = (T i).box) (bxs T s) :=
  (BoxP.all fun c hc => by obtain ⟨i, _, rfl⟩ := List.mem_map.1 hc; exact (hT i).box.ok).iff fun c => by rw [List.mem_map]; exact ⟨fun ⟨i, h, e⟩ => ⟨i, h, e.symm⟩, fun ⟨i, h, e⟩ => ⟨i, h, e.symm⟩⟩
theorem bxs_mo (hT : ∀ i, (T i).Mo) {s : List Nat} (h : 0 < s.length) : (bxs T s).Mo := by
  obtain ⟨i, hi⟩ := List.exists_mem_of_length_pos h
  exact (bxs_P hT s).mo (fun c ⟨i, _, e⟩ => e ▸ (hT i).box) ⟨i, hi, rfl⟩
theorem mds_P (hT : ∀ i, (T i).Mo) (s : List Nat) : BoxP (fun c => ∃ i, i ∈ s ∧ c = (T i).box.midpt) (mds T s) :=
  (BoxP.all fun c hc => by obtain ⟨i, _, rfl⟩ := List.mem_map.1 hc; exact (midpt_mo (hT i).box).ok).iff fun c => by rw [List.mem_map]; exact ⟨fun ⟨i, h, e⟩ => ⟨i, h, e.symm⟩, fun ⟨i, h, e⟩ => ⟨i, h, e.symm⟩⟩
theorem lo_P (hT : ∀ i, (T i).Mo) (s : List Nat) (k : Nat) : LowP (fun y => ∃ i, i ∈ s ∧ y = keyT T k i) ((mds T s).loP k) := by
  obtain ⟨h0, h1, h2, h3, h4, h5⟩ := mds_P hT s
  unfold Bx.loP keyT partV partF
  split
  · exact h0.iff fun y => ⟨fun ⟨_, ⟨i, hi, rfl⟩, e⟩ => ⟨i, hi, e⟩, fun ⟨i, hi, e⟩ => ⟨_, ⟨i, hi, rfl⟩, e⟩⟩
  · split
    · exact h1.iff fun y => ⟨fun ⟨_, ⟨i, hi, rfl⟩, e⟩ => ⟨i, hi, e⟩, fun ⟨i, hi, e⟩ => ⟨_, ⟨i, hi, rfl⟩, e⟩⟩
    · exact h2.iff fun y => ⟨fun ⟨_, ⟨i, hi, rfl⟩, e⟩ => ⟨i, hi, e⟩, fun ⟨i, hi, e⟩ => ⟨_, ⟨i, hi, rfl⟩, e⟩⟩
theorem hi_P (hT : ∀ i, (T i).Mo) (s : List Nat) (k : Nat) : HighP (fun y => ∃ i, i ∈ s ∧ y = keyT T k i) ((mds T s).hiP k) := by
  obtain ⟨h0, h1, h2, h3, h4, h5⟩ := mds_P hT s
  unfold Bx.hiP keyT partV partF
  split
  · exact h3.iff fun y => ⟨fun ⟨_, ⟨i, hi, rfl⟩, e⟩ => ⟨i, hi, e⟩, fun ⟨i, hi, e⟩ => ⟨_, ⟨i, hi, rfl⟩, e⟩⟩
  · split
    · exact h4.iff fun y => ⟨fun ⟨_, ⟨i, hi, rfl⟩, e⟩ => ⟨i, hi, e⟩, fun ⟨i, hi, e⟩ => ⟨_, ⟨i, hi, rfl⟩, e⟩⟩
    · exact h5.iff fun y => ⟨fun ⟨_, ⟨i, hi, rfl⟩, e⟩ => ⟨i, hi, e⟩, fun ⟨i, hi, e⟩ => ⟨_, ⟨i, hi, rfl⟩, e⟩⟩
/-- What is known of a list whose middles are apart. -/
theorem apart_of (hT : ∀ i, (T i).Mo) {s : List Nat} (h0 : 0 < s.length) (h : (ford (hiT T s) (loT T s) == some .gt) = true) :
    (∀ i, i ∈ s → Bin (loT T s) (hiT T s) (keyT T (axT T s) i)) ∧ (∃ i, i ∈ s ∧ binT T s i = 0) ∧ (∃ i, i ∈ s ∧ binT T s i = 7) := by
  obtain ⟨j, hj⟩ := List.exists_mem_of_length_pos h0
  have hl : LowP (fun y => ∃ i, i ∈ s ∧ y = keyT T (axT T s) i) (loT T s) := lo_P hT s (axT T s)
  have hh : HighP (fun y => ∃ i, i ∈ s ∧ y = keyT T (axT T s) i) (hiT T s) := hi_P hT s (axT T s)
  have sm : ∀ y, (∃ i, i ∈ s ∧ y = keyT T (axT T s) i) → Mo y := fun y ⟨i, _, e⟩ => e ▸ key_mo hT _ i
  obtain ⟨ml, il, hil, el⟩ := hl.mo sm ⟨j, hj, rfl⟩
  obtain ⟨mh, ih, hih, eh⟩ := hh.mo sm ⟨j, hj, rfl⟩
  have hlt : val (loT T s) < val (hiT T s) := by
    rw [gt_val mh.num ml.num] at h
    exact of_decide_eq_true h
  have hb : ∀ i, i ∈ s → Bin (loT T s) (hiT T s) (keyT T (axT T s) i) := fun i hi => by
    have a := hl.le _ ⟨i, hi, rfl⟩
    have b := hh.ge _ ⟨i, hi, rfl⟩
    have mk := key_mo hT (axT T s) i
    rw [leB_val ml.num mk.num] at a
    rw [leB_val mk.num mh.num] at b
    exact bin_of ml mh mk (of_decide_eq_true a) (of_decide_eq_true b) hlt
  have B := hb j hj
  refine ⟨hb, ⟨il, hil, ?_⟩, ⟨ih, hih, ?_⟩⟩
  · show binF (loT T s) (hiT T s) (keyT T (axT T s) il) = 0
    rw [← el]
    exact bin_lo ml B.s2 B.s2p
  · show binF (loT T s) (hiT T s) (keyT T (axT T s) ih) = 7
    rw [← eh]
    exact bin_hi B.s2 B.s2p
theorem bin_in {lo hi x : Nat} (h : Bin lo hi x) : 0 ≤ binF lo hi x ∧ binF lo hi x ≤ 7 := by
  have := h.t0
  unfold binF
  omega
end
end Go.Proofs.YtiblmojdjnfoaaaGreat.Fl

namespace Go.Proofs.YtiblmojdjnfoaaaGreat
open Go.RowKit Fl

@[go_sem] theorem fld_0 (x y z : Nat) (w : World) : (Instr.field 25 (.agg #[.float .f64 x, .float .f64 y, .float .f64 z]) 0).run Tryz.prog w = .ok (.float .f64 x) w := by kernel_rfl

@[go_sem] theorem fld_1 (x y z : Nat) (w : World) : (Instr.field 25 (.agg #[.float .f64 x, .float .f64 y, .float .f64 z]) 1).run Tryz.prog w = .ok (.float .f64 y) w := by kernel_rfl

@[go_sem] theorem fld_2 (x y z : Nat) (w : World) : (Instr.field 25 (.agg #[.float .f64 x, .float .f64 y, .float .f64 z]) 2).run Tryz.prog w = .ok (.float .f64 z) w := by kernel_rfl

end Go.Proofs.YtiblmojdjnfoaaaGreat

namespace Go.Proofs.YtiblmojdjnfoaaaGreat
open Go.RowKit Fl

/-- Two vectors. -/
def isPP (P Q : V3) (v : Value) : Prop := ∃ x y z p q r, v = .tuple #[.agg #[.float .f64 x, .float .f64 y, .float .f64 z], .agg #[.float .f64 p, .float .f64 q, .float .f64 r]] ∧ (S3 x y z P ∧ W3 x y z) ∧ S3 p q r Q ∧ W3 p q r

set_option maxRecDepth 100000 in
set_option maxHeartbeats 1000000 in
theorem edges_any {t0 t1 t2 t3 t4 t5 t6 t7 t8 : Nat} {A B C : V3} (hA : S3 t0 t1 t2 A) (hB : S3 t3 t4 t5 B) (hC : S3 t6 t7 t8 C) (w : World) : Ret Tryz.prog 109 #[.agg #[.float .f64 t0, .float .f64 t1, .float .f64 t2, .float .f64 t3, .float .f64 t4, .float .f64 t5, .float .f64 t6, .float .f64 t7, .float .f64 t8]] w (isPP (B.sub A) (C.sub A)) := by
  unfold Ret
  go_enter Tryz.func109, Tryz.ntmps109
  go_wp2_with fail
  refine Lp.settle (fun w' => Lp.Bk w' (w.heap.size) #[.float .f64 t0, .float .f64 t1, .float .f64 t2, .float .f64 t3, .float .f64 t4, .float .f64 t5, .float .f64 t6, .float .f64 t7, .float .f64 t8] 60 ∧ Lp.Bk w' (w.heap.size + 1) #[.float .f64 0, .float .f64 0, .float .f64 0] 25 ∧ Lp.Bk w' (w.heap.size + 1 + 1) #[.float .f64 0, .float .f64 0, .float .f64 0] 25 ∧ Cl w w') ⟨(((Lp.Bk.al _ _ _).alo _).alo _), ((Lp.Bk.al1 _ _ _ _).alo _), (Lp.Bk.al2 _ _ _ _ _), (((Below.refl _ _).alloc (by simp <;> omega) _).alloc (by simp <;> omega) _).alloc (by simp <;> omega) _⟩ ?_
  rintro v1 ⟨BT, BE, BF, HB⟩
  have kT := BT.cell
  have kE := BE.cell
  have kF := BF.cell
  have zE := BE.frz
  have zF := BF.frz
  have nT0 : (w.heap.size = v1.heap.size) = False := eq_false (by have := BT.lt; omega)
  have nT1 : (w.heap.size = v1.heap.size + 1) = False := eq_false (by have := BT.lt; omega)
  have nE0 : (w.heap.size + 1 = v1.heap.size) = False := eq_false (by have := BE.lt; omega)
  have nE1 : (w.heap.size + 1 = v1.heap.size + 1) = False := eq_false (by have := BE.lt; omega)
  have nF0 : (w.heap.size + 1 + 1 = v1.heap.size) = False := eq_false (by have := BF.lt; omega)
  have nF1 : (w.heap.size + 1 + 1 = v1.heap.size + 1) = False := eq_false (by have := BF.lt; omega)
  apply Lp.wp_region_loose _ _ 10 (by kernel_rfl) (by kernel_rfl) (by kernel_rfl) (Below.refl _ _)
  apply Lp.facts
  · intro w1 hw
    exact And.intro (BT.cl hw).cell (And.intro (BE.cl hw).cell ((BF.cl hw).cell))
  intro HF
  iterate 4 (
    apply Lp.one ?_ rfl
    · intro w hw
      obtain ⟨k0, k1, k2⟩ := HF.out _ hw
      go_simp
      exact rfl
    intro K hK
    go_simp
    refine hK.out _ ?_
    clear hK K)
  apply Lp.any rfl
  · intro w hw
    go_simp
    exact Lp.ret (sub_c _ (by assumption) (by assumption))
  intro K hK
  rintro v ⟨x, y, z, rfl, hx, wx⟩
  go_simp
  refine hK.out _ ?_
  clear hK K
  iterate 4 (
    apply Lp.one ?_ rfl
    · intro w hw
      obtain ⟨k0, k1, k2⟩ := HF.out _ hw
      go_simp
      exact rfl
    intro K hK
    go_simp
    refine hK.out _ ?_
    clear hK K)
  apply Lp.any rfl
  · intro w hw
    go_simp
    exact Lp.ret (sub_c _ (by assumption) (by assumption))
  intro K hK
  rintro v ⟨p, q, r, rfl, hp, wp⟩
  go_simp
  refine hK.out _ ?_
  clear hK K
  rotate_left
  exact []
  intro v2 hm
  clear kT kE kF zE zF nT0 nT1 nE0 nE1 nF0 nF1
  replace BT := BT.keep hm
  replace BE := BE.keep hm
  replace BF := BF.keep hm
  replace HB := HB.call hm
  clear hm
  have kT := BT.cell
  have kE := BE.cell
  have kF := BF.cell
  have zE := BE.frz
  have zF := BF.frz
  have nT0 : (w.heap.size = v2.heap.size) = False := eq_false (by have := BT.lt; omega)
  have nT1 : (w.heap.size = v2.heap.size + 1) = False := eq_false (by have := BT.lt; omega)
  have nE0 : (w.heap.size + 1 = v2.heap.size) = False := eq_false (by have := BE.lt; omega)
  have nE1 : (w.heap.size + 1 = v2.heap.size + 1) = False := eq_false (by have := BE.lt; omega)
  have nF0 : (w.heap.size + 1 + 1 = v2.heap.size) = False := eq_false (by have := BF.lt; omega)
  have nF1 : (w.heap.size + 1 + 1 = v2.heap.size + 1) = False := eq_false (by have := BF.lt; omega)
  go_wp2_with fail
  refine bodyPost_ret (v := .tuple #[.agg #[.float .f64 x, .float .f64 y, .float .f64 z], .agg #[.float .f64 p, .float .f64 q, .float .f64 r]]) (by simp [results, go_sem, kE, kF]) rfl ⟨_, rfl, ⟨_, _, _, _, _, _, rfl, ⟨hx, wx⟩, hp, wp⟩, ?_⟩
  repeat (refine Below.setCell ?_ (by dsimp only; omega) _)
  exact HB

set_option maxRecDepth 100000 in
set_option maxHeartbeats 1000000 in
theorem tproduct_any {x y X Y : Nat} (hx : Sm x X) (hy : Sm y Y) (w : World) : Ret Tryz.prog 112 #[.float .f64 x, .float .f64 y] w (isF (fmul X Y)) := by
  unfold Ret
  go_enter Tryz.func112, Tryz.ntmps112
  go_wp2_with fail
  refine upon_mul hx hy ?_
  intro r n hr
  go_wp2_with fail
  go_ret
  exact ⟨_, rfl, ⟨r, rfl, hr⟩, below_dr (Below.refl _ _) n⟩

def areaF (U : V3) : Nat := fmul U.len 4602678819172646912

end Go.Proofs.YtiblmojdjnfoaaaGreat

namespace Go.Proofs.YtiblmojdjnfoaaaGreat
open Go.RowKit Fl

/-- Where a ray cuts a triangle's plane. -/
def detF (A B C D : V3) : Nat := (B.sub A).dot (D.cross (C.sub A))
def cutT (A B C O D : V3) : Nat := fmul ((C.sub A).dot ((O.sub A).cross (B.sub A))) (fdiv 4607182418800017408 (detF A B C D))
def cutU (A B C O D : V3) : Nat := fmul ((O.sub A).dot (D.cross (C.sub A))) (fdiv 4607182418800017408 (detF A B C D))
def cutV (A B C O D : V3) : Nat := fmul (D.dot ((O.sub A).cross (B.sub A))) (fdiv 4607182418800017408 (detF A B C D))
def isHit (T U V : Nat) (v : Value) : Prop := ∃ t u z, v = .agg #[.int .i64 0, .float .f64 t, .float .f64 u, .float .f64 z] ∧ S3 t u z ⟨T, U, V⟩ ∧ W3 t u z
set_option maxRecDepth 100000 in
set_option maxHeartbeats 1000000 in
theorem cut_any {t0 t1 t2 t3 t4 t5 t6 t7 t8 r0 r1 r2 r3 r4 r5 : Nat} {A B C O D : V3} (hA : S3 t0 t1 t2 A) (hB : S3 t3 t4 t5 B) (hC : S3 t6 t7 t8 C) (hO : S3 r0 r1 r2 O) (hD : S3 r3 r4 r5 D) (w : World) : Ret Tryz.prog 89 #[.agg #[.float .f64 t0, .float .f64 t1, .float .f64 t2, .float .f64 t3, .float .f64 t4, .float .f64 t5, .float .f64 t6, .float .f64 t7, .float .f64 t8], .agg #[.float .f64 r0, .float .f64 r1, .float .f64 r2, .float .f64 r3, .float .f64 r4, .float .f64 r5]] w (isHit (cutT A B C O D) (cutU A B C O D) (cutV A B C O D)) := by
  unfold Ret
  go_enter Tryz.func89, Tryz.ntmps89
  go_wp2_with fail
  refine Lp.settleC (fun w' => Lp.Bk w' (w.heap.size) #[.float .f64 t0, .float .f64 t1, .float .f64 t2, .float .f64 t3, .float .f64 t4, .float .f64 t5, .float .f64 t6, .float .f64 t7, .float .f64 t8] 60 ∧ Lp.Bk w' (w.heap.size + 1) #[.float .f64 r0, .float .f64 r1, .float .f64 r2, .float .f64 r3, .float .f64 r4, .float .f64 r5] 27 ∧ Lp.Bk w' (w.heap.size + 1 + 1) #[.int .i64 0, .float .f64 0, .float .f64 0, .float .f64 0] 35 ∧ Cl w w') ⟨(((Lp.Bk.al _ _ _).alo _).alo _), ((Lp.Bk.al1 _ _ _ _).alo _), (Lp.Bk.al2 _ _ _ _ _), (((Below.refl _ _).alloc (by simp <;> omega) _).alloc (by simp <;> omega) _).alloc (by simp <;> omega) _⟩ ?_
  rintro v1 ⟨BT, BY, BR, HB⟩
  have kT := BT.cell
  have kY := BY.cell
  have kR := BR.cell
  have zR := BR.frz
  have nT0 : (w.heap.size = v1.heap.size) = False := eq_false (by have := BT.lt; omega)
  have mT0 : w.heap.size < v1.heap.size := by have := BT.lt; omega
  have nT1 : (w.heap.size = v1.heap.size + 1) = False := eq_false (by have := BT.lt; omega)
  have mT1 : w.heap.size < v1.heap.size + 1 := by have := BT.lt; omega
  have nY0 : (w.heap.size + 1 = v1.heap.size) = False := eq_false (by have := BY.lt; omega)
  have mY0 : w.heap.size + 1 < v1.heap.size := by have := BY.lt; omega
  have nY1 : (w.heap.size = v1.heap.size) = False := eq_false (by have := BY.lt; omega)
  have mY1 : w.heap.size < v1.heap.size := by have := BY.lt; omega
  have nR0 : (w.heap.size + 1 + 1 = v1.heap.size) = False := eq_false (by have := BR.lt; omega)
  have mR0 : w.heap.size + 1 + 1 < v1.heap.size := by have := BR.lt; omega
  have nR1 : (w.heap.size + 1 = v1.heap.size) = False := eq_false (by have := BR.lt; omega)
  have mR1 : w.heap.size + 1 < v1.heap.size := by have := BR.lt; omega
  refine Calls.mono (edges_any hA hB hC _) ?_
  rintro e v2 ⟨v, rfl, ⟨x, y, z, p, q, r, rfl, ⟨hx, wx⟩, hp, wp⟩, hm⟩
  clear kT kY kR zR nT0 mT0 nT1 mT1 nY0 mY0 nY1 mY1 nR0 mR0 nR1 mR1
  replace BT := BT.keep hm
  replace BY := BY.keep hm
  replace BR := BR.keep hm
  replace HB := HB.call hm
  clear hm
  have kT := BT.cell
  have kY := BY.cell
  have kR := BR.cell
  have zR := BR.frz
  have nT0 : (w.heap.size = v2.heap.size) = False := eq_false (by have := BT.lt; omega)
  have mT0 : w.heap.size < v2.heap.size := by have := BT.lt; omega
  have nT1 : (w.heap.size = v2.heap.size + 1) = False := eq_false (by have := BT.lt; omega)
  have mT1 : w.heap.size < v2.heap.size + 1 := by have := BT.lt; omega
  have nY0 : (w.heap.size + 1 = v2.heap.size) = False := eq_false (by have := BY.lt; omega)
  have mY0 : w.heap.size + 1 < v2.heap.size := by have := BY.lt; omega
  have nY1 : (w.heap.size = v2.heap.size) = False := eq_false (by have := BY.lt; omega)
  have mY1 : w.heap.size < v2.heap.size := by have := BY.lt; omega
  have nR0 : (w.heap.size + 1 + 1 = v2.heap.size) = False := eq_false (by have := BR.lt; omega)
  have mR0 : w.heap.size + 1 + 1 < v2.heap.size := by have := BR.lt; omega
  have nR1 : (w.heap.size + 1 = v2.heap.size) = False := eq_false (by have := BR.lt; omega)
  have mR1 : w.heap.size + 1 < v2.heap.size := by have := BR.lt; omega
  go_wp2_with fail
  refine Lp.settleC (fun w' => Lp.Bk w' (w.heap.size) #[.float .f64 t0, .float .f64 t1, .float .f64 t2, .float .f64 t3, .float .f64 t4, .float .f64 t5, .float .f64 t6, .float .f64 t7, .float .f64 t8] 60 ∧ Lp.Bk w' (w.heap.size + 1) #[.float .f64 r0, .float .f64 r1, .float .f64 r2, .float .f64 r3, .float .f64 r4, .float .f64 r5] 27 ∧ Lp.Bk w' (w.heap.size + 1 + 1) #[.int .i64 0, .float .f64 0, .float .f64 0, .float .f64 0] 35 ∧ Lp.Bk w' (v2.heap.size) #[.float .f64 x, .float .f64 y, .float .f64 z] 25 ∧ Lp.Bk w' (v2.heap.size + 1) #[.float .f64 p, .float .f64 q, .float .f64 r] 25 ∧ Cl w w') ⟨((BT).alo _).alo _, ((BY).alo _).alo _, ((BR).alo _).alo _, (Lp.Bk.al _ _ _).alo _, Lp.Bk.al1 _ _ _ _, ((HB).alloc _).alloc _⟩ ?_
  clear kT kY kR zR nT0 mT0 nT1 mT1 nY0 mY0 nY1 mY1 nR0 mR0 nR1 mR1
  clear BT BY BR HB
  rintro v3 ⟨BT, BY, BR, BE, BF, HB⟩
  have kT := BT.cell
  have kY := BY.cell
  have kR := BR.cell
  have kE := BE.cell
  have kF := BF.cell
  have zR := BR.frz
  have nT0 : (w.heap.size = v3.heap.size) = False := eq_false (by have := BT.lt; omega)
  have mT0 : w.heap.size < v3.heap.size := by have := BT.lt; omega
  have nT1 : (w.heap.size = v3.heap.size + 1) = False := eq_false (by have := BT.lt; omega)
  have mT1 : w.heap.size < v3.heap.size + 1 := by have := BT.lt; omega
  have nY0 : (w.heap.size + 1 = v3.heap.size) = False := eq_false (by have := BY.lt; omega)
  have mY0 : w.heap.size + 1 < v3.heap.size := by have := BY.lt; omega
  have nY1 : (w.heap.size = v3.heap.size) = False := eq_false (by have := BY.lt; omega)
  have mY1 : w.heap.size < v3.heap.size := by have := BY.lt; omega
  have nR0 : (w.heap.size + 1 + 1 = v3.heap.size) = False := eq_false (by have := BR.lt; omega)
  have mR0 : w.heap.size + 1 + 1 < v3.heap.size := by have := BR.lt; omega
  have nR1 : (w.heap.size + 1 = v3.heap.size) = False := eq_false (by have := BR.lt; omega)
  have mR1 : w.heap.size + 1 < v3.heap.size := by have := BR.lt; omega
  have nE0 : (v2.heap.size = v3.heap.size) = False := eq_false (by have := BE.lt; omega)
  have mE0 : v2.heap.size < v3.heap.size := by have := BE.lt; omega
  have nE1 : (v2.heap.size = v3.heap.size + 1) = False := eq_false (by have := BE.lt; omega)
  have mE1 : v2.heap.size < v3.heap.size + 1 := by have := BE.lt; omega
  have nF0 : (v2.heap.size + 1 = v3.heap.size) = False := eq_false (by have := BF.lt; omega)
  have mF0 : v2.heap.size + 1 < v3.heap.size := by have := BF.lt; omega
  have nF1 : (v2.heap.size = v3.heap.size) = False := eq_false (by have := BF.lt; omega)
  have mF1 : v2.heap.size < v3.heap.size := by have := BF.lt; omega
  refine Calls.mono (cross_c _ hD hp) ?_
  rintro e v4 ⟨v, rfl, ⟨x1, y1, z1, rfl, h1, w1⟩, hm⟩
  clear kT kY kR kE kF zR nT0 mT0 nT1 mT1 nY0 mY0 nY1 mY1 nR0 mR0 nR1 mR1 nE0 mE0 nE1 mE1 nF0 mF0 nF1 mF1
  replace BT := BT.keep hm
  replace BY := BY.keep hm
  replace BR := BR.keep hm
  replace BE := BE.keep hm
  replace BF := BF.keep hm
  replace HB := HB.call hm
  clear hm
  have kT := BT.cell
  have kY := BY.cell
  have kR := BR.cell
  have kE := BE.cell
  have kF := BF.cell
  have zR := BR.frz
  have nT0 : (w.heap.size = v4.heap.size) = False := eq_false (by have := BT.lt; omega)
  have mT0 : w.heap.size < v4.heap.size := by have := BT.lt; omega
  have nT1 : (w.heap.size = v4.heap.size + 1) = False := eq_false (by have := BT.lt; omega)
  have mT1 : w.heap.size < v4.heap.size + 1 := by have := BT.lt; omega
  have nY0 : (w.heap.size + 1 = v4.heap.size) = False := eq_false (by have := BY.lt; omega)
  have mY0 : w.heap.size + 1 < v4.heap.size := by have := BY.lt; omega
  have nY1 : (w.heap.size = v4.heap.size) = False := eq_false (by have := BY.lt; omega)
  have mY1 : w.heap.size < v4.heap.size := by have := BY.lt; omega
  have nR0 : (w.heap.size + 1 + 1 = v4.heap.size) = False := eq_false (by have := BR.lt; omega)
  have mR0 : w.heap.size + 1 + 1 < v4.heap.size := by have := BR.lt; omega
  have nR1 : (w.heap.size + 1 = v4.heap.size) = False := eq_false (by have := BR.lt; omega)
  have mR1 : w.heap.size + 1 < v4.heap.size := by have := BR.lt; omega
  have nE0 : (v2.heap.size = v4.heap.size) = False := eq_false (by have := BE.lt; omega)
  have mE0 : v2.heap.size < v4.heap.size := by have := BE.lt; omega
  have nE1 : (v2.heap.size = v4.heap.size + 1) = False := eq_false (by have := BE.lt; omega)
  have mE1 : v2.heap.size < v4.heap.size + 1 := by have := BE.lt; omega
  have nF0 : (v2.heap.size + 1 = v4.heap.size) = False := eq_false (by have := BF.lt; omega)
  have mF0 : v2.heap.size + 1 < v4.heap.size := by have := BF.lt; omega
  have nF1 : (v2.heap.size = v4.heap.size) = False := eq_false (by have := BF.lt; omega)
  have mF1 : v2.heap.size < v4.heap.size := by have := BF.lt; omega
  go_wp2_with fail
  refine Lp.settleC (fun w' => Lp.Bk w' (w.heap.size) #[.float .f64 t0, .float .f64 t1, .float .f64 t2, .float .f64 t3, .float .f64 t4, .float .f64 t5, .float .f64 t6, .float .f64 t7, .float .f64 t8] 60 ∧ Lp.Bk w' (w.heap.size + 1) #[.float .f64 r0, .float .f64 r1, .float .f64 r2, .float .f64 r3, .float .f64 r4, .float .f64 r5] 27 ∧ Lp.Bk w' (w.heap.size + 1 + 1) #[.int .i64 0, .float .f64 0, .float .f64 0, .float .f64 0] 35 ∧ Lp.Bk w' (v2.heap.size) #[.float .f64 x, .float .f64 y, .float .f64 z] 25 ∧ Lp.Bk w' (v2.heap.size + 1) #[.float .f64 p, .float .f64 q, .float .f64 r] 25 ∧ Lp.Bk w' (v4.heap.size) #[.float .f64 x1, .float .f64 y1, .float .f64 z1] 25 ∧ Cl w w') ⟨(BT).alo _, (BY).alo _, (BR).alo _, (BE).alo _, (BF).alo _, Lp.Bk.al _ _ _, (HB).alloc _⟩ ?_
  clear kT kY kR kE kF zR nT0 mT0 nT1 mT1 nY0 mY0 nY1 mY1 nR0 mR0 nR1 mR1 nE0 mE0 nE1 mE1 nF0 mF0 nF1 mF1
  clear BT BY BR BE BF HB
  rintro v5 ⟨BT, BY, BR, BE, BF, BP, HB⟩
  have kT := BT.cell
  have kY := BY.cell
  have kR := BR.cell
  have kE := BE.cell
  have kF := BF.cell
  have kP := BP.cell
  have zR := BR.frz
  have nT0 : (w.heap.size = v5.heap.size) = False := eq_false (by have := BT.lt; omega)
  have mT0 : w.heap.size < v5.heap.size := by have := BT.lt; omega
  have nT1 : (w.heap.size = v5.heap.size + 1) = False := eq_false (by have := BT.lt; omega)
  have mT1 : w.heap.size < v5.heap.size + 1 := by have := BT.lt; omega
  have nY0 : (w.heap.size + 1 = v5.heap.size) = False := eq_false (by have := BY.lt; omega)
  have mY0 : w.heap.size + 1 < v5.heap.size := by have := BY.lt; omega
  have nY1 : (w.heap.size = v5.heap.size) = False := eq_false (by have := BY.lt; omega)
  have mY1 : w.heap.size < v5.heap.size := by have := BY.lt; omega
  have nR0 : (w.heap.size + 1 + 1 = v5.heap.size) = False := eq_false (by have := BR.lt; omega)
  have mR0 : w.heap.size + 1 + 1 < v5.heap.size := by have := BR.lt; omega
  have nR1 : (w.heap.size + 1 = v5.heap.size) = False := eq_false (by have := BR.lt; omega)
  have mR1 : w.heap.size + 1 < v5.heap.size := by have := BR.lt; omega
  have nE0 : (v2.heap.size = v5.heap.size) = False := eq_false (by have := BE.lt; omega)
  have mE0 : v2.heap.size < v5.heap.size := by have := BE.lt; omega
  have nE1 : (v2.heap.size = v5.heap.size + 1) = False := eq_false (by have := BE.lt; omega)
  have mE1 : v2.heap.size < v5.heap.size + 1 := by have := BE.lt; omega
  have nF0 : (v2.heap.size + 1 = v5.heap.size) = False := eq_false (by have := BF.lt; omega)
  have mF0 : v2.heap.size + 1 < v5.heap.size := by have := BF.lt; omega
  have nF1 : (v2.heap.size = v5.heap.size) = False := eq_false (by have := BF.lt; omega)
  have mF1 : v2.heap.size < v5.heap.size := by have := BF.lt; omega
  have nP0 : (v4.heap.size = v5.heap.size) = False := eq_false (by have := BP.lt; omega)
  have mP0 : v4.heap.size < v5.heap.size := by have := BP.lt; omega
  have nP1 : (v4.heap.size = v5.heap.size + 1) = False := eq_false (by have := BP.lt; omega)
  have mP1 : v4.heap.size < v5.heap.size + 1 := by have := BP.lt; omega
  refine Calls.mono (dot_c _ hx h1) ?_
  rintro e v6 ⟨v, rfl, ⟨d, rfl, hd⟩, hm⟩
  clear kT kY kR kE kF kP zR nT0 mT0 nT1 mT1 nY0 mY0 nY1 mY1 nR0 mR0 nR1 mR1 nE0 mE0 nE1 mE1 nF0 mF0 nF1 mF1 nP0 mP0 nP1 mP1
  replace BT := BT.keep hm
  replace BY := BY.keep hm
  replace BR := BR.keep hm
  replace BE := BE.keep hm
  replace BF := BF.keep hm
  replace BP := BP.keep hm
  replace HB := HB.call hm
  clear hm
  have kT := BT.cell
  have kY := BY.cell
  have kR := BR.cell
  have kE := BE.cell
  have kF := BF.cell
  have kP := BP.cell
  have zR := BR.frz
  have nT0 : (w.heap.size = v6.heap.size) = False := eq_false (by have := BT.lt; omega)
  have mT0 : w.heap.size < v6.heap.size := by have := BT.lt; omega
  have nT1 : (w.heap.size = v6.heap.size + 1) = False := eq_false (by have := BT.lt; omega)
  have mT1 : w.heap.size < v6.heap.size + 1 := by have := BT.lt; omega
  have nY0 : (w.heap.size + 1 = v6.heap.size) = False := eq_false (by have := BY.lt; omega)
  have mY0 : w.heap.size + 1 < v6.heap.size := by have := BY.lt; omega
  have nY1 : (w.heap.size = v6.heap.size) = False := eq_false (by have := BY.lt; omega)
  have mY1 : w.heap.size < v6.heap.size := by have := BY.lt; omega
  have nR0 : (w.heap.size + 1 + 1 = v6.heap.size) = False := eq_false (by have := BR.lt; omega)
  have mR0 : w.heap.size + 1 + 1 < v6.heap.size := by have := BR.lt; omega
  have nR1 : (w.heap.size + 1 = v6.heap.size) = False := eq_false (by have := BR.lt; omega)
  have mR1 : w.heap.size + 1 < v6.heap.size := by have := BR.lt; omega
  have nE0 : (v2.heap.size = v6.heap.size) = False := eq_false (by have := BE.lt; omega)
  have mE0 : v2.heap.size < v6.heap.size := by have := BE.lt; omega
  have nE1 : (v2.heap.size = v6.heap.size + 1) = False := eq_false (by have := BE.lt; omega)
  have mE1 : v2.heap.size < v6.heap.size + 1 := by have := BE.lt; omega
  have nF0 : (v2.heap.size + 1 = v6.heap.size) = False := eq_false (by have := BF.lt; omega)
  have mF0 : v2.heap.size + 1 < v6.heap.size := by have := BF.lt; omega
  have nF1 : (v2.heap.size = v6.heap.size) = False := eq_false (by have := BF.lt; omega)
  have mF1 : v2.heap.size < v6.heap.size := by have := BF.lt; omega
  have nP0 : (v4.heap.size = v6.heap.size) = False := eq_false (by have := BP.lt; omega)
  have mP0 : v4.heap.size < v6.heap.size := by have := BP.lt; omega
  have nP1 : (v4.heap.size = v6.heap.size + 1) = False := eq_false (by have := BP.lt; omega)
  have mP1 : v4.heap.size < v6.heap.size + 1 := by have := BP.lt; omega
  go_wp2_with fail
  refine upon_div (Sm.refl _) hd.sm ?_
  intro i ni hi
  go_wp2_with fail
  refine Lp.settleC (fun w' => Lp.Bk w' (w.heap.size) #[.float .f64 t0, .float .f64 t1, .float .f64 t2, .float .f64 t3, .float .f64 t4, .float .f64 t5, .float .f64 t6, .float .f64 t7, .float .f64 t8] 60 ∧ Lp.Bk w' (w.heap.size + 1) #[.float .f64 r0, .float .f64 r1, .float .f64 r2, .float .f64 r3, .float .f64 r4, .float .f64 r5] 27 ∧ Lp.Bk w' (w.heap.size + 1 + 1) #[.int .i64 0, .float .f64 0, .float .f64 0, .float .f64 0] 35 ∧ Lp.Bk w' (v2.heap.size) #[.float .f64 x, .float .f64 y, .float .f64 z] 25 ∧ Lp.Bk w' (v2.heap.size + 1) #[.float .f64 p, .float .f64 q, .float .f64 r] 25 ∧ Lp.Bk w' (v4.heap.size) #[.float .f64 x1, .float .f64 y1, .float .f64 z1] 25 ∧ Cl w w') ⟨BT.dr _, BY.dr _, BR.dr _, BE.dr _, BF.dr _, BP.dr _, HB.drewN _⟩ ?_
  clear kT kY kR kE kF kP zR nT0 mT0 nT1 mT1 nY0 mY0 nY1 mY1 nR0 mR0 nR1 mR1 nE0 mE0 nE1 mE1 nF0 mF0 nF1 mF1 nP0 mP0 nP1 mP1
  clear BT BY BR BE BF BP HB
  rintro v7 ⟨BT, BY, BR, BE, BF, BP, HB⟩
  have kT := BT.cell
  have kY := BY.cell
  have kR := BR.cell
  have kE := BE.cell
  have kF := BF.cell
  have kP := BP.cell
  have zR := BR.frz
  have nT0 : (w.heap.size = v7.heap.size) = False := eq_false (by have := BT.lt; omega)
  have mT0 : w.heap.size < v7.heap.size := by have := BT.lt; omega
  have nT1 : (w.heap.size = v7.heap.size + 1) = False := eq_false (by have := BT.lt; omega)
  have mT1 : w.heap.size < v7.heap.size + 1 := by have := BT.lt; omega
  have nY0 : (w.heap.size + 1 = v7.heap.size) = False := eq_false (by have := BY.lt; omega)
  have mY0 : w.heap.size + 1 < v7.heap.size := by have := BY.lt; omega
  have nY1 : (w.heap.size = v7.heap.size) = False := eq_false (by have := BY.lt; omega)
  have mY1 : w.heap.size < v7.heap.size := by have := BY.lt; omega
  have nR0 : (w.heap.size + 1 + 1 = v7.heap.size) = False := eq_false (by have := BR.lt; omega)
  have mR0 : w.heap.size + 1 + 1 < v7.heap.size := by have := BR.lt; omega
  have nR1 : (w.heap.size + 1 = v7.heap.size) = False := eq_false (by have := BR.lt; omega)
  have mR1 : w.heap.size + 1 < v7.heap.size := by have := BR.lt; omega
  have nE0 : (v2.heap.size = v7.heap.size) = False := eq_false (by have := BE.lt; omega)
  have mE0 : v2.heap.size < v7.heap.size := by have := BE.lt; omega
  have nE1 : (v2.heap.size = v7.heap.size + 1) = False := eq_false (by have := BE.lt; omega)
  have mE1 : v2.heap.size < v7.heap.size + 1 := by have := BE.lt; omega
  have nF0 : (v2.heap.size + 1 = v7.heap.size) = False := eq_false (by have := BF.lt; omega)
  have mF0 : v2.heap.size + 1 < v7.heap.size := by have := BF.lt; omega
  have nF1 : (v2.heap.size = v7.heap.size) = False := eq_false (by have := BF.lt; omega)
  have mF1 : v2.heap.size < v7.heap.size := by have := BF.lt; omega
  have nP0 : (v4.heap.size = v7.heap.size) = False := eq_false (by have := BP.lt; omega)
  have mP0 : v4.heap.size < v7.heap.size := by have := BP.lt; omega
  have nP1 : (v4.heap.size = v7.heap.size + 1) = False := eq_false (by have := BP.lt; omega)
  have mP1 : v4.heap.size < v7.heap.size + 1 := by have := BP.lt; omega
  refine Calls.mono (sub_c _ hO hA) ?_
  rintro e v8 ⟨v, rfl, ⟨x2, y2, z2, rfl, h2, w2⟩, hm⟩
  clear kT kY kR kE kF kP zR nT0 mT0 nT1 mT1 nY0 mY0 nY1 mY1 nR0 mR0 nR1 mR1 nE0 mE0 nE1 mE1 nF0 mF0 nF1 mF1 nP0 mP0 nP1 mP1
  replace BT := BT.keep hm
  replace BY := BY.keep hm
  replace BR := BR.keep hm
  replace BE := BE.keep hm
  replace BF := BF.keep hm
  replace BP := BP.keep hm
  replace HB := HB.call hm
  clear hm
  have kT := BT.cell
  have kY := BY.cell
  have kR := BR.cell
  have kE := BE.cell
  have kF := BF.cell
  have kP := BP.cell
  have zR := BR.frz
  have nT0 : (w.heap.size = v8.heap.size) = False := eq_false (by have := BT.lt; omega)
  have mT0 : w.heap.size < v8.heap.size := by have := BT.lt; omega
  have nT1 : (w.heap.size = v8.heap.size + 1) = False := eq_false (by have := BT.lt; omega)
  have mT1 : w.heap.size < v8.heap.size + 1 := by have := BT.lt; omega
  have nY0 : (w.heap.size + 1 = v8.heap.size) = False := eq_false (by have := BY.lt; omega)
  have mY0 : w.heap.size + 1 < v8.heap.size := by have := BY.lt; omega
  have nY1 : (w.heap.size = v8.heap.size) = False := eq_false (by have := BY.lt; omega)
  have mY1 : w.heap.size < v8.heap.size := by have := BY.lt; omega
  have nR0 : (w.heap.size + 1 + 1 = v8.heap.size) = False := eq_false (by have := BR.lt; omega)
  have mR0 : w.heap.size + 1 + 1 < v8.heap.size := by have := BR.lt; omega
  have nR1 : (w.heap.size + 1 = v8.heap.size) = False := eq_false (by have := BR.lt; omega)
  have mR1 : w.heap.size + 1 < v8.heap.size := by have := BR.lt; omega
  have nE0 : (v2.heap.size = v8.heap.size) = False := eq_false (by have := BE.lt; omega)
  have mE0 : v2.heap.size < v8.heap.size := by have := BE.lt; omega
  have nE1 : (v2.heap.size = v8.heap.size + 1) = False := eq_false (by have := BE.lt; omega)
  have mE1 : v2.heap.size < v8.heap.size + 1 := by have := BE.lt; omega
  have nF0 : (v2.heap.size + 1 = v8.heap.size) = False := eq_false (by have := BF.lt; omega)
  have mF0 : v2.heap.size + 1 < v8.heap.size := by have := BF.lt; omega
  have nF1 : (v2.heap.size = v8.heap.size) = False := eq_false (by have := BF.lt; omega)
  have mF1 : v2.heap.size < v8.heap.size := by have := BF.lt; omega
  have nP0 : (v4.heap.size = v8.heap.size) = False := eq_false (by have := BP.lt; omega)
  have mP0 : v4.heap.size < v8.heap.size := by have := BP.lt; omega
  have nP1 : (v4.heap.size = v8.heap.size + 1) = False := eq_false (by have := BP.lt; omega)
  have mP1 : v4.heap.size < v8.heap.size + 1 := by have := BP.lt; omega
  go_wp2_with fail
  refine Lp.settleC (fun w' => Lp.Bk w' (w.heap.size) #[.float .f64 t0, .float .f64 t1, .float .f64 t2, .float .f64 t3, .float .f64 t4, .float .f64 t5, .float .f64 t6, .float .f64 t7, .float .f64 t8] 60 ∧ Lp.Bk w' (w.heap.size + 1) #[.float .f64 r0, .float .f64 r1, .float .f64 r2, .float .f64 r3, .float .f64 r4, .float .f64 r5] 27 ∧ Lp.Bk w' (w.heap.size + 1 + 1) #[.int .i64 0, .float .f64 0, .float .f64 0, .float .f64 0] 35 ∧ Lp.Bk w' (v2.heap.size) #[.float .f64 x, .float .f64 y, .float .f64 z] 25 ∧ Lp.Bk w' (v2.heap.size + 1) #[.float .f64 p, .float .f64 q, .float .f64 r] 25 ∧ Lp.Bk w' (v4.heap.size) #[.float .f64 x1, .float .f64 y1, .float .f64 z1] 25 ∧ Lp.Bk w' (v8.heap.size) #[.float .f64 x2, .float .f64 y2, .float .f64 z2] 25 ∧ Cl w w') ⟨(BT).alo _, (BY).alo _, (BR).alo _, (BE).alo _, (BF).alo _, (BP).alo _, Lp.Bk.al _ _ _, (HB).alloc _⟩ ?_
  clear kT kY kR kE kF kP zR nT0 mT0 nT1 mT1 nY0 mY0 nY1 mY1 nR0 mR0 nR1 mR1 nE0 mE0 nE1 mE1 nF0 mF0 nF1 mF1 nP0 mP0 nP1 mP1
  clear BT BY BR BE BF BP HB
  rintro v9 ⟨BT, BY, BR, BE, BF, BP, BS, HB⟩
  have kT := BT.cell
  have kY := BY.cell
  have kR := BR.cell
  have kE := BE.cell
  have kF := BF.cell
  have kP := BP.cell
  have kS := BS.cell
  have zR := BR.frz
  have nT0 : (w.heap.size = v9.heap.size) = False := eq_false (by have := BT.lt; omega)
  have mT0 : w.heap.size < v9.heap.size := by have := BT.lt; omega
  have nT1 : (w.heap.size = v9.heap.size + 1) = False := eq_false (by have := BT.lt; omega)
  have mT1 : w.heap.size < v9.heap.size + 1 := by have := BT.lt; omega
  have nY0 : (w.heap.size + 1 = v9.heap.size) = False := eq_false (by have := BY.lt; omega)
  have mY0 : w.heap.size + 1 < v9.heap.size := by have := BY.lt; omega
  have nY1 : (w.heap.size = v9.heap.size) = False := eq_false (by have := BY.lt; omega)
  have mY1 : w.heap.size < v9.heap.size := by have := BY.lt; omega
  have nR0 : (w.heap.size + 1 + 1 = v9.heap.size) = False := eq_false (by have := BR.lt; omega)
  have mR0 : w.heap.size + 1 + 1 < v9.heap.size := by have := BR.lt; omega
  have nR1 : (w.heap.size + 1 = v9.heap.size) = False := eq_false (by have := BR.lt; omega)
  have mR1 : w.heap.size + 1 < v9.heap.size := by have := BR.lt; omega
  have nE0 : (v2.heap.size = v9.heap.size) = False := eq_false (by have := BE.lt; omega)
  have mE0 : v2.heap.size < v9.heap.size := by have := BE.lt; omega
  have nE1 : (v2.heap.size = v9.heap.size + 1) = False := eq_false (by have := BE.lt; omega)
  have mE1 : v2.heap.size < v9.heap.size + 1 := by have := BE.lt; omega
  have nF0 : (v2.heap.size + 1 = v9.heap.size) = False := eq_false (by have := BF.lt; omega)
  have mF0 : v2.heap.size + 1 < v9.heap.size := by have := BF.lt; omega
  have nF1 : (v2.heap.size = v9.heap.size) = False := eq_false (by have := BF.lt; omega)
  have mF1 : v2.heap.size < v9.heap.size := by have := BF.lt; omega
  have nP0 : (v4.heap.size = v9.heap.size) = False := eq_false (by have := BP.lt; omega)
  have mP0 : v4.heap.size < v9.heap.size := by have := BP.lt; omega
  have nP1 : (v4.heap.size = v9.heap.size + 1) = False := eq_false (by have := BP.lt; omega)
  have mP1 : v4.heap.size < v9.heap.size + 1 := by have := BP.lt; omega
  have nS0 : (v8.heap.size = v9.heap.size) = False := eq_false (by have := BS.lt; omega)
  have mS0 : v8.heap.size < v9.heap.size := by have := BS.lt; omega
  have nS1 : (v8.heap.size = v9.heap.size + 1) = False := eq_false (by have := BS.lt; omega)
  have mS1 : v8.heap.size < v9.heap.size + 1 := by have := BS.lt; omega
  refine Calls.mono (cross_c _ h2 hx) ?_
  rintro e v10 ⟨v, rfl, ⟨x3, y3, z3, rfl, h3, w3⟩, hm⟩
  clear kT kY kR kE kF kP kS zR nT0 mT0 nT1 mT1 nY0 mY0 nY1 mY1 nR0 mR0 nR1 mR1 nE0 mE0 nE1 mE1 nF0 mF0 nF1 mF1 nP0 mP0 nP1 mP1 nS0 mS0 nS1 mS1
  replace BT := BT.keep hm
  replace BY := BY.keep hm
  replace BR := BR.keep hm
  replace BE := BE.keep hm
  replace BF := BF.keep hm
  replace BP := BP.keep hm
  replace BS := BS.keep hm
  replace HB := HB.call hm
  clear hm
  have kT := BT.cell
  have kY := BY.cell
  have kR := BR.cell
  have kE := BE.cell
  have kF := BF.cell
  have kP := BP.cell
  have kS := BS.cell
  have zR := BR.frz
  have nT0 : (w.heap.size = v10.heap.size) = False := eq_false (by have := BT.lt; omega)
  have mT0 : w.heap.size < v10.heap.size := by have := BT.lt; omega
  have nT1 : (w.heap.size = v10.heap.size + 1) = False := eq_false (by have := BT.lt; omega)
  have mT1 : w.heap.size < v10.heap.size + 1 := by have := BT.lt; omega
  have nY0 : (w.heap.size + 1 = v10.heap.size) = False := eq_false (by have := BY.lt; omega)
  have mY0 : w.heap.size + 1 < v10.heap.size := by have := BY.lt; omega
  have nY1 : (w.heap.size = v10.heap.size) = False := eq_false (by have := BY.lt; omega)
  have mY1 : w.heap.size < v10.heap.size := by have := BY.lt; omega
  have nR0 : (w.heap.size + 1 + 1 = v10.heap.size) = False := eq_false (by have := BR.lt; omega)
  have mR0 : w.heap.size + 1 + 1 < v10.heap.size := by have := BR.lt; omega
  have nR1 : (w.heap.size + 1 = v10.heap.size) = False := eq_false (by have := BR.lt; omega)
  have mR1 : w.heap.size + 1 < v10.heap.size := by have := BR.lt; omega
  have nE0 : (v2.heap.size = v10.heap.size) = False := eq_false (by have := BE.lt; omega)
  have mE0 : v2.heap.size < v10.heap.size := by have := BE.lt; omega
  have nE1 : (v2.heap.size = v10.heap.size + 1) = False := eq_false (by have := BE.lt; omega)
  have mE1 : v2.heap.size < v10.heap.size + 1 := by have := BE.lt; omega
  have nF0 : (v2.heap.size + 1 = v10.heap.size) = False := eq_false (by have := BF.lt; omega)
  have mF0 : v2.heap.size + 1 < v10.heap.size := by have := BF.lt; omega
  have nF1 : (v2.heap.size = v10.heap.size) = False := eq_false (by have := BF.lt; omega)
  have mF1 : v2.heap.size < v10.heap.size := by have := BF.lt; omega
  have nP0 : (v4.heap.size = v10.heap.size) = False := eq_false (by have := BP.lt; omega)
  have mP0 : v4.heap.size < v10.heap.size := by have := BP.lt; omega
  have nP1 : (v4.heap.size = v10.heap.size + 1) = False := eq_false (by have := BP.lt; omega)
  have mP1 : v4.heap.size < v10.heap.size + 1 := by have := BP.lt; omega
  have nS0 : (v8.heap.size = v10.heap.size) = False := eq_false (by have := BS.lt; omega)
  have mS0 : v8.heap.size < v10.heap.size := by have := BS.lt; omega
  have nS1 : (v8.heap.size = v10.heap.size + 1) = False := eq_false (by have := BS.lt; omega)
  have mS1 : v8.heap.size < v10.heap.size + 1 := by have := BS.lt; omega
  go_wp2_with fail
  refine Lp.settle (fun w' => Lp.Bk w' (w.heap.size) #[.float .f64 t0, .float .f64 t1, .float .f64 t2, .float .f64 t3, .float .f64 t4, .float .f64 t5, .float .f64 t6, .float .f64 t7, .float .f64 t8] 60 ∧ Lp.Bk w' (w.heap.size + 1) #[.float .f64 r0, .float .f64 r1, .float .f64 r2, .float .f64 r3, .float .f64 r4, .float .f64 r5] 27 ∧ Lp.Bk w' (w.heap.size + 1 + 1) #[.int .i64 0, .float .f64 0, .float .f64 0, .float .f64 0] 35 ∧ Lp.Bk w' (v2.heap.size) #[.float .f64 x, .float .f64 y, .float .f64 z] 25 ∧ Lp.Bk w' (v2.heap.size + 1) #[.float .f64 p, .float .f64 q, .float .f64 r] 25 ∧ Lp.Bk w' (v4.heap.size) #[.float .f64 x1, .float .f64 y1, .float .f64 z1] 25 ∧ Lp.Bk w' (v8.heap.size) #[.float .f64 x2, .float .f64 y2, .float .f64 z2] 25 ∧ Lp.Bk w' (v10.heap.size) #[.float .f64 x3, .float .f64 y3, .float .f64 z3] 25 ∧ Cl w w') ⟨(BT).alo _, (BY).alo _, (BR).alo _, (BE).alo _, (BF).alo _, (BP).alo _, (BS).alo _, Lp.Bk.al _ _ _, (HB).alloc _⟩ ?_
  clear kT kY kR kE kF kP kS zR nT0 mT0 nT1 mT1 nY0 mY0 nY1 mY1 nR0 mR0 nR1 mR1 nE0 mE0 nE1 mE1 nF0 mF0 nF1 mF1 nP0 mP0 nP1 mP1 nS0 mS0 nS1 mS1
  clear BT BY BR BE BF BP BS HB
  rintro v11 ⟨BT, BY, BR, BE, BF, BP, BS, BQ, HB⟩
  have kT := BT.cell
  have kY := BY.cell
  have kR := BR.cell
  have kE := BE.cell
  have kF := BF.cell
  have kP := BP.cell
  have kS := BS.cell
  have kQ := BQ.cell
  have zR := BR.frz
  have nT0 : (w.heap.size = v11.heap.size) = False := eq_false (by have := BT.lt; omega)
  have mT0 : w.heap.size < v11.heap.size := by have := BT.lt; omega
  have nT1 : (w.heap.size = v11.heap.size + 1) = False := eq_false (by have := BT.lt; omega)
  have mT1 : w.heap.size < v11.heap.size + 1 := by have := BT.lt; omega
  have nY0 : (w.heap.size + 1 = v11.heap.size) = False := eq_false (by have := BY.lt; omega)
  have mY0 : w.heap.size + 1 < v11.heap.size := by have := BY.lt; omega
  have nY1 : (w.heap.size = v11.heap.size) = False := eq_false (by have := BY.lt; omega)
  have mY1 : w.heap.size < v11.heap.size := by have := BY.lt; omega
  have nR0 : (w.heap.size + 1 + 1 = v11.heap.size) = False := eq_false (by have := BR.lt; omega)
  have mR0 : w.heap.size + 1 + 1 < v11.heap.size := by have := BR.lt; omega
  have nR1 : (w.heap.size + 1 = v11.heap.size) = False := eq_false (by have := BR.lt; omega)
  have mR1 : w.heap.size + 1 < v11.heap.size := by have := BR.lt; omega
  have nE0 : (v2.heap.size = v11.heap.size) = False := eq_false (by have := BE.lt; omega)
  have mE0 : v2.heap.size < v11.heap.size := by have := BE.lt; omega
  have nE1 : (v2.heap.size = v11.heap.size + 1) = False := eq_false (by have := BE.lt; omega)
  have mE1 : v2.heap.size < v11.heap.size + 1 := by have := BE.lt; omega
  have nF0 : (v2.heap.size + 1 = v11.heap.size) = False := eq_false (by have := BF.lt; omega)
  have mF0 : v2.heap.size + 1 < v11.heap.size := by have := BF.lt; omega
  have nF1 : (v2.heap.size = v11.heap.size) = False := eq_false (by have := BF.lt; omega)
  have mF1 : v2.heap.size < v11.heap.size := by have := BF.lt; omega
  have nP0 : (v4.heap.size = v11.heap.size) = False := eq_false (by have := BP.lt; omega)
  have mP0 : v4.heap.size < v11.heap.size := by have := BP.lt; omega
  have nP1 : (v4.heap.size = v11.heap.size + 1) = False := eq_false (by have := BP.lt; omega)
  have mP1 : v4.heap.size < v11.heap.size + 1 := by have := BP.lt; omega
  have nS0 : (v8.heap.size = v11.heap.size) = False := eq_false (by have := BS.lt; omega)
  have mS0 : v8.heap.size < v11.heap.size := by have := BS.lt; omega
  have nS1 : (v8.heap.size = v11.heap.size + 1) = False := eq_false (by have := BS.lt; omega)
  have mS1 : v8.heap.size < v11.heap.size + 1 := by have := BS.lt; omega
  have nQ0 : (v10.heap.size = v11.heap.size) = False := eq_false (by have := BQ.lt; omega)
  have mQ0 : v10.heap.size < v11.heap.size := by have := BQ.lt; omega
  have nQ1 : (v10.heap.size = v11.heap.size + 1) = False := eq_false (by have := BQ.lt; omega)
  have mQ1 : v10.heap.size < v11.heap.size + 1 := by have := BQ.lt; omega
  apply Lp.wp_region_loose _ _ 17 (by kernel_rfl) (by kernel_rfl) (by kernel_rfl) (Below.refl _ _)
  apply Lp.facts
  · intro w1 hw
    exact And.intro (BT.cl hw).cell (And.intro (BY.cl hw).cell (And.intro (BR.cl hw).cell (And.intro (BE.cl hw).cell (And.intro (BF.cl hw).cell (And.intro (BP.cl hw).cell (And.intro (BS.cl hw).cell ((BQ.cl hw).cell)))))))
  intro HF
  iterate 2 (
    apply Lp.one ?_ rfl
    · intro w hw
      obtain ⟨k0, k1, k2, k3, k4, k5, k6, k7⟩ := HF.out _ hw
      go_simp
      exact rfl
    intro K hK
    go_simp
    refine hK.out _ ?_
    clear hK K)
  apply Lp.any rfl
  · intro w hw
    go_simp
    exact Lp.ret (dot_c _ hp h3)
  intro K hK
  rintro v ⟨d1, rfl, k1⟩
  go_simp
  refine hK.out _ ?_
  clear hK K
  iterate 1 (
    apply Lp.one ?_ rfl
    · intro w hw
      obtain ⟨k0, k1, k2, k3, k4, k5, k6, k7⟩ := HF.out _ hw
      go_simp
      exact rfl
    intro K hK
    go_simp
    refine hK.out _ ?_
    clear hK K)
  apply Lp.any rfl
  · intro w hw
    go_simp
    exact Lp.ret (tproduct_any k1.sm hi.sm _)
  intro K hK
  rintro v ⟨m1, rfl, l1⟩
  go_simp
  refine hK.out _ ?_
  clear hK K
  iterate 2 (
    apply Lp.one ?_ rfl
    · intro w hw
      obtain ⟨k0, k1, k2, k3, k4, k5, k6, k7⟩ := HF.out _ hw
      go_simp
      exact rfl
    intro K hK
    go_simp
    refine hK.out _ ?_
    clear hK K)
  apply Lp.any rfl
  · intro w hw
    go_simp
    exact Lp.ret (dot_c _ h2 h1)
  intro K hK
  rintro v ⟨d2, rfl, k2⟩
  go_simp
  refine hK.out _ ?_
  clear hK K
  iterate 1 (
    apply Lp.one ?_ rfl
    · intro w hw
      obtain ⟨k0, k1, k2, k3, k4, k5, k6, k7⟩ := HF.out _ hw
      go_simp
      exact rfl
    intro K hK
    go_simp
    refine hK.out _ ?_
    clear hK K)
  apply Lp.any rfl
  · intro w hw
    go_simp
    exact Lp.ret (tproduct_any k2.sm hi.sm _)
  intro K hK
  rintro v ⟨m2, rfl, l2⟩
  go_simp
  refine hK.out _ ?_
  clear hK K
  iterate 3 (
    apply Lp.one ?_ rfl
    · intro w hw
      obtain ⟨k0, k1, k2, k3, k4, k5, k6, k7⟩ := HF.out _ hw
      go_simp
      exact rfl
    intro K hK
    go_simp
    refine hK.out _ ?_
    clear hK K)
  apply Lp.any rfl
  · intro w hw
    go_simp
    exact Lp.ret (dot_c _ hD h3)
  intro K hK
  rintro v ⟨d3, rfl, k3⟩
  go_simp
  refine hK.out _ ?_
  clear hK K
  iterate 1 (
    apply Lp.one ?_ rfl
    · intro w hw
      obtain ⟨k0, k1, k2, k3, k4, k5, k6, k7⟩ := HF.out _ hw
      go_simp
      exact rfl
    intro K hK
    go_simp
    refine hK.out _ ?_
    clear hK K)
  apply Lp.any rfl
  · intro w hw
    go_simp
    exact Lp.ret (tproduct_any k3.sm hi.sm _)
  intro K hK
  rintro v ⟨m3, rfl, l3⟩
  go_simp
  refine hK.out _ ?_
  clear hK K
  iterate 1 (
    apply Lp.one ?_ rfl
    · intro w hw
      obtain ⟨k0, k1, k2, k3, k4, k5, k6, k7⟩ := HF.out _ hw
      go_simp
      exact rfl
    intro K hK
    go_simp
    refine hK.out _ ?_
    clear hK K)
  rotate_left
  exact []
  intro v12 hm
  clear kT kY kR kE kF kP kS kQ zR nT0 mT0 nT1 mT1 nY0 mY0 nY1 mY1 nR0 mR0 nR1 mR1 nE0 mE0 nE1 mE1 nF0 mF0 nF1 mF1 nP0 mP0 nP1 mP1 nS0 mS0 nS1 mS1 nQ0 mQ0 nQ1 mQ1
  replace BT := BT.keep hm
  replace BY := BY.keep hm
  replace BR := BR.keep hm
  replace BE := BE.keep hm
  replace BF := BF.keep hm
  replace BP := BP.keep hm
  replace BS := BS.keep hm
  replace BQ := BQ.keep hm
  replace HB := HB.call hm
  clear hm
  have kT := BT.cell
  have kY := BY.cell
  have kR := BR.cell
  have kE := BE.cell
  have kF := BF.cell
  have kP := BP.cell
  have kS := BS.cell
  have kQ := BQ.cell
  have zR := BR.frz
  have nT0 : (w.heap.size = v12.heap.size) = False := eq_false (by have := BT.lt; omega)
  have mT0 : w.heap.size < v12.heap.size := by have := BT.lt; omega
  have nT1 : (w.heap.size = v12.heap.size + 1) = False := eq_false (by have := BT.lt; omega)
  have mT1 : w.heap.size < v12.heap.size + 1 := by have := BT.lt; omega
  have nY0 : (w.heap.size + 1 = v12.heap.size) = False := eq_false (by have := BY.lt; omega)
  have mY0 : w.heap.size + 1 < v12.heap.size := by have := BY.lt; omega
  have nY1 : (w.heap.size = v12.heap.size) = False := eq_false (by have := BY.lt; omega)
  have mY1 : w.heap.size < v12.heap.size := by have := BY.lt; omega
  have nR0 : (w.heap.size + 1 + 1 = v12.heap.size) = False := eq_false (by have := BR.lt; omega)
  have mR0 : w.heap.size + 1 + 1 < v12.heap.size := by have := BR.lt; omega
  have nR1 : (w.heap.size + 1 = v12.heap.size) = False := eq_false (by have := BR.lt; omega)
  have mR1 : w.heap.size + 1 < v12.heap.size := by have := BR.lt; omega
  have nE0 : (v2.heap.size = v12.heap.size) = False := eq_false (by have := BE.lt; omega)
  have mE0 : v2.heap.size < v12.heap.size := by have := BE.lt; omega
  have nE1 : (v2.heap.size = v12.heap.size + 1) = False := eq_false (by have := BE.lt; omega)
  have mE1 : v2.heap.size < v12.heap.size + 1 := by have := BE.lt; omega
  have nF0 : (v2.heap.size + 1 = v12.heap.size) = False := eq_false (by have := BF.lt; omega)
  have mF0 : v2.heap.size + 1 < v12.heap.size := by have := BF.lt; omega
  have nF1 : (v2.heap.size = v12.heap.size) = False := eq_false (by have := BF.lt; omega)
  have mF1 : v2.heap.size < v12.heap.size := by have := BF.lt; omega
  have nP0 : (v4.heap.size = v12.heap.size) = False := eq_false (by have := BP.lt; omega)
  have mP0 : v4.heap.size < v12.heap.size := by have := BP.lt; omega
  have nP1 : (v4.heap.size = v12.heap.size + 1) = False := eq_false (by have := BP.lt; omega)
  have mP1 : v4.heap.size < v12.heap.size + 1 := by have := BP.lt; omega
  have nS0 : (v8.heap.size = v12.heap.size) = False := eq_false (by have := BS.lt; omega)
  have mS0 : v8.heap.size < v12.heap.size := by have := BS.lt; omega
  have nS1 : (v8.heap.size = v12.heap.size + 1) = False := eq_false (by have := BS.lt; omega)
  have mS1 : v8.heap.size < v12.heap.size + 1 := by have := BS.lt; omega
  have nQ0 : (v10.heap.size = v12.heap.size) = False := eq_false (by have := BQ.lt; omega)
  have mQ0 : v10.heap.size < v12.heap.size := by have := BQ.lt; omega
  have nQ1 : (v10.heap.size = v12.heap.size + 1) = False := eq_false (by have := BQ.lt; omega)
  have mQ1 : v10.heap.size < v12.heap.size + 1 := by have := BQ.lt; omega
  go_wp2_with fail
  refine bodyPost_ret (v := .agg #[.int .i64 0, .float .f64 m1, .float .f64 m2, .float .f64 m3]) (by simp [results, go_sem, kR]) rfl ⟨_, rfl, ⟨m1, m2, m3, rfl, ⟨l1.sm, l2.sm, l3.sm⟩, ⟨l1.wd, l2.wd, l3.wd⟩⟩, ?_⟩
  repeat (refine Below.setCell ?_ (by dsimp only; omega) _)
  exact HB

set_option maxRecDepth 100000 in
set_option maxHeartbeats 1000000 in
theorem miss_any  (w : World) : Ret Tryz.prog 67 #[] w (fun v => v = .agg #[.int .i64 (-1), .float .f64 0, .float .f64 0, .float .f64 0]) := by
  unfold Ret
  go_enter Tryz.func67, Tryz.ntmps67
  go_wp2_with fail
  refine bodyPost_ret (v := .agg #[.int .i64 (-1), .float .f64 0, .float .f64 0, .float .f64 0]) (by simp [results, go_sem]) rfl ⟨_, rfl, rfl, ?_⟩
  repeat (refine Below.setCell ?_ (by dsimp only; omega) _)
  exact (Below.refl _ _).alloc (Nat.le_refl _) _

end Go.Proofs.YtiblmojdjnfoaaaGreat
