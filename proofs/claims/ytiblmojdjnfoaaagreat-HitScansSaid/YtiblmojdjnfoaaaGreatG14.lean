/- What goes through a box goes through one that has it: the mathematics, of six numbers a box. What a ray meets first, by lists: the one that is ahead; what is left to ask; what a box tells of those in it. Same. Rows that a call owns: append, to the same block or to a new one; all blocks but one as they were. Rows of elements of k cells in memory: read at any place, grown by one, cut short. Bins hold what they ought to; so both ways to reckon the cheapest one tell the same, and a list whose middles are apart is parted by it. The structs of floats and numbers: as cells, as values, in rows. -/
import Derived.Laws.AppendOwn
import Derived.Laws.OwnMore
import Derived.ArgAppend
import Derived.Deep.RegionLaw
import Derived.Deep.LoopGhost
import Derived.Test.YtiblmojdjnfoaaaGreatG11
import Derived.Test.YtiblmojdjnfoaaaGreatG8
import Derived.Test.YtiblmojdjnfoaaaGreatG9
import Derived.Test.YtiblmojdjnfoaaaGreatG13
import Derived.Test.YtiblmojdjnfoaaaGreatG5
import Derived.Test.YtiblmojdjnfoaaaGreatG7
import Derived.Test.YtiblmojdjnfoaaaGreatRows
namespace Go.Proofs.YtiblmojdjnfoaaaGreat
open Go.RowKit Fl

theorem num_of_numB {x : Nat} (h : numB x = true) : Num x := by
  unfold numB at h
  simp only [Bool.and_eq_true, Bool.not_eq_true'] at h
  cases k : F64.read x with
  | nan s f => unfold isN at h; rw [k] at h; exact absurd h.1 (by simp [Ieee.Datum.isNaN])
  | infinity s => rw [is_inf k] at h; exact absurd h.2 (by decide)
  | number s m e => exact ⟨s, m, e, k⟩
theorem not_nan_of_num {x : Nat} (h : Num x) : isN x = false := by
  obtain ⟨s, m, e, k⟩ := h
  unfold isN; rw [k]; rfl
theorem low_Num {a b : Nat} (ha : Num a) (hb : Num b) : Num (lowF a b) := by
  rcases low_or a b with h | h
  · rw [h]; exact ha
  · rw [h.1]; exact hb
theorem high_Num {a b : Nat} (ha : Num a) (hb : Num b) : Num (highF a b) := by
  rcases high_or a b with h | h
  · rw [h]; exact ha
  · rw [h.1]; exact hb
theorem low_val {a b : Nat} (ha : Num a) (hb : Num b) : val (lowF a b) ≤ val b := val_of_leB (low_Num ha hb) hb (low_ge2 (not_nan_of_num ha) (not_nan_of_num hb))
theorem high_val {a b : Nat} (ha : Num a) (hb : Num b) : val b ≤ val (highF a b) := val_of_leB hb (high_Num ha hb) (high_ge2 (not_nan_of_num ha) (not_nan_of_num hb))
theorem not_lt_low {a b : Nat} (ha : Num a) (hb : Num b) : ltB b (lowF a b) = false := by
  unfold ltB
  rw [lt_val hb (low_Num ha hb)]
  exact decide_eq_false (fun h => absurd (low_val ha hb) (Rat.not_le.2 h))
theorem not_gt_high {a b : Nat} (ha : Num a) (hb : Num b) : gtB b (highF a b) = false := by
  unfold gtB
  rw [gt_val hb (high_Num ha hb)]
  exact decide_eq_false (fun h => absurd (high_val ha hb) (Rat.not_le.2 h))

/-- Six numbers. -/
structure Six (a0 a1 a2 a3 a4 a5 : Nat) : Prop where
  h0 : Num a0
  h1 : Num a1
  h2 : Num a2
  h3 : Num a3
  h4 : Num a4
  h5 : Num a5

theorem six_of {a0 a1 a2 a3 a4 a5 : Nat} (h : (numB a0 && numB a1 && numB a2) = true) (k : (numB a3 && numB a4 && numB a5) = true) : Six a0 a1 a2 a3 a4 a5 := by
  simp only [Bool.and_eq_true] at h k
  exact ⟨num_of_numB h.1.1, num_of_numB h.1.2, num_of_numB h.2, num_of_numB k.1.1, num_of_numB k.1.2, num_of_numB k.2⟩

theorem part_all {p : Nat → Prop} {x y z : Nat} (hx : p x) (hy : p y) (hz : p z) (i : Int) : p (partF x y z i) := by
  unfold partF
  split
  · exact hx
  · split
    · exact hy
    · exact hz
theorem part_rel {x y z x' y' z' : Nat} (p : Nat → Nat → Prop) (hx : p x x') (hy : p y y') (hz : p z z') (i : Int) : p (partF x y z i) (partF x' y' z' i) := by
  unfold partF
  split
  · exact hx
  · split
    · exact hy
    · exact hz

theorem within_has {a0 a1 a2 a3 a4 a5 b0 b1 b2 b3 b4 b5 : Nat} (ha : Six a0 a1 a2 a3 a4 a5) (hb : Six b0 b1 b2 b3 b4 b5) : hasF (lowF a0 b0) (lowF a1 b1) (lowF a2 b2) (highF a3 b3) (highF a4 b4) (highF a5 b5) b0 b1 b2 b3 b4 b5 = true := by
  rw [has_eq, not_lt_low ha.h0 hb.h0, not_lt_low ha.h1 hb.h1, not_lt_low ha.h2 hb.h2, not_gt_high ha.h3 hb.h3, not_gt_high ha.h4 hb.h4, not_gt_high ha.h5 hb.h5]
  rfl

theorem within_goes {a0 a1 a2 a3 a4 a5 b0 b1 b2 b3 b4 b5 r0 r1 r2 r3 r4 r5 : Nat} {s : Nat × Nat} (ha : Six a0 a1 a2 a3 a4 a5) (hb : Six b0 b1 b2 b3 b4 b5) (h : goesF b0 b1 b2 b3 b4 b5 r0 r1 r2 r3 r4 r5 = some s) :
    ∃ s2, goesF (lowF a0 b0) (lowF a1 b1) (lowF a2 b2) (highF a3 b3) (highF a4 b4) (highF a5 b5) r0 r1 r2 r3 r4 r5 = some s2 ∧ leB s2.1 s.1 = true ∧ leB s.2 s2.2 = true := by
  unfold goesF at h ⊢
  cases hr : rayB r0 r1 r2 r3 r4 r5
  · rw [hr] at h; cases h
  · rw [hr] at h
    rw [if_pos rfl] at h ⊢
    unfold rayB at hr
    rw [Bool.and_eq_true] at hr
    have hR := six_of hr.1 hr.2
    exact through_within (fun k => part_all hR.h0 hR.h1 hR.h2 k) (fun k => part_all hR.h3 hR.h4 hR.h5 k) (fun k => part_all hb.h0 hb.h1 hb.h2 k) (fun k => part_all hb.h3 hb.h4 hb.h5 k)
      (fun k => part_all (low_Num ha.h0 hb.h0) (low_Num ha.h1 hb.h1) (low_Num ha.h2 hb.h2) k) (fun k => part_all (high_Num ha.h3 hb.h3) (high_Num ha.h4 hb.h4) (high_Num ha.h5 hb.h5) k)
      (fun k => part_rel (fun x y => val x ≤ val y) (low_val ha.h0 hb.h0) (low_val ha.h1 hb.h1) (low_val ha.h2 hb.h2) k) (fun k => part_rel (fun x y => val x ≤ val y) (high_val ha.h3 hb.h3) (high_val ha.h4 hb.h4) (high_val ha.h5 hb.h5) k) h

theorem le_or {x y : Nat} (h : leB x y = true) : FloatKind.f64.format.order x y = some .lt ∨ FloatKind.f64.format.order x y = some .eq := (leB_iff x y).1 h
theorem ge_or {x y : Nat} (h : leB y x = true) : FloatKind.f64.format.order x y = some .gt ∨ FloatKind.f64.format.order x y = some .eq := by
  rw [← geB_eq] at h
  rw [ordf]
  cases k : ford x y with
  | none => rw [k] at h; cases h
  | some o => cases o <;> simp_all
end Go.Proofs.YtiblmojdjnfoaaaGreat

namespace Go.Proofs.YtiblmojdjnfoaaaGreat
open Go.RowKit Fl

/-- Of two that are met the first one is ahead. -/
def ahB (i : Nat) (x : Nat) (j : Nat) (y : Nat) : Bool := ford x y == some .lt || (ford x y == some .eq && decide (i < j))
abbrev Hit : Type := Option (Nat × V3)
def betN : Hit → Hit → Bool
  | none, _ => false
  | some _, none => true
  | some (i, h), some (j, g) => ahB i h.x j g.x
def aheadN (a b : Hit) : Hit := if betN a b then a else b
/-- A hit in memory. -/
def hitN : Hit → Value
  | some (i, h) => .agg #[.int .i64 (i : Nat), .float .f64 h.x, .float .f64 h.y, .float .f64 h.z]
  | none => .agg #[.int .i64 (-1), .float .f64 0, .float .f64 0, .float .f64 0]

theorem le_cases {x y : Nat} : leB x y = true ↔ ford x y = some .lt ∨ ford x y = some .eq := leB_iff x y
theorem ah_irrefl (i x : Nat) : ahB i x i x = false := by
  unfold ahB
  cases h : isN x
  · rw [ford_refl h]; simp
  · rw [ord_nan_left h]; rfl
theorem ah_le {i x j y : Nat} (h : ahB i x j y = true) : leB x y = true := by
  unfold ahB at h
  rw [Bool.or_eq_true, Bool.and_eq_true] at h
  refine le_cases.2 (h.imp (fun h => eq_of_beq h) fun h => eq_of_beq h.1)
theorem swap_lt {x y : Nat} (h : ford x y = some .lt) : ford y x = some .gt := by rw [ford_swap x y, h]; rfl
theorem swap_gt {x y : Nat} (h : ford x y = some .gt) : ford y x = some .lt := by rw [ford_swap x y, h]; rfl
theorem swap_eq {x y : Nat} (h : ford x y = some .eq) : ford y x = some .eq := by rw [ford_swap x y, h]; rfl
theorem le_not_gt {x y : Nat} (h : leB x y = true) : ford x y ≠ some .gt := by
  rcases le_cases.1 h with h | h <;> rw [h] <;> decide
theorem ah_trans {i j k x y z : Nat} (h : ahB i x j y = true) (g : ahB j y k z = true) : ahB i x k z = true := by
  have hl := leB_trans (ah_le h) (ah_le g)
  rcases le_cases.1 hl with e | e
  · unfold ahB; rw [e]; rfl
  · have a1 : ford x y = some .eq := by
      refine leB_anti (ah_le h) (leB_trans (ah_le g) ?_)
      exact le_cases.2 (.inr (swap_eq e))
    have a2 : ford y z = some .eq := by
      refine leB_anti (ah_le g) (leB_trans ?_ (ah_le h))
      exact le_cases.2 (.inr (swap_eq e))
    unfold ahB at h g ⊢
    rw [a1] at h
    rw [a2] at g
    rw [e]
    simp only [Bool.or_eq_true, Bool.and_eq_true, decide_eq_true_eq] at h g ⊢
    refine .inr ⟨rfl, ?_⟩
    have := h.resolve_left (by decide)
    have := g.resolve_left (by decide)
    omega
theorem ah_both {i j x y : Nat} (hx : isN x = false) (hy : isN y = false) (h : ahB i x j y = false) (g : ahB j y i x = false) : i = j := by
  obtain ⟨o, ho⟩ := ford_some hx hy
  unfold ahB at h g
  rw [ford_swap x y] at g
  rw [ho] at h g
  cases o
  · simp at h
  · simp at h g
    omega
  · simp at g

/-! What each triangle is met at: f; how many there are: n. -/
section
variable (f : Nat → Option V3) (n : Nat)
def askN (i : Nat) : Hit := (f i).map fun h => (i, h)
/-- b is the best of all but those of L. -/
structure Best (b : Hit) (L : List Nat) : Prop where
  own : ∀ j h, b = some (j, h) → j < n ∧ f j = some h
  all : ∀ i, i < n → i ∈ L ∨ f i = none ∨ ∃ j h g, b = some (j, h) ∧ f i = some g ∧ ahB i g.x j h.x = false
def Num3 : Prop := ∀ i h, f i = some h → isN h.x = false
section
variable {f n} {b : Hit} {L : List Nat}
theorem Best.start : Best f n none (List.range n) := ⟨fun _ _ h => (by cases h), fun i hi => .inl (List.mem_range.2 hi)⟩
theorem Best.more (h : Best f n b L) {M : List Nat} (hm : ∀ i, i ∈ L → i ∈ M) : Best f n b M := ⟨h.own, fun i hi => (h.all i hi).imp (hm i) id⟩
theorem Best.less {l : List Nat} (h : Best f n b (l ++ L)) (hm : ∀ i, i ∈ l → i < n → f i = none ∨ ∃ j h g, b = some (j, h) ∧ f i = some g ∧ ahB i g.x j h.x = false) : Best f n b L :=
  ⟨h.own, fun i hi => by
    rcases h.all i hi with k | k
    · rcases List.mem_append.1 k with k | k
      · exact .inr (hm i k hi)
      · exact .inl k
    · exact .inr k⟩
theorem Best.step {i : Nat} (h : Best f n b (i :: L)) (hi : i < n) : Best f n (aheadN (askN f i) b) L := by
  unfold askN
  cases hf : f i with
  | none =>
    refine ⟨h.own, fun k hk => ?_⟩
    rcases h.all k hk with q | q
    · rcases List.mem_cons.1 q with rfl | q
      · exact .inr (.inl hf)
      · exact .inl q
    · exact .inr q
  | some g =>
    show Best f n (aheadN (some (i, g)) b) L
    unfold aheadN
    cases hb : betN (some (i, g)) b
    · rw [if_neg (by decide)]
      refine ⟨h.own, fun k hk => ?_⟩
      rcases h.all k hk with q | q
      · rcases List.mem_cons.1 q with rfl | q
        · match b, hb with
          | some (j, e), hb => exact .inr (.inr ⟨j, e, g, rfl, hf, hb⟩)
        · exact .inl q
      · exact .inr q
    · rw [if_pos rfl]
      refine ⟨fun j e hj => by cases hj; exact ⟨hi, hf⟩, fun k hk => ?_⟩
      rcases h.all k hk with q | q | ⟨j, e, g', q1, q2, q3⟩
      · rcases List.mem_cons.1 q with rfl | q
        · exact .inr (.inr ⟨k, g, g, rfl, hf, ah_irrefl _ _⟩)
        · exact .inl q
      · exact .inr (.inl q)
      · refine .inr (.inr ⟨i, g, g', rfl, q2, ?_⟩)
        subst q1
        cases q4 : ahB k g'.x i g.x
        · rfl
        · rw [ah_trans q4 hb] at q3; cases q3
theorem Best.one {a : Hit} (hn : Num3 f) (h : Best f n a []) (g : Best f n b []) : a = b := by
  match a, b, h, g with
  | none, none, _, _ => rfl
  | some (j, e), none, h, g =>
    obtain ⟨h1, h2⟩ := h.own j e rfl
    rcases g.all j h1 with q | q | ⟨_, _, _, q, _⟩
    · cases q
    · rw [h2] at q; cases q
    · cases q
  | none, some (j, e), h, g =>
    obtain ⟨h1, h2⟩ := g.own j e rfl
    rcases h.all j h1 with q | q | ⟨_, _, _, q, _⟩
    · cases q
    · rw [h2] at q; cases q
    · cases q
  | some (j, e), some (k, d), h, g =>
    obtain ⟨h1, h2⟩ := h.own j e rfl
    obtain ⟨g1, g2⟩ := g.own k d rfl
    rcases g.all j h1 with q | q | ⟨_, _, _, q, q2, q3⟩
    · cases q
    · rw [h2] at q; cases q
    · cases q
      rw [h2] at q2; cases q2
      rcases h.all k g1 with p | p | ⟨_, _, _, p, p2, p3⟩
      · cases p
      · rw [g2] at p; cases p
      · cases p
        rw [g2] at p2; cases p2
        obtain rfl := ah_both (hn _ _ h2) (hn _ _ g2) q3 p3
        rw [h2] at g2; cases g2
        rfl
/-- The reference's step, from the last one to the first. -/
theorem ref_step {i : Nat} {g : V3} (_h : Best f n b L) (hl : ∀ j e, b = some (j, e) → i < j) : (match (motive := Hit → Bool) b with | none => true | some (_, e) => leB g.x e.x) = betN (some (i, g)) b := by
  match b, _h, hl with
  | none, _, _ => rfl
  | some (j, e), _, hl =>
    show leB g.x e.x = ahB i g.x j e.x
    unfold ahB
    rw [decide_eq_true (hl j e rfl), Bool.and_true]
    rfl
end

/-! Whether a ray is blocked. -/
def blkB (t : Nat) : Option V3 → Bool
  | none => false
  | some h => ltC h.x t
/-- None but those of L blocks. -/
def Free (t : Nat) (L : List Nat) : Prop := ∀ i, i < n → i ∈ L ∨ blkB t (f i) = false
def anyN (t : Nat) : Bool := (List.range n).any fun i => blkB t (f i)
theorem Free.start (t : Nat) : Free f n t (List.range n) := fun _ hi => .inl (List.mem_range.2 hi)
theorem Free.no {t : Nat} (h : Free f n t []) : anyN f n t = false := by
  unfold anyN
  rw [List.any_eq_false]
  intro i hi
  rcases h i (List.mem_range.1 hi) with h | h
  · cases h
  · rw [h]; decide
theorem any_some {t i : Nat} (hi : i < n) (h : blkB t (f i) = true) : anyN f n t = true := List.any_eq_true.2 ⟨i, List.mem_range.2 hi, h⟩
end

/-! Triangles. -/
def trA (t : Tr) : V3 := ⟨t.t0, t.t1, t.t2⟩
def trB (t : Tr) : V3 := ⟨t.t3, t.t4, t.t5⟩
def trC (t : Tr) : V3 := ⟨t.t6, t.t7, t.t8⟩
def meetT (O D : V3) (t : Tr) : Option V3 := meetF (trA t) (trB t) (trC t) O D
def goB (O D : V3) (b : Bx) : Option (Nat × Nat) := goesF b.a0 b.a1 b.a2 b.a3 b.a4 b.a5 O.x O.y O.z D.x D.y D.z
theorem meet_at {O D h : V3} {t : Tr} (e : meetT O D t = some h) : ∃ n f, goB O D t.box = some (n, f) ∧ hitB n f h.x h.y h.z = true := by
  unfold meetT meetF at e
  split at e
  · cases e
  · rename_i s hs
    split at e
    · rename_i hk
      cases e
      exact ⟨s.1, s.2, hs, hk⟩
    · cases e
theorem meet_num {O D h : V3} {t : Tr} (e : meetT O D t = some h) : isN h.x = false ∧ isN h.y = false ∧ isN h.z = false := by
  obtain ⟨n, f, _, k⟩ := meet_at e
  exact hit_num k
theorem le_of_ge {x y : Nat} (h : geB x y = true) : leB y x = true := by
  unfold geB at h
  rw [Bool.or_eq_true] at h
  rcases h with h | h
  · exact le_cases.2 (.inl (swap_gt (eq_of_beq h)))
  · exact le_cases.2 (.inr (swap_eq (eq_of_beq h)))

section
variable {T : Nat → Tr} {O D : V3} {l : List Nat} {i : Nat}
theorem six_box {b : Bx} (h : b.Mo) : Six b.a0 b.a1 b.a2 b.a3 b.a4 b.a5 := ⟨h.h0.num, h.h1.num, h.h2.num, h.h3.num, h.h4.num, h.h5.num⟩
/-- What is met lies no nearer than a box goes in that has it. -/
theorem box_near (hT : ∀ i, (T i).Mo) (hi : i ∈ l) {h : V3} (e : meetT O D (T i) = some h) : ∃ s, goB O D (bxs T l) = some s ∧ leB s.1 h.x = true := by
  obtain ⟨n, f, h1, h2⟩ := meet_at e
  have hl : 0 < l.length := List.length_pos_of_mem hi
  have hb := six_box (bxs_mo hT hl)
  have ht := six_box (hT i).box
  obtain ⟨s, e1, e2, _⟩ := within_goes hb ht h1
  have ej : (bxs T l).join (T i).box = bxs T l := (bxs_P hT l).has ⟨i, hi, rfl⟩
  refine ⟨s, ?_, ?_⟩
  · rw [← ej]; exact e1
  · unfold hitB at h2
    simp only [Bool.and_eq_true] at h2
    exact leB_trans e2 (le_of_ge h2.1.1.2)
theorem box_none (hT : ∀ i, (T i).Mo) (hi : i ∈ l) (h : goB O D (bxs T l) = none) : meetT O D (T i) = none := by
  cases e : meetT O D (T i) with
  | none => rfl
  | some g =>
    obtain ⟨s, h1, _⟩ := box_near hT hi e
    rw [h] at h1; cases h1
theorem box_far (hT : ∀ i, (T i).Mo) (hi : i ∈ l) {s : Nat × Nat} (h : goB O D (bxs T l) = some s) {j : Nat} {x : Nat} (hb : leB s.1 x = false) {g : V3} (e : meetT O D (T i) = some g) : ahB i g.x j x = false := by
  obtain ⟨s', h1, h2⟩ := box_near hT hi e
  rw [h] at h1; cases h1
  cases k : ahB i g.x j x
  · rfl
  · rw [leB_trans h2 (ah_le k)] at hb; cases hb
theorem box_blk (hT : ∀ i, (T i).Mo) (hi : i ∈ l) {s : Nat × Nat} (h : goB O D (bxs T l) = some s) {t : Nat} (hb : ltC s.1 t = false) : blkB t (meetT O D (T i)) = false := by
  cases e : meetT O D (T i) with
  | none => rfl
  | some g =>
    obtain ⟨s', h1, h2⟩ := box_near hT hi e
    rw [h] at h1; cases h1
    show ltC g.x t = false
    cases k : ltC g.x t
    · rfl
    · have k' : ford g.x t = some .lt := eq_of_beq k
      have hl : leB s.1 t = true := leB_trans h2 (le_cases.2 (.inl k'))
      rcases le_cases.1 hl with q | q
      · unfold ltC at hb; rw [q] at hb; cases hb
      · have := leB_trans (le_cases.2 (.inr (swap_eq q))) h2
        rcases le_cases.1 this with q' | q' <;> rw [ford_swap g.x t, k'] at q' <;> cases q'
end
end Go.Proofs.YtiblmojdjnfoaaaGreat

namespace Go.Proofs.YtiblmojdjnfoaaaGreat
open Go.RowKit Fl

theorem selF_same (x y : Nat) : (ford (selF x y) (selF y x) == some .eq) = sameB x y := by
  unfold selF sameB
  cases hx : isN x <;> cases hy : isN y
  · simp [ford_refl hx]
  · simp [ford_refl hx]
  · simp [ford_refl hy]
  · rw [ord_nan_left hx, ord_nan_left hx, ord_nan_left hy]
    have e : ford 0 0 = some .eq := by decide +kernel
    simp [e]

def eqvB (ax ay az bx bY bz : Nat) : Bool := sameB ax bx && sameB ay bY && sameB az bz

set_option maxRecDepth 100000 in
set_option maxHeartbeats 1000000 in
theorem same_any (ax ay az bx bY bz : Nat) (hx : Wd ax) (hy : Wd ay) (hz : Wd az) (gx : Wd bx) (gy : Wd bY) (gz : Wd bz) (w : World) : Ret Tryz.prog 91 #[.agg #[.float .f64 ax, .float .f64 ay, .float .f64 az], .agg #[.float .f64 bx, .float .f64 bY, .float .f64 bz]] w (fun v => v = .bool (eqvB ax ay az bx bY bz)) := by
  unfold Ret
  go_enter Tryz.func91, Tryz.ntmps91
  go_wp2_with fail
  refine wp_region_loose (Cl _) [none, none, none, some (isV (selF ax bx) (selF ay bY) (selF az bz)), none, none, none, some (isV (selF bx ax) (selF bY ay) (selF bz az)), none] 9 (by kernel_rfl) (by kernel_rfl) (by kernel_rfl) (Cl.drew _) ?_
  have HA : Hid (∀ w', Cl ((w.alloc (.cells #[.float .f64 ax, .float .f64 ay, .float .f64 az] 25)).alloc (.cells #[.float .f64 bx, .float .f64 bY, .float .f64 bz] 25)) w' → _) := fun w' h => h.three (b := w.heap.size) (by go_simp; exact rfl) (by go_simp; exact rfl) (by go_simp; exact rfl) (by go_simp; done)
  have HB : Hid (∀ w', Cl ((w.alloc (.cells #[.float .f64 ax, .float .f64 ay, .float .f64 az] 25)).alloc (.cells #[.float .f64 bx, .float .f64 bY, .float .f64 bz] 25)) w' → _) := fun w' h => h.three (b := w.heap.size + 1) (by go_simp; exact rfl) (by go_simp; exact rfl) (by go_simp; exact rfl) (by go_simp; done)
  repeat (
    refine loose_one ?_ rfl (fun w hw => ?_) (fun K hK => ?_)
    rotate_left
    ·obtain ⟨a0, a1, a2⟩ := HA.out _ hw
     obtain ⟨b0, b1, b2⟩ := HB.out _ hw
     go_simp
     exact rfl
    go_simp
    refine hK _ ?_
    clear hK K)
  refine loose_any rfl (fun w hw => ?_) (fun K hK => ?_)
  · go_simp
    exact loose_ret (pairs_same _ _ _ _ _ _ _ (by assumption) (by assumption) (by assumption)) hw
  rintro v ⟨r1x, r1y, r1z, rfl, h1x, h1y, h1z⟩
  go_simp
  refine hK _ ?_
  clear hK K
  repeat (
    refine loose_one ?_ rfl (fun w hw => ?_) (fun K hK => ?_)
    rotate_left
    ·obtain ⟨a0, a1, a2⟩ := HA.out _ hw
     obtain ⟨b0, b1, b2⟩ := HB.out _ hw
     go_simp
     exact rfl
    go_simp
    refine hK _ ?_
    clear hK K)
  refine loose_any rfl (fun w hw => ?_) (fun K hK => ?_)
  · go_simp
    exact loose_ret (pairs_same _ _ _ _ _ _ _ (by assumption) (by assumption) (by assumption)) hw
  rintro v ⟨r2x, r2y, r2z, rfl, h2x, h2y, h2z⟩
  go_simp
  refine hK _ ?_
  clear hK K
  repeat (
    refine loose_one ?_ rfl (fun w hw => ?_) (fun K hK => ?_)
    rotate_left
    · obtain ⟨a0, a1, a2⟩ := HA.out _ hw
      obtain ⟨b0, b1, b2⟩ := HB.out _ hw
      go_simp
      exact rfl
    go_simp
    refine hK _ ?_
    clear hK K)
  refine loose_one (.bool (ford r1x r2x == some .eq && ford r1y r2y == some .eq && ford r1z r2z == some .eq)) rfl (fun w hw => ?_) (fun K hK => ?_)
  · go_simp
    exact ite_three _ _ _ w
  go_simp
  refine hK _ ?_
  clear hK K
  intro w' hw'
  go_wp2_with fail
  go_ret
  refine ⟨_, rfl, ?_, hw'.out2⟩
  unfold eqvB
  rw [← selF_same, ← selF_same, ← selF_same, ford_congr h1x.sm h2x.sm, ford_congr h1y.sm h2y.sm, ford_congr h1z.sm h2z.sm]
  rfl
end Go.Proofs.YtiblmojdjnfoaaaGreat

namespace Go.Proofs.YtiblmojdjnfoaaaGreat.Lm
open Go.RowKit Fl

theorem aside {p : Prop} (h : p) : Aside p := h
theorem owns_base {w : World} {b b' : Nat} {e : TypeId} {size : Nat} {v : Value} {n : Nat} {xs : List Value} (h : w.ownsRow b e size v n xs) (hb : b' ≤ b) : w.ownsRow b' e size v n xs := by
  refine ⟨h.1, ?_⟩
  rcases h.2 with h2 | ⟨g, cap, cur, hv, hg, r⟩
  · exact .inl h2
  · exact .inr ⟨g, cap, cur, hv, Nat.le_trans hb hg, r⟩

theorem owns_slice {w : World} {base : Nat} {e : TypeId} {size : Nat} {v : Value} {n : Nat} {xs : List Value} (h : w.ownsRow base e size v n xs) : ∃ ao cap, v = .slice ao n cap ∧ (ao = none → n = 0) := by
  rcases h.2 with ⟨rfl, rfl⟩ | ⟨g, cap, cur, rfl, _⟩
  · exact ⟨none, 0, rfl, fun _ => rfl⟩
  · exact ⟨_, cap, rfl, fun h => by cases h⟩

theorem owns_same {w w' : World} {base : Nat} {e : TypeId} {size : Nat} {v : Value} {n : Nat} {xs : List Value} (h : w.ownsRow base e size v n xs) (hb : Below w.heap.size w w') : w'.ownsRow base e size v n xs :=
  h.kept (row := none) ⟨hb.os, hb.tape, hb.output, hb.size, fun k hk _ => hb.block k hk⟩ (by cases hv : v.ownBlock <;> simp)

/-- append to what the call owns: the row is the same block, or a new one. -/
theorem run_push {P : Program} (w : World) (t ty e : TypeId) (i : TypeInfo) (z : Value) (size bytes : Nat) (ht : P.underlying t = some (.slice e)) (hi : P.info? e = some i) (hz : i.zero = some z)
    (hsize : i.size = size) (hby : i.bytes = bytes) (hzs : z.cells.size = size) (hsz : 0 < size)
    (v : Value) (n : Nat) (xs : List Value) (hown : w.ownsRow 0 e size v n xs)
    (a : Addr) (m c : Nat) (news : List Value) (hl : news.length = m * size) (hnews : ∀ j u, news[j]? = some u → w.cell? (a.add j) = some u) (h1 : ∀ u ∈ news, u.oneCell' = true)
    (h63 : n + m ≤ maxLen) (hbytes : (n + m) * bytes ≤ 140737488355328) :
    ∃ v' w', (Builtin.append_ #[t, t] ty #[v, .slice (some a) m c]).run P w = .ok v' w' ∧ w'.ownsRow 0 e size v' (n + m) (xs ++ news) ∧ w.grownBy w' v.ownBlock ∧ (v'.ownBlock = v.ownBlock ∨ ∀ k, v'.ownBlock = some k → w.heap.size ≤ k) := by
  have hown0 := hown
  rcases hown.2 with ⟨rfl, rfl⟩ | ⟨g, cap, cur, rfl, hbg, hg, hnc, hcm, hcs, htake⟩
  · obtain rfl : xs = [] := List.eq_nil_of_length_eq_zero (by simpa using hown.1)
    obtain ⟨v', w', hrun, r1, r2, _⟩ := run_append_own (P := P) w w.heap.size t ty e i z size bytes ht hi hz hsize hby hzs hsz (.slice none 0 0) 0 [] (World.ownsRow_nil w _ e size) a m c news hl hnews h1 h63 hbytes (Nat.le_refl _)
    exact ⟨v', w', hrun, owns_base r1 (Nat.zero_le _), r2, .inr fun k hk => (r1.lt k hk).1⟩
  · by_cases hroom : n + m ≤ cap
    · obtain ⟨w', hrun, r1, r2⟩ := run_append_fits (P := P) w 0 t ty e i size ht hi hsize g n cap xs hown0 a m c news hl hnews h1 hroom
      exact ⟨_, w', hrun, r1, r2, .inl rfl⟩
    · obtain ⟨v', w', hrun, r1, r2⟩ := run_append_arg_grows (P := P) w t ty e i z size bytes ht hi hz hsize hby hzs hsz ⟨g, 0, none⟩ n cap xs hown.1 (hown0.cells (g := g) rfl) a m c news hl hnews (by omega) h63 hbytes
      exact ⟨v', w', hrun, owns_base r1 (Nat.zero_le _), ⟨r2.os, r2.tape, r2.output, r2.size, fun k hk _ => r2.block k hk (by simp)⟩, .inr fun k hk => (r1.lt k hk).1⟩

theorem wp_push {P : Program} {o : Oper} {a : Act} {K : Act → World → Prop} {Q : Exit → Act → World → Prop} (w : World) (s x : Operand) (t : TypeId)
    (ho : o.op = .call { callee := .builtin .append, args := #[s, x], argTypes := #[t, t] })
    (e : TypeId) (i : TypeInfo) (z : Value) (size bytes : Nat) (ht : P.underlying t = some (.slice e)) (hi : P.info? e = some i) (hz : i.zero = some z)
    (hsize : i.size = size) (hby : i.bytes = bytes) (hzs : z.cells.size = size) (hsz : 0 < size)
    (v : Value) (n : Nat) (xs : List Value) (hs : a.eval s = v) (hown : w.ownsRow 0 e size v n xs)
    (ad : Addr) (m c : Nat) (news : List Value) (hx : a.eval x = .slice (some ad) m c) (hl : news.length = m * size) (hnews : ∀ j u, news[j]? = some u → w.cell? (ad.add j) = some u) (h1 : ∀ u ∈ news, u.oneCell' = true)
    (h63 : n + m ≤ maxLen) (hbytes : (n + m) * bytes ≤ 140737488355328)
    (h : ∀ v' w', w'.ownsRow 0 e size v' (n + m) (xs ++ news) → w.grownBy w' v.ownBlock → (v'.ownBlock = v.ownBlock ∨ ∀ k, v'.ownBlock = some k → w.heap.size ≤ k) → K (a.put o.dst v') w') : o.wp P a w K Q := by
  obtain ⟨v', w', hr, h2, h3, h4⟩ := run_push (P := P) w t o.type e i z size bytes ht hi hz hsize hby hzs hsz v n xs hown ad m c news hl hnews h1 h63 hbytes
  unfold Oper.wp execOp
  simp only [ho, resolve, invoke, builtin, Sem.run_bind, Sem.run_pure, Result.andThen_ok, List.map_toArray, List.map_cons, List.map_nil, hs, hx, hr]
  exact h v' w' h2 h3 h4

theorem wpList_push {P : Program} {ops : Array Oper} {rest : List Oper} {o : Oper} {a : Act} {Q : Exit → Act → World → Prop} (w : World) (hgd : o.guard = none) (s x : Operand) (t : TypeId)
    (ho : o.op = .call { callee := .builtin .append, args := #[s, x], argTypes := #[t, t] })
    (e : TypeId) (i : TypeInfo) (z : Value) (size bytes : Nat) (ht : P.underlying t = some (.slice e)) (hi : P.info? e = some i) (hz : i.zero = some z)
    (hsize : i.size = size) (hby : i.bytes = bytes) (hzs : z.cells.size = size) (hsz : 0 < size)
    (v : Value) (n : Nat) (xs : List Value) (hs : a.eval s = v) (hown : w.ownsRow 0 e size v n xs)
    (ad : Addr) (m c : Nat) (news : List Value) (hx : a.eval x = .slice (some ad) m c) (hl : news.length = m * size) (hnews : ∀ j u, news[j]? = some u → w.cell? (ad.add j) = some u) (h1 : ∀ u ∈ news, u.oneCell' = true)
    (h63 : n + m ≤ maxLen) (hbytes : (n + m) * bytes ≤ 140737488355328)
    (h : ∀ v' w', w'.ownsRow 0 e size v' (n + m) (xs ++ news) → w.grownBy w' v.ownBlock → (v'.ownBlock = v.ownBlock ∨ ∀ k, v'.ownBlock = some k → w.heap.size ≤ k) → wpList P ops Q rest (a.put o.dst v') w') : wpList P ops Q (o :: rest) a w :=
  wpList_plain hgd fun _ hK => wp_push w s x t ho e i z size bytes ht hi hz hsize hby hzs hsz v n xs hs hown ad m c news hx hl hnews h1 h63 hbytes fun v' w' h2 h3 h4 => hK _ _ (h v' w' h2 h3 h4)

theorem step_push {P : Program} {ops : Array Oper} {o : Oper} {a : Act} {K : Act → World → Prop} {Q : Exit → Act → World → Prop} {E : Prop} (w : World) (hg : o.guard = none) (s x : Operand) (t : TypeId)
    (ho : o.op = .call { callee := .builtin .append, args := #[s, x], argTypes := #[t, t] })
    (e : TypeId) (i : TypeInfo) (z : Value) (size bytes : Nat) (ht : P.underlying t = some (.slice e)) (hi : P.info? e = some i) (hz : i.zero = some z)
    (hsize : i.size = size) (hby : i.bytes = bytes) (hzs : z.cells.size = size) (hsz : 0 < size)
    (v : Value) (n : Nat) (xs : List Value) (hs : a.eval s = v) (hown : w.ownsRow 0 e size v n xs)
    (ad : Addr) (m c : Nat) (news : List Value) (hx : a.eval x = .slice (some ad) m c) (hl : news.length = m * size) (hnews : ∀ j u, news[j]? = some u → w.cell? (ad.add j) = some u) (h1 : ∀ u ∈ news, u.oneCell' = true)
    (h63 : n + m ≤ maxLen) (hbytes : (n + m) * bytes ≤ 140737488355328)
    (h : ∀ v' w', w'.ownsRow 0 e size v' (n + m) (xs ++ news) → w.grownBy w' v.ownBlock → (v'.ownBlock = v.ownBlock ∨ ∀ k, v'.ownBlock = some k → w.heap.size ≤ k) → K (a.put o.dst v') w') :
    if Region.wanted o (yielded ops a.tmps) = true then Oper.wp P o a w K Q else E := by
  have hw : Region.wanted o (yielded ops a.tmps) = true := by simp [Region.wanted, hg]
  rw [if_pos hw]
  exact wp_push w s x t ho e i z size bytes ht hi hz hsize hby hzs hsz v n xs hs hown ad m c news hx hl hnews h1 h63 hbytes h

theorem max_small {n : Nat} (h : n ≤ 1000000) : n ≤ maxLen := by unfold maxLen; omega

theorem addr_off (b off j : Nat) : (⟨b, off, none⟩ : Addr).add j = ⟨b, off + j, none⟩ := by
  simp only [Addr.add]
  split
  · rename_i hz; rw [hz]; rfl
  · rfl

/-- All blocks but B are as they were. -/
structure But (B : Nat) (w w' : World) : Prop where
  os : w'.os = w.os
  tape : w'.tape = w.tape
  output : w'.output = w.output
  size : w.heap.size ≤ w'.heap.size
  block : ∀ k, k < w.heap.size → k ≠ B → w'.heap[k]? = w.heap[k]?

theorem But.refl (B : Nat) (w : World) : But B w w := ⟨rfl, rfl, rfl, Nat.le_refl _, fun _ _ _ => rfl⟩

theorem But.trans {B : Nat} {a b c : World} (h : But B a b) (k : But B b c) : But B a c :=
  ⟨k.os.trans h.os, k.tape.trans h.tape, k.output.trans h.output, Nat.le_trans h.size k.size, fun i hi hn => (k.block i (Nat.lt_of_lt_of_le hi h.size) hn).trans (h.block i hi hn)⟩

theorem But.of {B : Nat} {w w' : World} (h : Below w.heap.size w w') : But B w w' := ⟨h.os, h.tape, h.output, h.size, fun k hk _ => h.block k hk⟩

theorem But.set (B i : Nat) (w : World) (u : Value) : But B w (w.setCell ⟨B, i, none⟩ u) := ⟨rfl, rfl, rfl, by simp [World.setCell], fun k _ hn => Below.heap_setCell _ _ _ _ hn⟩

theorem But.keep {B b : Nat} {w w' : World} {vs : Array Value} {t : TypeId} (h : But B w w') (hb : Lp.Bk w b vs t) (hn : b ≠ B) : Lp.Bk w' b vs t := (h.block b hb.lt hn).trans hb

theorem But.below {B T : Nat} {W w w' : World} (h : But B w w') (hb : Below T W w) (hT : T ≤ B) (hs : T ≤ w.heap.size) : Below T W w' :=
  ⟨h.os.trans hb.os, h.tape.trans hb.tape, h.output.trans hb.output, Nat.le_trans hb.size h.size, fun k hk => (h.block k (by omega) (by omega)).trans (hb.block k hk)⟩

/-- A store into a new block. -/
theorem But.more {T : Nat} {W w w' : World} (hb : But T W w) (hs : Below W.heap.size w w') : But T W w' :=
  ⟨hs.os.trans hb.os, hs.tape.trans hb.tape, hs.output.trans hb.output, Nat.le_trans hb.size hs.size, fun k hk hn => (hs.block k hk).trans (hb.block k hk hn)⟩

theorem setCell_same {w : World} {g : Nat} {cur : Array Value} {t : TypeId} {i : Nat} {v : Value} (h : Lp.Bk w g cur t) (hv : cur[i]? = some v) : w.setCell ⟨g, i, none⟩ v = w := by
  have e : (w.setCell ⟨g, i, none⟩ v).heap = w.heap := by
    apply Array.ext_getElem?
    intro k
    by_cases hk : k = g
    · subst hk
      have := h.set i v
      unfold Lp.Bk at this h
      rw [this, h]
      congr 2
      apply Array.ext_getElem?
      intro j
      by_cases hj : i = j
      · subst hj; rw [Array.getElem?_setIfInBounds_self_of_lt (Array.getElem?_eq_some_iff.1 hv).1, hv]
      · rw [Array.getElem?_setIfInBounds_ne hj]
    · exact Below.heap_setCell _ _ _ _ hk
  unfold World.setCell at *
  simp only at e
  rw [e]

theorem owns_set {w : World} {v : Value} {n : Nat} {e : TypeId} {xs : List Value} (h : w.ownsRow 0 e 1 v n xs) {p : Addr} (hne : v.ownBlock ≠ some p.block) (u : Value) : (w.setCell p u).ownsRow 0 e 1 v n xs := by
  obtain ⟨h1, h2⟩ := h
  refine ⟨h1, ?_⟩
  rcases h2 with h2 | ⟨g, cap, cur, hv, hg, hh, r⟩
  · exact .inl h2
  · refine .inr ⟨g, cap, cur, hv, hg, ?_, r⟩
    rw [Below.heap_setCell _ _ _ _ (fun e => hne (by rw [hv, e]; rfl))]
    exact hh

theorem grown_drew {w w' : World} {row : Option Nat} (h : w.drew.grownBy w' row) : w.grownBy w' row := ⟨h.os, h.tape, h.output, h.size, h.block⟩

theorem grown_keep {w w' : World} {row : Option Nat} (h : w.grownBy w' row) {b : Nat} {vs : Array Value} {t : TypeId} (hB : Lp.Bk w b vs t) (hn : row ≠ some b) : Lp.Bk w' b vs t := (h.block b hB.lt (fun e => hn e.symm)).trans hB

end Go.Proofs.YtiblmojdjnfoaaaGreat.Lm

namespace Go.Proofs.YtiblmojdjnfoaaaGreat
open Go.RowKit Fl Lm

/-- Block g reads, from off on, as these n elements of k cells. -/
structure Els (w : World) (g off n k : Nat) (e : Nat → List Value) : Prop where
  lt : g < w.heap.size
  at' : ∀ i, i < n → ∀ j, j < k → w.cell? ⟨g, off + (i * k + j), none⟩ = (e i)[j]?
section
variable {w w' : World} {g off n k : Nat} {e : Nat → List Value}
theorem Els.keep (h : Els w g off n k e) (hb : Below w.heap.size w w') : Els w' g off n k e :=
  ⟨Nat.lt_of_lt_of_le h.lt hb.size, fun i hi j hj => (hb.cell (p := ⟨g, off + (i * k + j), none⟩) h.lt).trans (h.at' i hi j hj)⟩
theorem Els.same (h : Els w g off n k e) (hs : w'.heap[g]? = w.heap[g]?) : Els w' g off n k e := by
  refine ⟨?_, fun i hi j hj => ?_⟩
  · have : w.heap[g]? ≠ none := by rw [Array.getElem?_eq_getElem h.lt]; exact fun e => by cases e
    rw [← hs] at this
    exact Nat.lt_of_not_le fun h => this (Array.getElem?_eq_none h)
  · rw [← h.at' i hi j hj]
    simp only [World.cell?, hs]
theorem Els.alo (h : Els w g off n k e) (o : Obj) : Els (w.alloc o) g off n k e := h.keep ((Below.refl _ _).alloc (Nat.le_refl _) _)
theorem Els.dr (h : Els w g off n k e) (m : Nat) : Els (w.drewN m) g off n k e := ⟨h.lt, h.at'⟩
theorem Els.seto (h : Els w g off n k e) {p : Addr} (hne : g ≠ p.block) (u : Value) : Els (w.setCell p u) g off n k e := h.same (Below.heap_setCell w p u g hne)
theorem Els.cl (h : Els w g off n k e) (hb : Cl w w') : Els w' g off n k e := h.keep hb
theorem Els.one (h : Els w g off n 1 e) {i : Nat} (hi : i < n) : w.cell? ⟨g, off + i, none⟩ = (e i)[0]? := by
  have := h.at' i hi 0 (by omega)
  rwa [Nat.mul_one, Nat.add_zero] at this
theorem Els.at0 (h : Els w g off n k e) {i : Nat} (hi : i < n) (hk : 0 < k) : w.cell? ⟨g, off + i * k, none⟩ = (e i)[0]? := h.at' i hi 0 hk
theorem Els.atj (h : Els w g off n k e) {i : Nat} (hi : i < n) {j : Nat} (hj : j < k) : w.cell? ⟨g, off + i * k + j, none⟩ = (e i)[j]? := by
  have := h.at' i hi j hj
  rwa [← Nat.add_assoc] at this
theorem Els.part (h : Els w g off n k e) {m l : Nat} (hm : m + l ≤ n) : Els w g (off + m * k) l k (fun i => e (m + i)) :=
  ⟨h.lt, fun i hi j hj => by rw [← h.at' (m + i) (by omega) j hj, Nat.add_mul]; congr 2; omega⟩
theorem Els.congr (h : Els w g off n k e) {e' : Nat → List Value} (he : ∀ i, i < n → e i = e' i) : Els w g off n k e' := ⟨h.lt, fun i hi j hj => by rw [← he i hi]; exact h.at' i hi j hj⟩
theorem Els.less (h : Els w g off n k e) {m : Nat} (hm : m ≤ n) : Els w g off m k e := ⟨h.lt, fun i hi j hj => h.at' i (by omega) j hj⟩
end
/-- The elements' cells, one behind another. -/
def flat (n : Nat) (e : Nat → List Value) : List Value := (List.range n).flatMap e
theorem flat_succ (n : Nat) (e : Nat → List Value) : flat (n + 1) e = flat n e ++ e n := by simp [flat, List.range_succ]
theorem flat_len {n k : Nat} {e : Nat → List Value} (he : ∀ i, i < n → (e i).length = k) : (flat n e).length = n * k := by
  induction n with
  | zero => simp [flat]
  | succ n ih => rw [flat_succ, List.length_append, ih fun i hi => he i (by omega), he n (by omega), Nat.add_mul, Nat.one_mul]
theorem flat_at {n k : Nat} {e : Nat → List Value} (he : ∀ i, i < n → (e i).length = k) {i j : Nat} (hi : i < n) (hj : j < k) : (flat n e)[i * k + j]? = (e i)[j]? := by
  induction n with
  | zero => omega
  | succ n ih =>
    have hl := flat_len (n := n) fun i hi => he i (by omega)
    rw [flat_succ]
    by_cases h : i < n
    · rw [List.getElem?_append_left, ih (fun i hi => he i (by omega)) h]
      rw [hl]
      have := Nat.mul_le_mul_right k (show i + 1 ≤ n by omega)
      rw [Nat.add_mul] at this
      omega
    · obtain rfl : i = n := by omega
      rw [List.getElem?_append_right (by omega), hl, Nat.add_sub_cancel_left]
theorem flat_congr {n : Nat} {e e' : Nat → List Value} (h : ∀ i, i < n → e i = e' i) : flat n e = flat n e' := by
  unfold flat
  rw [List.flatMap_def, List.flatMap_def]
  congr 1
  exact List.map_congr_left fun i hi => h i (List.mem_range.1 hi)
theorem flat_one {n : Nat} {e : Nat → List Value} (h1 : ∀ i, i < n → ∀ u ∈ e i, u.oneCell' = true) : ∀ u ∈ flat n e, u.oneCell' = true := by
  intro u hu
  obtain ⟨i, hi, h⟩ := List.mem_flatMap.1 hu
  exact h1 i (List.mem_range.1 hi) u h
theorem flat_take {n m k : Nat} {e : Nat → List Value} (he : ∀ i, i < n → (e i).length = k) (hm : m ≤ n) : (flat n e).take (m * k) = flat m e := by
  induction n with
  | zero => obtain rfl : m = 0 := by omega
            simp [flat]
  | succ n ih =>
    have hl := flat_len (n := n) fun i hi => he i (by omega)
    by_cases h : m = n + 1
    · subst h
      rw [List.take_of_length_le]
      rw [flat_len he]
      exact Nat.le_refl _
    · rw [flat_succ, List.take_append_of_le_length, ih (fun i hi => he i (by omega)) (by omega)]
      rw [hl]
      exact Nat.mul_le_mul_right k (by omega)

/-- What is owned reads so. -/
theorem owns_els {w : World} {b : Nat} {ty : TypeId} {ao : Option Addr} {n cap k : Nat} {e : Nat → List Value} (h : w.ownsRow b ty k (.slice ao n cap) n (flat n e)) (he : ∀ i, i < n → (e i).length = k) (h0 : 0 < n) : ∃ g, ao = some ⟨g, 0, none⟩ ∧ b ≤ g ∧ Els w g 0 n k e := by
  rcases h.2 with ⟨h2, h3⟩ | ⟨g, c, cur, hv, hg, hh, h1, h2, h3, h4⟩
  · simp at h2; omega
  · simp only [Value.slice.injEq] at hv
    obtain ⟨rfl, -, rfl⟩ := hv
    refine ⟨g, rfl, hg, (Array.getElem?_eq_some_iff.1 hh).1, fun i hi j hj => ?_⟩
    rw [Nat.zero_add]
    have hB : Lp.Bk w g cur ty := hh
    rw [hB.cell, ← flat_at he hi hj, ← h4, List.getElem?_take, if_pos, Array.getElem?_toList]
    have := Nat.mul_le_mul_right k (show i + 1 ≤ n by omega)
    rw [Nat.add_mul] at this
    omega
/-- Cut short: what is left is owned as well. -/
theorem owns_cut {w : World} {b : Nat} {ty : TypeId} {ao : Option Addr} {n cap k m : Nat} {e : Nat → List Value} (h : w.ownsRow b ty k (.slice ao n cap) n (flat n e)) (he : ∀ i, i < n → (e i).length = k) (hm : m ≤ n) : w.ownsRow b ty k (.slice ao m cap) m (flat m e) := by
  refine ⟨flat_len fun i hi => he i (by omega), ?_⟩
  rcases h.2 with ⟨h2, h3⟩ | ⟨g, c, cur, hv, hg, hh, h1, h2, h3, h4⟩
  · simp at h2
    obtain ⟨rfl, rfl, rfl⟩ := h2
    obtain rfl : m = 0 := by omega
    exact .inl ⟨rfl, rfl⟩
  · simp only [Value.slice.injEq] at hv
    obtain ⟨rfl, -, rfl⟩ := hv
    refine .inr ⟨g, cap, cur, rfl, hg, hh, by omega, h2, h3, ?_⟩
    rw [← flat_take he hm, ← h4, List.take_take, Nat.min_eq_left]
    exact Nat.mul_le_mul_right k hm
theorem owns_flat {w : World} {b k n : Nat} {ty : TypeId} {v : Value} {e : Nat → List Value} {x : List Value} (h : w.ownsRow b ty k v (n + 1) (flat n e ++ x)) {e' : Nat → List Value} (he : ∀ i, i < n → e i = e' i) (hx : e' n = x) : w.ownsRow b ty k v (n + 1) (flat (n + 1) e') := by
  rw [flat_succ, ← flat_congr he, hx]
  exact h
/-- A slice that reads as these elements. -/
def Sl (w : World) (ao : Option Addr) (n k : Nat) (e : Nat → List Value) : Prop := n = 0 ∨ ∃ g off, ao = some ⟨g, off, none⟩ ∧ Els w g off n k e
theorem Sl.keep {w w' : World} {ao : Option Addr} {n k : Nat} {e : Nat → List Value} (h : Sl w ao n k e) (hb : Below w.heap.size w w') : Sl w' ao n k e :=
  h.elim .inl fun ⟨g, off, e, hi⟩ => .inr ⟨g, off, e, hi.keep hb⟩
theorem Sl.get {w : World} {ao : Option Addr} {n k : Nat} {e : Nat → List Value} (h : Sl w ao n k e) {i : Nat} (hi : i < n) : ∃ g off, ao = some ⟨g, off, none⟩ ∧ Els w g off n k e :=
  h.elim (fun h => by omega) id
theorem Sl.of_owns {w : World} {b : Nat} {ty : TypeId} {ao : Option Addr} {n cap k : Nat} {e : Nat → List Value} (h : w.ownsRow b ty k (.slice ao n cap) n (flat n e)) (he : ∀ i, i < n → (e i).length = k) : Sl w ao n k e := by
  rcases Nat.eq_zero_or_pos n with h0 | h0
  · exact .inl h0
  · obtain ⟨g, e1, _, h1⟩ := owns_els h he h0
    exact .inr ⟨g, 0, e1, h1⟩
/-- Numbers of a list, as a slice's elements. -/
def lvs (l : List Nat) (i : Nat) : List Value := [.int .i64 ((l.getD i 0 : Nat) : Int)]
theorem lvs_len (l : List Nat) (i : Nat) : (lvs l i).length = 1 := rfl
theorem lvs_one (l : List Nat) (i : Nat) : ∀ u ∈ lvs l i, u.oneCell' = true := by
  intro u hu
  simp only [lvs, List.mem_cons, List.not_mem_nil, or_false] at hu
  rw [hu]; rfl
theorem Els.num {w : World} {g off n : Nat} {l : List Nat} (h : Els w g off n 1 (lvs l)) {j : Nat} (hj : j < n) : w.cell? ⟨g, off + j, none⟩ = some (.int .i64 ((l.getD j 0 : Nat) : Int)) := h.one hj
theorem getD_mem {l : List Nat} {j : Nat} (hj : j < l.length) : l.getD j 0 ∈ l := by
  rw [List.getD_eq_getElem?_getD, List.getElem?_eq_getElem hj]; exact List.getElem_mem hj
theorem take_more {l : List Nat} {j : Nat} (hj : j < l.length) : l.take (j + 1) = l.take j ++ [l.getD j 0] := by
  rw [List.getD_eq_getElem?_getD, List.getElem?_eq_getElem hj]
  exact List.take_succ_eq_append_getElem hj
end Go.Proofs.YtiblmojdjnfoaaaGreat

namespace Go.Proofs.YtiblmojdjnfoaaaGreat.Fl

theorem gather_P (S : Nat → Bx → Prop) : ∀ (l : List (Nat × Bx)) (K : List Nat) (a : Nat × Bx) (Q : Bx → Prop), l.length = K.length → (∀ j, j < l.length → BoxP (S (K.getD j 0)) (l.getD j (0, Bx.none)).2) → BoxP Q a.2 →
    (l.foldl (fun a b => (a.1 + b.1, a.2.join b.2)) a).1 = a.1 + (l.map (·.1)).sum ∧ BoxP (fun c => Q c ∨ ∃ j, j ∈ K ∧ S j c) (l.foldl (fun a b => (a.1 + b.1, a.2.join b.2)) a).2
  | [], [], a, Q, _, _, hQ => ⟨by simp, hQ.iff fun c => by simp⟩
  | [], _ :: _, _, _, h, _, _ => absurd h (by simp)
  | _ :: _, [], _, _, h, _, _ => absurd h (by simp)
  | x :: l, k :: K, a, Q, h, hS, hQ => by
    have h0 := hS 0 (by simp)
    have ih := gather_P S l K (a.1 + x.1, a.2.join x.2) (fun c => Q c ∨ S k c) (by simpa using h) (fun j hj => by have := hS (j + 1) (by simpa using hj); simpa using this) (hQ.join (by simpa using h0))
    refine ⟨?_, ?_⟩
    · rw [List.foldl_cons, ih.1]
      simp only [List.map_cons, List.sum_cons]
      omega
    · rw [List.foldl_cons]
      refine ih.2.iff fun c => ?_
      constructor
      · rintro ((hc | hc) | ⟨j, hj, hc⟩)
        · exact .inl hc
        · exact .inr ⟨k, by simp, hc⟩
        · exact .inr ⟨j, by simp [hj], hc⟩
      · rintro (hc | ⟨j, hj, hc⟩)
        · exact .inl (.inl hc)
        · rcases List.mem_cons.1 hj with e | hj
          · exact .inl (.inr (e ▸ hc))
          · exact .inr ⟨j, hj, hc⟩
theorem gather_is {S : Nat → Bx → Prop} {f : Nat → Nat × Bx} (K : List Nat) (hf : ∀ k, k ∈ K → BoxP (S k) (f k).2) :
    (gather (K.map f)).1 = (K.map fun k => (f k).1).sum ∧ BoxP (fun c => ∃ j, j ∈ K ∧ S j c) (gather (K.map f)).2 := by
  have h := gather_P S (K.map f) K (0, Bx.none) (fun _ => False) (by simp) (fun j hj => by
    rw [List.length_map] at hj
    simp only [List.getD_eq_getElem?_getD, List.getElem?_map, List.getElem?_eq_getElem hj, Option.map_some, Option.getD_some]
    exact hf _ (List.getElem_mem hj)) BoxP.none
  refine ⟨?_, h.2.iff fun c => by simp⟩
  unfold gather
  rw [h.1, List.map_map]
  simp [Function.comp_def]

section
variable {T : Nat → Tr}
/-- What a bin holds behind the list p. -/
structure BinsP (T : Nat → Tr) (s p : List Nat) (f : Nat → Nat × Bx) : Prop where
  cnt : ∀ k, (f k).1 = (p.filter fun i => (binT T s i).toNat == k).length
  box : ∀ k, BoxP (fun c => ∃ i, i ∈ p ∧ (binT T s i).toNat = k ∧ c = (T i).box) (f k).2
theorem bins_step (hT : ∀ i, (T i).Mo) {s p : List Nat} {f : Nat → Nat × Bx} (h : BinsP T s p f) (i : Nat) : BinsP T s (p ++ [i]) (stepB T s f i) := by
  refine ⟨fun k => ?_, fun k => ?_⟩
  · unfold stepB updB
    rw [List.filter_append, List.length_append, ← h.cnt k]
    by_cases e : k = (binT T s i).toNat
    · rw [if_pos e, ← e]
      simp [gather, e]
    · rw [if_neg e]
      simp [Ne.symm e]
  · unfold stepB updB
    by_cases e : k = (binT T s i).toNat
    · rw [if_pos e]
      have h1 := (BoxP.none.join (h.box (binT T s i).toNat)).join (BoxP.one (hT i).box.ok)
      refine h1.iff fun c => ?_
      constructor
      · rintro ((h | ⟨j, hj, hk, e2⟩) | h)
        · exact h.elim
        · exact ⟨j, by simp [hj], by rw [hk, e], e2⟩
        · exact ⟨i, by simp, e.symm, h⟩
      · rintro ⟨j, hj, hk, e2⟩
        rcases List.mem_append.1 hj with hj | hj
        · exact .inl (.inr ⟨j, hj, by rw [hk, e], e2⟩)
        · simp only [List.mem_singleton] at hj
          subst hj
          exact .inr e2
    · rw [if_neg e]
      refine (h.box k).iff fun c => ?_
      constructor
      · rintro ⟨j, hj, hk, e2⟩
        exact ⟨j, by simp [hj], hk, e2⟩
      · rintro ⟨j, hj, hk, e2⟩
        rcases List.mem_append.1 hj with hj | hj
        · exact ⟨j, hj, hk, e2⟩
        · simp only [List.mem_singleton] at hj
          subst hj
          exact absurd hk.symm e
theorem bins_P (hT : ∀ i, (T i).Mo) (s : List Nat) : BinsP T s s (binsT T s) := by
  have : ∀ (q p : List Nat) (f : Nat → Nat × Bx), BinsP T s p f → BinsP T s (p ++ q) (q.foldl (stepB T s) f) := by
    intro q
    induction q with
    | nil => intro p f h; simpa using h
    | cons i q ih =>
      intro p f h
      have := ih (p ++ [i]) _ (bins_step hT h i)
      simpa using this
  refine this s [] _ ⟨fun k => rfl, fun k => ?_⟩
  exact BoxP.none.iff fun c => by simp
theorem count_sum (s : List Nat) (g : Nat → Nat) : ∀ K : List Nat, K.Nodup → (K.map fun k => (s.filter fun i => g i == k).length).sum = (s.filter fun i => decide (g i ∈ K)).length
  | [], _ => by rw [List.filter_eq_nil_iff.2 (fun i _ => by simp)]; rfl
  | k :: K, h => by
    have hn := List.nodup_cons.1 h
    rw [List.map_cons, List.sum_cons, count_sum s g K hn.2]
    induction s with
    | nil => rfl
    | cons x s ih =>
      simp only [List.filter_cons, List.mem_cons]
      by_cases e : g x = k
      · have : ¬ (g x ∈ K) := by rw [e]; exact hn.1
        simp [e, hn.1] at ih ⊢
        omega
      · by_cases m : g x ∈ K
        · simp [e, m] at ih ⊢
          omega
        · simp [e, m] at ih ⊢
          omega
theorem filter_sum (s : List Nat) (p : Nat → Bool) : (s.filter p).length + (s.filter fun i => !p i).length = s.length := by
  have := (List.filter_append_perm p s).length_eq
  simpa using this

/-- The cost by bins and the cost by lists: numbers, and equal. -/
theorem costs_same (hT : ∀ i, (T i).Mo) {s : List Nat} (h0 : 0 < s.length) (h5 : s.length ≤ 512) (h : (ford (hiT T s) (loT T s) == some .gt) = true) {k : Nat} (k1 : 1 ≤ k) (k7 : k ≤ 7) :
    Num (costP T s k) ∧ Num (costR T s k) ∧ val (costP T s k) = val (costR T s k) ∧ 0 < (leftT T s k).length ∧ 0 < (restT T s k).length := by
  obtain ⟨hb, ⟨a, ha, ea⟩, ⟨b, hb', eb⟩⟩ := apart_of hT h0 h
  have B := bins_P hT s
  have rng : ∀ i, i ∈ s → (binT T s i).toNat < 8 ∧ binT T s i = ((binT T s i).toNat : Int) := fun i hi => by
    have := bin_in (hb i hi)
    unfold binT
    omega
  have ml : a ∈ leftT T s k := List.mem_filter.2 ⟨ha, by rw [ea]; exact decide_eq_true (by omega)⟩
  have mr : b ∈ restT T s k := List.mem_filter.2 ⟨hb', by rw [eb]; simp; omega⟩
  have pl := List.length_pos_of_mem ml
  have pr := List.length_pos_of_mem mr
  have hfs := filter_sum s fun i => decide (binT T s i < k)
  have hle : (leftT T s k).length ≤ 512 := by unfold leftT; omega
  have hre : (restT T s k).length ≤ 512 := by unfold restT; omega
  have G1 := gather_is (S := fun j c => ∃ i, i ∈ s ∧ (binT T s i).toNat = j ∧ c = (T i).box) (f := binsT T s) (List.range k) fun j _ => B.box j
  have G2 := gather_is (S := fun j c => ∃ i, i ∈ s ∧ (binT T s i).toNat = j ∧ c = (T i).box) (f := binsT T s) ((List.range (8 - k)).map (k + ·)) fun j _ => B.box j
  rw [List.map_map] at G2
  have c1 : (gather ((List.range k).map (binsT T s))).1 = (leftT T s k).length := by
    rw [G1.1]
    have := count_sum s (fun i => (binT T s i).toNat) (List.range k) List.nodup_range
    simp only [← B.cnt] at this
    rw [this]
    unfold leftT
    congr 1
    refine List.filter_congr fun i hi => ?_
    have := (rng i hi).2
    by_cases hh : binT T s i < (k : Int)
    · rw [decide_eq_true hh, decide_eq_true (List.mem_range.2 (by omega))]
    · rw [decide_eq_false hh, decide_eq_false (fun m => hh (by rw [List.mem_range] at m; omega))]
  have c2 : (gather ((List.range (8 - k)).map (binsT T s ∘ fun x => k + x))).1 = (restT T s k).length := by
    rw [G2.1]
    have := count_sum s (fun i => (binT T s i).toNat) ((List.range (8 - k)).map (k + ·)) (List.Pairwise.map _ (fun _ _ h e => h (Nat.add_left_cancel e)) List.nodup_range)
    simp only [← B.cnt] at this
    rw [this]
    unfold restT
    congr 1
    refine List.filter_congr fun i hi => ?_
    have := rng i hi
    by_cases hh : binT T s i < (k : Int)
    · rw [decide_eq_true hh, decide_eq_false fun m => by obtain ⟨x, _, e⟩ := List.mem_map.1 m; omega]; rfl
    · rw [decide_eq_false hh, decide_eq_true (List.mem_map.2 ⟨(binT T s i).toNat - k, List.mem_range.2 (by omega), by omega⟩)]; rfl
  have b1 : BoxP (fun c => ∃ i, i ∈ leftT T s k ∧ c = (T i).box) (gather ((List.range k).map (binsT T s))).2 := G1.2.iff fun c => by
    constructor
    · rintro ⟨j, hj, i, hi, e, hc⟩
      have := (rng i hi).2
      exact ⟨i, List.mem_filter.2 ⟨hi, decide_eq_true (by rw [List.mem_range] at hj; omega)⟩, hc⟩
    · rintro ⟨i, hi, hc⟩
      obtain ⟨hi, hlt⟩ := List.mem_filter.1 hi
      have := (rng i hi).2
      have := of_decide_eq_true hlt
      exact ⟨_, List.mem_range.2 (by omega), i, hi, rfl, hc⟩
  have b2 : BoxP (fun c => ∃ i, i ∈ restT T s k ∧ c = (T i).box) (gather ((List.range (8 - k)).map (binsT T s ∘ fun x => k + x))).2 := G2.2.iff fun c => by
    constructor
    · rintro ⟨j, hj, i, hi, e, hc⟩
      obtain ⟨x, _, rfl⟩ := List.mem_map.1 hj
      have := (rng i hi).2
      exact ⟨i, List.mem_filter.2 ⟨hi, by simp; omega⟩, hc⟩
    · rintro ⟨i, hi, hc⟩
      obtain ⟨hi, hlt⟩ := List.mem_filter.1 hi
      have := rng i hi
      have : ¬ (binT T s i < (k : Int)) := by simpa using hlt
      exact ⟨_, List.mem_map.2 ⟨(binT T s i).toNat - k, List.mem_range.2 (by omega), by omega⟩, i, hi, rfl, hc⟩
  have r1 := bxs_P hT (leftT T s k)
  have r2 := bxs_P hT (restT T s k)
  have m1 := bxs_mo hT pl
  have m2 := bxs_mo hT pr
  have n1 := b1.mo (fun c ⟨i, _, e⟩ => e ▸ (hT i).box) ⟨a, ml, rfl⟩
  have n2 := b2.mo (fun c ⟨i, _, e⟩ => e ▸ (hT i).box) ⟨b, mr, rfl⟩
  unfold costP costR sumC
  have e8 : (List.range (8 - k)).map (fun j => binsT T s (k + j)) = (List.range (8 - k)).map (binsT T s ∘ fun x => k + x) := rfl
  rw [e8, c1, c2]
  exact ⟨sum_num n1 n2 hle hre, sum_num m1 m2 hle hre, sum_same n1 n2 m1 m2 (b1.eq r1) (b2.eq r2) hle hre, pl, pr⟩
/-- A list whose middles are apart is parted by the cheapest bin, however that is reckoned. -/
theorem part_sur (hT : ∀ i, (T i).Mo) {s : List Nat} (h0 : 0 < s.length) (h5 : s.length ≤ 512) (h : (ford (hiT T s) (loT T s) == some .gt) = true) :
    partT T true s = (leftT T s (bcutT T s), restT T s (bcutT T s)) ∧ (bestR (costR T s) 7).1 = bcutT T s ∧ 1 ≤ bcutT T s ∧ bcutT T s ≤ 7 := by
  have hc := fun k k1 k7 => costs_same hT h0 h5 h (k := k) k1 k7
  obtain ⟨e1, _, _, _, e2, e3⟩ := best_same (c := costP T s) (d := costR T s) (fun k a b => (hc k a b).1) (fun k a b => (hc k a b).2.1) (fun k a b => (hc k a b).2.2.1) 6 (by omega)
  have h7 := hc (bcutT T s) e2 e3
  refine ⟨?_, e1.symm, e2, e3⟩
  unfold partT
  rw [if_pos ⟨rfl, h, h7.2.2.2.1, h7.2.2.2.2⟩]
theorem part_med {s : List Nat} {sur : Bool} (h : sur = false ∨ (ford (hiT T s) (loT T s) == some .gt) = false) : partT T sur s = ((medT T s).take ((medT T s).length / 2), (medT T s).drop ((medT T s).length / 2)) := by
  unfold partT
  rw [if_neg]
  rintro ⟨h1, h2, _⟩
  rcases h with h | h
  · rw [h] at h1; cases h1
  · rw [h] at h2; cases h2
end
end Go.Proofs.YtiblmojdjnfoaaaGreat.Fl

namespace Go.Proofs.YtiblmojdjnfoaaaGreat
open Go.RowKit Fl Lm

def bcs (b : Bx) : List Value := [.float .f64 b.a0, .float .f64 b.a1, .float .f64 b.a2, .float .f64 b.a3, .float .f64 b.a4, .float .f64 b.a5]
def bxv (b : Bx) : Value := .agg #[.float .f64 b.a0, .float .f64 b.a1, .float .f64 b.a2, .float .f64 b.a3, .float .f64 b.a4, .float .f64 b.a5]
theorem bcs_len (b : Bx) : (bcs b).length = 6 := rfl
theorem bcs_one (b : Bx) : ∀ u ∈ bcs b, u.oneCell' = true := by
  intro u hu
  simp only [bcs, List.mem_cons, List.not_mem_nil, or_false] at hu
  rcases hu with rfl | rfl | rfl | rfl | rfl | rfl <;> rfl
def tcs (t : Tr) : List Value := [.float .f64 t.t0, .float .f64 t.t1, .float .f64 t.t2, .float .f64 t.t3, .float .f64 t.t4, .float .f64 t.t5, .float .f64 t.t6, .float .f64 t.t7, .float .f64 t.t8]
def txv (t : Tr) : Value := .agg #[.float .f64 t.t0, .float .f64 t.t1, .float .f64 t.t2, .float .f64 t.t3, .float .f64 t.t4, .float .f64 t.t5, .float .f64 t.t6, .float .f64 t.t7, .float .f64 t.t8]
theorem tcs_len (t : Tr) : (tcs t).length = 9 := rfl
theorem tcs_one (t : Tr) : ∀ u ∈ tcs t, u.oneCell' = true := by
  intro u hu
  simp only [tcs, List.mem_cons, List.not_mem_nil, or_false] at hu
  rcases hu with rfl | rfl | rfl | rfl | rfl | rfl | rfl | rfl | rfl <;> rfl
def pcs (p : V3) : List Value := [.float .f64 p.x, .float .f64 p.y, .float .f64 p.z]
def pxv (p : V3) : Value := .agg #[.float .f64 p.x, .float .f64 p.y, .float .f64 p.z]
theorem pcs_len (p : V3) : (pcs p).length = 3 := rfl
theorem pcs_one (p : V3) : ∀ u ∈ pcs p, u.oneCell' = true := by
  intro u hu
  simp only [pcs, List.mem_cons, List.not_mem_nil, or_false] at hu
  rcases hu with rfl | rfl | rfl <;> rfl
def dcs (d : Nd) : List Value := [.float .f64 d.box.a0, .float .f64 d.box.a1, .float .f64 d.box.a2, .float .f64 d.box.a3, .float .f64 d.box.a4, .float .f64 d.box.a5, .int .i64 (d.left : Nat), .int .i64 (d.right : Nat), .int .i64 (d.lo : Nat), .int .i64 (d.hi : Nat)]
def dxv (d : Nd) : Value := .agg #[.float .f64 d.box.a0, .float .f64 d.box.a1, .float .f64 d.box.a2, .float .f64 d.box.a3, .float .f64 d.box.a4, .float .f64 d.box.a5, .int .i64 (d.left : Nat), .int .i64 (d.right : Nat), .int .i64 (d.lo : Nat), .int .i64 (d.hi : Nat)]
theorem dcs_len (d : Nd) : (dcs d).length = 10 := rfl
theorem dcs_one (d : Nd) : ∀ u ∈ dcs d, u.oneCell' = true := by
  intro u hu
  simp only [dcs, List.mem_cons, List.not_mem_nil, or_false] at hu
  rcases hu with rfl | rfl | rfl | rfl | rfl | rfl | rfl | rfl | rfl | rfl <;> rfl
def ncs (c : Nat × Bx) : List Value := [.int .i64 (c.1 : Nat), .float .f64 c.2.a0, .float .f64 c.2.a1, .float .f64 c.2.a2, .float .f64 c.2.a3, .float .f64 c.2.a4, .float .f64 c.2.a5]
def nxv (c : Nat × Bx) : Value := .agg #[.int .i64 (c.1 : Nat), .float .f64 c.2.a0, .float .f64 c.2.a1, .float .f64 c.2.a2, .float .f64 c.2.a3, .float .f64 c.2.a4, .float .f64 c.2.a5]
theorem ncs_len (c : Nat × Bx) : (ncs c).length = 7 := rfl
theorem ncs_one (c : Nat × Bx) : ∀ u ∈ ncs c, u.oneCell' = true := by
  intro u hu
  simp only [ncs, List.mem_cons, List.not_mem_nil, or_false] at hu
  rcases hu with rfl | rfl | rfl | rfl | rfl | rfl | rfl <;> rfl
section
variable {w : World} {g off n : Nat}
theorem bat {f : Nat → Bx} (h : Els w g off n 6 fun i => bcs (f i)) {i : Nat} (hi : i < n) : w.cell? ⟨g, off + i * 6, none⟩ = some (.float .f64 (f i).a0) ∧ w.cell? ⟨g, off + i * 6 + 1, none⟩ = some (.float .f64 (f i).a1) ∧ w.cell? ⟨g, off + i * 6 + 2, none⟩ = some (.float .f64 (f i).a2) ∧ w.cell? ⟨g, off + i * 6 + 3, none⟩ = some (.float .f64 (f i).a3) ∧ w.cell? ⟨g, off + i * 6 + 4, none⟩ = some (.float .f64 (f i).a4) ∧ w.cell? ⟨g, off + i * 6 + 5, none⟩ = some (.float .f64 (f i).a5) :=
  ⟨h.at0 hi (by omega), h.atj hi (j := 1) (by omega), h.atj hi (j := 2) (by omega), h.atj hi (j := 3) (by omega), h.atj hi (j := 4) (by omega), h.atj hi (j := 5) (by omega)⟩
theorem tat {f : Nat → Tr} (h : Els w g off n 9 fun i => tcs (f i)) {i : Nat} (hi : i < n) : w.cell? ⟨g, off + i * 9, none⟩ = some (.float .f64 (f i).t0) ∧ w.cell? ⟨g, off + i * 9 + 1, none⟩ = some (.float .f64 (f i).t1) ∧ w.cell? ⟨g, off + i * 9 + 2, none⟩ = some (.float .f64 (f i).t2) ∧ w.cell? ⟨g, off + i * 9 + 3, none⟩ = some (.float .f64 (f i).t3) ∧ w.cell? ⟨g, off + i * 9 + 4, none⟩ = some (.float .f64 (f i).t4) ∧ w.cell? ⟨g, off + i * 9 + 5, none⟩ = some (.float .f64 (f i).t5) ∧ w.cell? ⟨g, off + i * 9 + 6, none⟩ = some (.float .f64 (f i).t6) ∧ w.cell? ⟨g, off + i * 9 + 7, none⟩ = some (.float .f64 (f i).t7) ∧ w.cell? ⟨g, off + i * 9 + 8, none⟩ = some (.float .f64 (f i).t8) :=
  ⟨h.at0 hi (by omega), h.atj hi (j := 1) (by omega), h.atj hi (j := 2) (by omega), h.atj hi (j := 3) (by omega), h.atj hi (j := 4) (by omega), h.atj hi (j := 5) (by omega), h.atj hi (j := 6) (by omega), h.atj hi (j := 7) (by omega), h.atj hi (j := 8) (by omega)⟩
theorem pat {f : Nat → V3} (h : Els w g off n 3 fun i => pcs (f i)) {i : Nat} (hi : i < n) : w.cell? ⟨g, off + i * 3, none⟩ = some (.float .f64 (f i).x) ∧ w.cell? ⟨g, off + i * 3 + 1, none⟩ = some (.float .f64 (f i).y) ∧ w.cell? ⟨g, off + i * 3 + 2, none⟩ = some (.float .f64 (f i).z) :=
  ⟨h.at0 hi (by omega), h.atj hi (j := 1) (by omega), h.atj hi (j := 2) (by omega)⟩
theorem dat {f : Nat → Nd} (h : Els w g off n 10 fun i => dcs (f i)) {i : Nat} (hi : i < n) : w.cell? ⟨g, off + i * 10, none⟩ = some (.float .f64 (f i).box.a0) ∧ w.cell? ⟨g, off + i * 10 + 1, none⟩ = some (.float .f64 (f i).box.a1) ∧ w.cell? ⟨g, off + i * 10 + 2, none⟩ = some (.float .f64 (f i).box.a2) ∧ w.cell? ⟨g, off + i * 10 + 3, none⟩ = some (.float .f64 (f i).box.a3) ∧ w.cell? ⟨g, off + i * 10 + 4, none⟩ = some (.float .f64 (f i).box.a4) ∧ w.cell? ⟨g, off + i * 10 + 5, none⟩ = some (.float .f64 (f i).box.a5) ∧ w.cell? ⟨g, off + i * 10 + 6, none⟩ = some (.int .i64 ((f i).left : Nat)) ∧ w.cell? ⟨g, off + i * 10 + 7, none⟩ = some (.int .i64 ((f i).right : Nat)) ∧ w.cell? ⟨g, off + i * 10 + 8, none⟩ = some (.int .i64 ((f i).lo : Nat)) ∧ w.cell? ⟨g, off + i * 10 + 9, none⟩ = some (.int .i64 ((f i).hi : Nat)) :=
  ⟨h.at0 hi (by omega), h.atj hi (j := 1) (by omega), h.atj hi (j := 2) (by omega), h.atj hi (j := 3) (by omega), h.atj hi (j := 4) (by omega), h.atj hi (j := 5) (by omega), h.atj hi (j := 6) (by omega), h.atj hi (j := 7) (by omega), h.atj hi (j := 8) (by omega), h.atj hi (j := 9) (by omega)⟩
theorem nat {f : Nat → Nat × Bx} (h : Els w g off n 7 fun i => ncs (f i)) {i : Nat} (hi : i < n) : w.cell? ⟨g, off + i * 7, none⟩ = some (.int .i64 ((f i).1 : Nat)) ∧ w.cell? ⟨g, off + i * 7 + 1, none⟩ = some (.float .f64 (f i).2.a0) ∧ w.cell? ⟨g, off + i * 7 + 2, none⟩ = some (.float .f64 (f i).2.a1) ∧ w.cell? ⟨g, off + i * 7 + 3, none⟩ = some (.float .f64 (f i).2.a2) ∧ w.cell? ⟨g, off + i * 7 + 4, none⟩ = some (.float .f64 (f i).2.a3) ∧ w.cell? ⟨g, off + i * 7 + 5, none⟩ = some (.float .f64 (f i).2.a4) ∧ w.cell? ⟨g, off + i * 7 + 6, none⟩ = some (.float .f64 (f i).2.a5) :=
  ⟨h.at0 hi (by omega), h.atj hi (j := 1) (by omega), h.atj hi (j := 2) (by omega), h.atj hi (j := 3) (by omega), h.atj hi (j := 4) (by omega), h.atj hi (j := 5) (by omega), h.atj hi (j := 6) (by omega)⟩
end
end Go.Proofs.YtiblmojdjnfoaaaGreat
