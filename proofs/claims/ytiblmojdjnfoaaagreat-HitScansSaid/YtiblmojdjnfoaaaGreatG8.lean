/- Package box: Join. Package box: Has. Package box: Longest. Boxes as six words: joined one behind another; the least and the greatest of some words. Bins, and what they cost: numbers between -2^20 and 2^20; a bin is a whole number from 0 to 7; costs are numbers, and of equal boxes equal. Costs: numbers, of equal boxes equal; which bin parts the cheapest, told two ways. Trees by lists: nodes laid one behind another, what waits standing in a stack; numbers that rise. -/
import Derived.Deep.LoopGhost
import Derived.Test.YtiblmojdjnfoaaaGreatRows
import Derived.Test.YtiblmojdjnfoaaaGreatG7
import Derived.Test.YtiblmojdjnfoaaaGreatG2
import Derived.Test.YtiblmojdjnfoaaaGreatG3
import Derived.Test.YtiblmojdjnfoaaaGreatG5
import Derived.Test.YtiblmojdjnfoaaaGreatG6
namespace Go.Proofs.YtiblmojdjnfoaaaGreat
open Go.RowKit Fl

set_option maxRecDepth 100000 in
set_option maxHeartbeats 1000000 in
theorem join_any (a0 a1 a2 a3 a4 a5 b0 b1 b2 b3 b4 b5 : Nat) (w : World) : Ret Tryz.prog 80 #[.agg #[.float .f64 a0, .float .f64 a1, .float .f64 a2, .float .f64 a3, .float .f64 a4, .float .f64 a5], .agg #[.float .f64 b0, .float .f64 b1, .float .f64 b2, .float .f64 b3, .float .f64 b4, .float .f64 b5]] w (fun v => v = .agg #[.float .f64 (lowF a0 b0), .float .f64 (lowF a1 b1), .float .f64 (lowF a2 b2), .float .f64 (highF a3 b3), .float .f64 (highF a4 b4), .float .f64 (highF a5 b5)]) := by
  unfold Ret
  go_enter Tryz.func80, Tryz.ntmps80
  go_wp2_with fail
  apply Lp.wp_region_loose _ _ 11 (by kernel_rfl) (by kernel_rfl) (by kernel_rfl) (Below.refl _ _)
  apply Lp.facts
  · intro w1 hw
    exact And.intro (Lp.c3 hw (w.heap.size) 0 1 2 (by go_simp; exact rfl) (by go_simp; exact rfl) (by go_simp; exact rfl) (by go_simp; done)) (And.intro (Lp.c3 hw (w.heap.size) 3 4 5 (by go_simp; exact rfl) (by go_simp; exact rfl) (by go_simp; exact rfl) (by go_simp; done)) (And.intro (Lp.c3 hw (w.heap.size + 1) 0 1 2 (by go_simp; exact rfl) (by go_simp; exact rfl) (by go_simp; exact rfl) (by go_simp; done)) ((Lp.c3 hw (w.heap.size + 1) 3 4 5 (by go_simp; exact rfl) (by go_simp; exact rfl) (by go_simp; exact rfl) (by go_simp; done)))))
  intro HF
  iterate 4 (
    apply Lp.one ?_ rfl
    · intro w hw
      obtain ⟨⟨c0, c1, c2⟩, ⟨⟨c3, c4, c5⟩, ⟨⟨c6, c7, c8⟩, ⟨c9, c10, c11⟩⟩⟩⟩ := HF.out _ hw
      go_simp
      exact rfl
    intro K hK
    go_simp
    refine hK.out _ ?_
    clear hK K)
  apply Lp.any rfl
  · intro w hw
    go_simp
    exact Lp.ret (pairs_low _ _ _ _ _ _ _)
  intro K hK
  rintro v rfl
  go_simp
  refine hK.out _ ?_
  clear hK K
  iterate 4 (
    apply Lp.one ?_ rfl
    · intro w hw
      obtain ⟨⟨c0, c1, c2⟩, ⟨⟨c3, c4, c5⟩, ⟨⟨c6, c7, c8⟩, ⟨c9, c10, c11⟩⟩⟩⟩ := HF.out _ hw
      go_simp
      exact rfl
    intro K hK
    go_simp
    refine hK.out _ ?_
    clear hK K)
  apply Lp.any rfl
  · intro w hw
    go_simp
    exact Lp.ret (pairs_high _ _ _ _ _ _ _)
  intro K hK
  rintro v rfl
  go_simp
  refine hK.out _ ?_
  clear hK K
  iterate 1 (
    apply Lp.one ?_ rfl
    · intro w hw
      obtain ⟨⟨c0, c1, c2⟩, ⟨⟨c3, c4, c5⟩, ⟨⟨c6, c7, c8⟩, ⟨c9, c10, c11⟩⟩⟩⟩ := HF.out _ hw
      go_simp
      exact rfl
    intro K hK
    go_simp
    refine hK.out _ ?_
    clear hK K)
  rotate_left
  exact []
  intro w' hw'
  have HW : Hid _ := hw'
  obtain ⟨hc, hf⟩ := Lp.bcell hw'
  clear hw'
  go_wp2_with fail
  refine bodyPost_ret (v := .agg #[.float .f64 (lowF a0 b0), .float .f64 (lowF a1 b1), .float .f64 (lowF a2 b2), .float .f64 (highF a3 b3), .float .f64 (highF a4 b4), .float .f64 (highF a5 b5)]) (by simp [results, go_sem, hc]) rfl ⟨_, rfl, rfl, ?_⟩
  repeat (refine Below.setCell ?_ (by simp <;> omega) _)
  exact Cl.out3 HW.out

end Go.Proofs.YtiblmojdjnfoaaaGreat

namespace Go.Proofs.YtiblmojdjnfoaaaGreat
open Go.RowKit Fl

/-- Equal numbers. -/
def eqB (x y : Nat) : Bool := ford x y == some .eq
theorem feq_eq (x y : Nat) : Op.floatEq .f64 x y = eqB x y := rfl
def hasF (a0 a1 a2 a3 a4 a5 b0 b1 b2 b3 b4 b5 : Nat) : Bool :=
  eqB (lowF (knownF a0 ninf) b0) (knownF a0 ninf) && eqB (lowF (knownF a1 ninf) b1) (knownF a1 ninf) && eqB (lowF (knownF a2 ninf) b2) (knownF a2 ninf) && eqB (highF (knownF a3 pinf) b3) (knownF a3 pinf) && eqB (highF (knownF a4 pinf) b4) (knownF a4 pinf) && eqB (highF (knownF a5 pinf) b5) (knownF a5 pinf)

theorem ite_six (a b c d e f : Bool) (w : World) : (if a = false then Result.ok (Next.value (.bool false)) w else if b = false then .ok (.value (.bool false)) w else if c = false then .ok (.value (.bool false)) w else if d = false then .ok (.value (.bool false)) w else if e = false then .ok (.value (.bool false)) w else if f = false then .ok (.value (.bool false)) w else .ok (.value (.bool true)) w) = .ok (.value (.bool (a && b && c && d && e && f))) w := by
  cases a <;> cases b <;> cases c <;> cases d <;> cases e <;> cases f <;> rfl

def ltB (x y : Nat) : Bool := ford x y == some .lt
def gtB (x y : Nat) : Bool := ford x y == some .gt
theorem isN_pinf : isN pinf = false := by decide +kernel
theorem isN_ninf : isN ninf = false := by decide +kernel
theorem read_pinf : F64.read pinf = .infinity false := by decide +kernel
theorem read_ninf : F64.read ninf = .infinity true := by decide +kernel
theorem lt_ninf (x : Nat) : ltB x ninf = false := by
  unfold ltB ford Ieee.Format.order
  rw [read_ninf]
  cases F64.read x with
  | nan s f => rfl
  | infinity s => cases s <;> rfl
  | number s m e => rfl
theorem gt_pinf (x : Nat) : gtB x pinf = false := by
  unfold gtB ford Ieee.Format.order
  rw [read_pinf]
  cases F64.read x with
  | nan s f => rfl
  | infinity s => cases s <;> rfl
  | number s m e => rfl
theorem low_keeps {a b : Nat} (ha : isN a = false) : eqB (lowF a b) a = !ltB b a := by
  unfold lowF eqB ltB
  cases h : ford b a == some .lt
  · rw [if_neg Bool.false_ne_true, ford_refl ha]; rfl
  · rw [if_pos rfl]
    have : ford b a = some .lt := by simpa using h
    rw [this]; rfl
theorem high_keeps {a b : Nat} (ha : isN a = false) : eqB (highF a b) a = !gtB b a := by
  unfold highF eqB gtB
  cases h : ford b a == some .gt
  · rw [if_neg Bool.false_ne_true, ford_refl ha]; rfl
  · rw [if_pos rfl]
    have : ford b a = some .gt := by simpa using h
    rw [this]; rfl
theorem low_known (a b : Nat) : eqB (lowF (knownF a ninf) b) (knownF a ninf) = !ltB b a := by
  unfold knownF
  cases h : isN a
  · exact low_keeps h
  · rw [if_pos rfl, low_keeps isN_ninf, lt_ninf]
    unfold ltB; rw [ord_nan_right h]; rfl
theorem high_known (a b : Nat) : eqB (highF (knownF a pinf) b) (knownF a pinf) = !gtB b a := by
  unfold knownF
  cases h : isN a
  · exact high_keeps h
  · rw [if_pos rfl, high_keeps isN_pinf, gt_pinf]
    unfold gtB; rw [ord_nan_right h]; rfl
theorem has_eq (a0 a1 a2 a3 a4 a5 b0 b1 b2 b3 b4 b5 : Nat) : hasF a0 a1 a2 a3 a4 a5 b0 b1 b2 b3 b4 b5 = !(ltB b0 a0 || ltB b1 a1 || ltB b2 a2 || gtB b3 a3 || gtB b4 a4 || gtB b5 a5) := by
  unfold hasF
  rw [low_known, low_known, low_known, high_known, high_known, high_known]
  simp only [Bool.not_or]

end Go.Proofs.YtiblmojdjnfoaaaGreat

namespace Go.Proofs.YtiblmojdjnfoaaaGreat
open Go.RowKit Fl

/-- The longest axis of the first k. -/
def bestF (x y z : Nat) : Nat → Nat
  | 0 => 0
  | k + 1 => if gtB (partF x y z k) (partF x y z (bestF x y z k)) then k else bestF x y z k
theorem part_congr {x y z x' y' z' : Nat} (hx : Sm x x') (hy : Sm y y') (hz : Sm z z') (i : Int) : Sm (partF x y z i) (partF x' y' z' i) := by
  unfold partF
  split
  · exact hx
  · split
    · exact hy
    · exact hz
theorem best_congr {x y z x' y' z' : Nat} (hx : Sm x x') (hy : Sm y y') (hz : Sm z z') : ∀ k, bestF x y z k = bestF x' y' z' k
  | 0 => rfl
  | k + 1 => by
    show (if gtB (partF x y z k) (partF x y z (bestF x y z k)) then k else bestF x y z k) = (if gtB (partF x' y' z' k) (partF x' y' z' (bestF x' y' z' k)) then k else bestF x' y' z' k)
    rw [best_congr hx hy hz k]
    unfold gtB
    rw [ford_congr (part_congr hx hy hz _) (part_congr hx hy hz _)]
theorem best_le (x y z : Nat) : ∀ k, bestF x y z k ≤ k
  | 0 => Nat.le_refl 0
  | k + 1 => by
    show (if gtB (partF x y z k) (partF x y z (bestF x y z k)) then k else bestF x y z k) ≤ k + 1
    have := best_le x y z k
    split <;> omega

set_option maxRecDepth 100000 in
set_option maxHeartbeats 1000000 in
theorem longest_any (a0 a1 a2 a3 a4 a5 : Nat) (w : World) : Ret Tryz.prog 74 #[.agg #[.float .f64 a0, .float .f64 a1, .float .f64 a2, .float .f64 a3, .float .f64 a4, .float .f64 a5]] w (fun v => v = .int .i64 (bestF (fsub a3 a0) (fsub a4 a1) (fsub a5 a2) 3 : Nat)) := by
  unfold Ret
  go_enter Tryz.func74, Tryz.ntmps74
  go_wp2_with fail
  refine Lp.settleC (fun w' => Lp.Bk w' (w.heap.size) #[.float .f64 a0, .float .f64 a1, .float .f64 a2, .float .f64 a3, .float .f64 a4, .float .f64 a5] 54 ∧ Cl w w') ⟨(Lp.Bk.al _ _ _), (Below.refl _ _).alloc (by simp <;> omega) _⟩ ?_
  rintro v1 ⟨BA, HB⟩
  have kA := BA.cell
  refine Calls.mono (sub_any _ _ _ _ _ _ _) ?_
  rintro e v2 ⟨v, rfl, ⟨x, y, z, rfl, hx, hy, hz⟩, hm⟩
  clear kA
  replace BA := BA.keep hm
  replace HB := HB.call hm
  clear hm
  have kA := BA.cell
  go_wp2_with fail
  refine Lp.settle (fun w' => Lp.Bk w' (v2.heap.size) #[.float .f64 x, .float .f64 y, .float .f64 z] 25 ∧ Cl w w') ⟨Lp.Bk.al _ _ _, HB.alloc _⟩ ?_
  clear kA BA
  rintro v3 ⟨BN, HB⟩
  have kN := BN.cell
  have HX : Aside _ := And.intro hx (And.intro hy hz)
  clear hx hy hz
  clear kN
  go_loopg [4, 11] 3 (fun k b i wr => ∃ j : Nat, k + j = 3 ∧ i = .int .i64 (j : Int) ∧ b = .int .i64 (bestF x y z j : Nat) ∧ Lp.Bk wr (v2.heap.size) #[.float .f64 x, .float .f64 y, .float .f64 z] 25 ∧ Cl w wr)
  case atStart => exact ⟨0, rfl, rfl, rfl, BN, HB⟩
  case round =>
    clear BN HB
    obtain ⟨j, hk, rfl, rfl, BN, HB⟩ := hrel
    have HS : Aside _ := hk
    clear hk
    by_cases hj : j < 3
    · have hd : ((j : Int) < 3) = True := eq_true (by omega)
      go_wp2_with fail
      apply Lp.wp_region_loose _ _ 7 (by kernel_rfl) (by kernel_rfl) (by kernel_rfl) (Below.refl _ _)
      apply Lp.facts
      · intro w1 hw
        exact (BN.cl hw).cell
      intro HF
      iterate 2 (
        apply Lp.one ?_ rfl
        · intro w hw
          have k0 := HF.out _ hw
          go_simp
          exact rfl
        intro K hK
        go_simp
        refine hK.out _ ?_
        clear hK K)
      apply Lp.any rfl
      · intro w hw
        go_simp
        exact Lp.ret (vpart_any _ _ _ _ _)
      intro K hK
      rintro v rfl
      go_simp
      refine hK.out _ ?_
      clear hK K
      iterate 2 (
        apply Lp.one ?_ rfl
        · intro w hw
          have k0 := HF.out _ hw
          go_simp
          exact rfl
        intro K hK
        go_simp
        refine hK.out _ ?_
        clear hK K)
      apply Lp.any rfl
      · intro w hw
        go_simp
        exact Lp.ret (vpart_any _ _ _ _ _)
      intro K hK
      rintro v rfl
      go_simp
      refine hK.out _ ?_
      clear hK K
      iterate 1 (
        apply Lp.one ?_ rfl
        · intro w hw
          have k0 := HF.out _ hw
          go_simp
          exact rfl
        intro K hK
        go_simp
        refine hK.out _ ?_
        clear hK K)
      rotate_left
      exact []
      intro v4 hm
      replace BN := BN.keep hm
      replace HB := HB.call hm
      clear hm
      have kN := BN.cell
      go_wp2_with fail
      · go_roundg (gk - 1)
        case measure => have := HS.out; omega
        case rel => exact ⟨j + 1, by have := HS.out; omega, by go_num, by show _ = Value.int .i64 ((if gtB (partF x y z j) (partF x y z (bestF x y z j)) then j else bestF x y z j : Nat) : Int); rw [show gtB (partF x y z j) (partF x y z (bestF x y z j)) = true by assumption]; rfl, BN, HB⟩
      · go_roundg (gk - 1)
        case measure => have := HS.out; omega
        case rel => exact ⟨j + 1, by have := HS.out; omega, by go_num, by show _ = Value.int .i64 ((if gtB (partF x y z j) (partF x y z (bestF x y z j)) then j else bestF x y z j : Nat) : Int); rw [show gtB (partF x y z j) (partF x y z (bestF x y z j)) = false by assumption]; rfl, BN, HB⟩
    · have hj3 : j = 3 := by have := HS.out; omega
      subst hj3
      have hd : (((3 : Nat) : Int) < 3) = False := eq_false (by omega)
      go_wp2_with fail
      go_ret
      exact ⟨_, rfl, congrArg (fun n : Nat => Value.int .i64 (n : Int)) (best_congr HX.out.1.sm HX.out.2.1.sm HX.out.2.2.sm 3), HB⟩

end Go.Proofs.YtiblmojdjnfoaaaGreat

namespace Go.Proofs.YtiblmojdjnfoaaaGreat.Fl

def pinF : Nat := 9218868437227405312
def ninF : Nat := 18442240474082181120
theorem nan_pinF : isN pinF = false := by decide +kernel
theorem nan_ninF : isN ninF = false := by decide +kernel
theorem rd_pinF : F64.read pinF = .infinity false := by decide +kernel
theorem rd_ninF : F64.read ninF = .infinity true := by decide +kernel
theorem le_pinF {x : Nat} (h : isN x = false) : leB x pinF = true := leB_high rd_pinF h
theorem ninF_le {x : Nat} (h : isN x = false) : leB ninF x = true := leB_low rd_ninF h

theorem leB_anti {x y : Nat} (h : leB x y = true) (k : leB y x = true) : ford x y = some .eq := by
  unfold leB at *
  rw [ford_swap x y] at k
  cases ho : ford x y with
  | none => rw [ho] at h; simp at h
  | some o =>
    rw [ho] at h k
    cases o <;> simp_all
theorem leB_total {x y : Nat} (hx : isN x = false) (hy : isN y = false) : leB x y = true ∨ leB y x = true := by
  obtain ⟨o, ho⟩ := ford_some hx hy
  unfold leB
  rw [ford_swap x y, ho]
  cases o <;> simp

/-- x is the least of the words of S (or there is none, and x is above all). -/
structure LowP (S : Nat → Prop) (x : Nat) : Prop where
  nan : isN x = false
  le : ∀ y, S y → leB x y = true
  or : x = pinF ∨ S x
structure HighP (S : Nat → Prop) (x : Nat) : Prop where
  nan : isN x = false
  ge : ∀ y, S y → leB y x = true
  or : x = ninF ∨ S x
theorem LowP.none : LowP (fun _ => False) pinF := ⟨nan_pinF, fun _ h => h.elim, .inl rfl⟩
theorem HighP.none : HighP (fun _ => False) ninF := ⟨nan_ninF, fun _ h => h.elim, .inl rfl⟩
theorem LowP.join {S T : Nat → Prop} {a b : Nat} (ha : LowP S a) (hb : LowP T b) : LowP (fun y => S y ∨ T y) (lowF a b) := by
  refine ⟨low_num ha.nan, ?_, ?_⟩
  · rintro y (h | h)
    · exact leB_trans (low_ge b ha.nan) (ha.le y h)
    · exact leB_trans (low_ge2 ha.nan hb.nan) (hb.le y h)
  · rcases low_or a b with e | ⟨e, -⟩
    · rw [e]; exact ha.or.imp id .inl
    · rw [e]; exact hb.or.imp id .inr
theorem HighP.join {S T : Nat → Prop} {a b : Nat} (ha : HighP S a) (hb : HighP T b) : HighP (fun y => S y ∨ T y) (highF a b) := by
  refine ⟨high_num ha.nan, ?_, ?_⟩
  · rintro y (h | h)
    · exact leB_trans (ha.ge y h) (high_ge b ha.nan)
    · exact leB_trans (hb.ge y h) (high_ge2 ha.nan hb.nan)
  · rcases high_or a b with e | ⟨e, -⟩
    · rw [e]; exact ha.or.imp id .inl
    · rw [e]; exact hb.or.imp id .inr
theorem LowP.one {a : Nat} (h : isN a = false) : LowP (fun y => y = a) a := ⟨h, fun y e => by rw [show y = a from e]; exact leB_refl h, .inr rfl⟩
theorem HighP.one {a : Nat} (h : isN a = false) : HighP (fun y => y = a) a := ⟨h, fun y e => by rw [show y = a from e]; exact leB_refl h, .inr rfl⟩
theorem LowP.iff {S T : Nat → Prop} {a : Nat} (h : LowP S a) (e : ∀ y, S y ↔ T y) : LowP T a := ⟨h.nan, fun y k => h.le y ((e y).2 k), h.or.imp id (e a).1⟩
theorem HighP.iff {S T : Nat → Prop} {a : Nat} (h : HighP S a) (e : ∀ y, S y ↔ T y) : HighP T a := ⟨h.nan, fun y k => h.ge y ((e y).2 k), h.or.imp id (e a).1⟩
theorem LowP.eq {S : Nat → Prop} {a b : Nat} (h : LowP S a) (k : LowP S b) : ford a b = some .eq := by
  have f : ∀ {a b : Nat}, LowP S a → LowP S b → leB a b = true := fun {a b} h k => by
    rcases k.or with e | e
    · rw [e]; exact le_pinF h.nan
    · exact h.le _ e
  exact leB_anti (f h k) (f k h)
theorem HighP.eq {S : Nat → Prop} {a b : Nat} (h : HighP S a) (k : HighP S b) : ford a b = some .eq := by
  have f : ∀ {a b : Nat}, HighP S a → HighP S b → leB b a = true := fun {a b} h k => by
    rcases k.or with e | e
    · rw [e]; exact ninF_le h.nan
    · exact h.ge _ e
  exact leB_anti (f k h) (f h k)

/-- Six words. -/
structure Bx where
  a0 : Nat
  a1 : Nat
  a2 : Nat
  a3 : Nat
  a4 : Nat
  a5 : Nat
deriving DecidableEq
def Bx.join (a b : Bx) : Bx := ⟨lowF a.a0 b.a0, lowF a.a1 b.a1, lowF a.a2 b.a2, highF a.a3 b.a3, highF a.a4 b.a4, highF a.a5 b.a5⟩
def Bx.none : Bx := ⟨pinF, pinF, pinF, ninF, ninF, ninF⟩
/-- No part is no number. -/
structure Bx.Ok (b : Bx) : Prop where
  h0 : isN b.a0 = false
  h1 : isN b.a1 = false
  h2 : isN b.a2 = false
  h3 : isN b.a3 = false
  h4 : isN b.a4 = false
  h5 : isN b.a5 = false
/-- b is the box of those of S. -/
structure BoxP (S : Bx → Prop) (b : Bx) : Prop where
  h0 : LowP (fun y => ∃ c, S c ∧ y = c.a0) b.a0
  h1 : LowP (fun y => ∃ c, S c ∧ y = c.a1) b.a1
  h2 : LowP (fun y => ∃ c, S c ∧ y = c.a2) b.a2
  h3 : HighP (fun y => ∃ c, S c ∧ y = c.a3) b.a3
  h4 : HighP (fun y => ∃ c, S c ∧ y = c.a4) b.a4
  h5 : HighP (fun y => ∃ c, S c ∧ y = c.a5) b.a5
theorem BoxP.ok {S : Bx → Prop} {b : Bx} (h : BoxP S b) : b.Ok := ⟨h.h0.nan, h.h1.nan, h.h2.nan, h.h3.nan, h.h4.nan, h.h5.nan⟩
theorem BoxP.none : BoxP (fun _ => False) Bx.none := by
  constructor <;> first
    | exact LowP.none.iff fun _ => ⟨fun h => h.elim, fun ⟨_, h, _⟩ => h.elim⟩
    | exact HighP.none.iff fun _ => ⟨fun h => h.elim, fun ⟨_, h, _⟩ => h.elim⟩
theorem BoxP.one {b : Bx} (h : b.Ok) : BoxP (fun c => c = b) b := by
  obtain ⟨h0, h1, h2, h3, h4, h5⟩ := h
  refine ⟨(LowP.one h0).iff ?_, (LowP.one h1).iff ?_, (LowP.one h2).iff ?_, (HighP.one h3).iff ?_, (HighP.one h4).iff ?_, (HighP.one h5).iff ?_⟩ <;>
    exact fun y => ⟨fun e => ⟨b, rfl, e⟩, fun ⟨c, e, k⟩ => by rw [k, e]⟩
theorem or_ex {S T : Bx → Prop} {f : Bx → Nat} (y : Nat) : ((∃ c, S c ∧ y = f c) ∨ (∃ c, T c ∧ y = f c)) ↔ ∃ c, (S c ∨ T c) ∧ y = f c :=
  ⟨fun h => h.elim (fun ⟨c, h, e⟩ => ⟨c, .inl h, e⟩) (fun ⟨c, h, e⟩ => ⟨c, .inr h, e⟩), fun ⟨c, h, e⟩ => h.elim (fun h => .inl ⟨c, h, e⟩) (fun h => .inr ⟨c, h, e⟩)⟩
theorem BoxP.join {S T : Bx → Prop} {a b : Bx} (ha : BoxP S a) (hb : BoxP T b) : BoxP (fun c => S c ∨ T c) (a.join b) :=
  ⟨(ha.h0.join hb.h0).iff or_ex, (ha.h1.join hb.h1).iff or_ex, (ha.h2.join hb.h2).iff or_ex, (ha.h3.join hb.h3).iff or_ex, (ha.h4.join hb.h4).iff or_ex, (ha.h5.join hb.h5).iff or_ex⟩
theorem BoxP.iff {S T : Bx → Prop} {b : Bx} (h : BoxP S b) (e : ∀ c, S c ↔ T c) : BoxP T b := by
  obtain ⟨h0, h1, h2, h3, h4, h5⟩ := h
  refine ⟨h0.iff ?_, h1.iff ?_, h2.iff ?_, h3.iff ?_, h4.iff ?_, h5.iff ?_⟩ <;> exact fun y => by simp only [e]
/-- Equal boxes, part by part (0 and -0 are). -/
structure Bx.Eq (a b : Bx) : Prop where
  h0 : ford a.a0 b.a0 = some .eq
  h1 : ford a.a1 b.a1 = some .eq
  h2 : ford a.a2 b.a2 = some .eq
  h3 : ford a.a3 b.a3 = some .eq
  h4 : ford a.a4 b.a4 = some .eq
  h5 : ford a.a5 b.a5 = some .eq
theorem BoxP.eq {S : Bx → Prop} {a b : Bx} (h : BoxP S a) (k : BoxP S b) : a.Eq b := ⟨h.h0.eq k.h0, h.h1.eq k.h1, h.h2.eq k.h2, h.h3.eq k.h3, h.h4.eq k.h4, h.h5.eq k.h5⟩
theorem Bx.Ok.eq {a : Bx} (h : a.Ok) : a.Eq a := ⟨ford_refl h.h0, ford_refl h.h1, ford_refl h.h2, ford_refl h.h3, ford_refl h.h4, ford_refl h.h5⟩
/-- A box joined with one that it has stays as it is. -/
theorem BoxP.has {S : Bx → Prop} {a b : Bx} (h : BoxP S a) (hb : S b) : a.join b = a := by
  obtain ⟨h0, h1, h2, h3, h4, h5⟩ := h
  unfold Bx.join
  rw [low_le (h0.le _ ⟨b, hb, rfl⟩), low_le (h1.le _ ⟨b, hb, rfl⟩), low_le (h2.le _ ⟨b, hb, rfl⟩), high_le (h3.ge _ ⟨b, hb, rfl⟩), high_le (h4.ge _ ⟨b, hb, rfl⟩), high_le (h5.ge _ ⟨b, hb, rfl⟩)]
/-- All of a list's, one behind another. -/
def Bx.all (l : List Bx) : Bx := l.foldl Bx.join Bx.none
theorem BoxP.fold : ∀ (l : List Bx) (S : Bx → Prop) (b : Bx), BoxP S b → (∀ c, c ∈ l → c.Ok) → BoxP (fun c => S c ∨ c ∈ l) (l.foldl Bx.join b)
  | [], _, _, h, _ => h.iff fun c => by simp
  | x :: l, S, b, h, ho => (BoxP.fold l _ _ (h.join (BoxP.one (ho x (by simp)))) (fun c hc => ho c (by simp [hc]))).iff fun c => by simp [or_assoc]
theorem BoxP.all {l : List Bx} (h : ∀ c, c ∈ l → c.Ok) : BoxP (· ∈ l) (Bx.all l) := (BoxP.fold l _ _ BoxP.none h).iff fun c => by simp
theorem Bx.all_snoc (l : List Bx) (b : Bx) : Bx.all (l ++ [b]) = (Bx.all l).join b := by simp [Bx.all]
end Go.Proofs.YtiblmojdjnfoaaaGreat.Fl

namespace Go.Proofs.YtiblmojdjnfoaaaGreat.Fl

theorem num_in {x lo hi : Nat} (h1 : Num lo) (h2 : Num hi) (a : leB lo x = true) (b : leB x hi = true) : Num x ∧ val lo ≤ val x ∧ val x ≤ val hi := by
  have hx : Num x := by
    rcases num_or_inf (leB_not_nan a).2 with h | ⟨s, h⟩
    · exact h
    · exfalso
      cases s
      · have := inf_gt h h2
        unfold leB at b
        rw [this] at b
        simp at b
      · have := ord_low h h1
        have e := leB_of_lt this
        have := leB_anti a e
        rw [ford_swap x lo, ‹ford x lo = _›] at this
        cases this
  rw [leB_val h1 hx] at a
  rw [leB_val hx h2] at b
  exact ⟨hx, of_decide_eq_true a, of_decide_eq_true b⟩

def m20 : Nat := 13920626448202203136
theorem num_m20 : Num m20 := ⟨true, 4503599627370496, -32, by decide +kernel⟩
theorem val_m20 : val m20 = -1048576 := by decide +kernel
/-- A number from -2^20 to 2^20. -/
structure Mo (x : Nat) : Prop where
  num : Num x
  lo : -1048576 ≤ val x
  hi : val x ≤ 1048576
/-- As it is asked. -/
def moB (x : Nat) : Bool := leB m20 x && leB x maxW
theorem mo_of {x : Nat} (h : moB x = true) : Mo x := by
  unfold moB at h
  rw [Bool.and_eq_true] at h
  have := num_in num_m20 num_max h.1 h.2
  rw [val_m20, val_max] at this
  exact ⟨this.1, this.2.1, this.2.2⟩
theorem Mo.nan {x : Nat} (h : Mo x) : isN x = false := not_nan_num h.num
theorem mo_zero : Mo 0 := ⟨num_zero, by rw [val_zero]; decide, by rw [val_zero]; decide⟩
theorem LowP.mo {S : Nat → Prop} {x : Nat} (h : LowP S x) (hs : ∀ y, S y → Mo y) {y : Nat} (hy : S y) : Mo x ∧ S x := by
  rcases h.or with e | e
  · exfalso
    have l := h.le y hy
    rw [e] at l
    have := inf_gt rd_pinF (hs y hy).num
    unfold leB at l
    rw [this] at l
    simp at l
  · exact ⟨hs x e, e⟩
theorem HighP.mo {S : Nat → Prop} {x : Nat} (h : HighP S x) (hs : ∀ y, S y → Mo y) {y : Nat} (hy : S y) : Mo x ∧ S x := by
  rcases h.or with e | e
  · exfalso
    have l := h.ge y hy
    rw [e] at l
    have := ord_low rd_ninF (hs y hy).num
    have e2 := leB_anti l (leB_of_lt this)
    rw [ford_swap ninF y, this] at e2
    cases e2
  · exact ⟨hs x e, e⟩
/-- A box of such numbers. -/
structure Bx.Mo (b : Bx) : Prop where
  h0 : Fl.Mo b.a0
  h1 : Fl.Mo b.a1
  h2 : Fl.Mo b.a2
  h3 : Fl.Mo b.a3
  h4 : Fl.Mo b.a4
  h5 : Fl.Mo b.a5
theorem Bx.Mo.ok {b : Bx} (h : b.Mo) : b.Ok := ⟨h.h0.nan, h.h1.nan, h.h2.nan, h.h3.nan, h.h4.nan, h.h5.nan⟩
theorem BoxP.mo {S : Bx → Prop} {b c : Bx} (h : BoxP S b) (hs : ∀ c, S c → c.Mo) (hc : S c) : b.Mo :=
  ⟨(h.h0.mo (fun _ ⟨c, hc, e⟩ => e ▸ (hs c hc).h0) ⟨c, hc, rfl⟩).1, (h.h1.mo (fun _ ⟨c, hc, e⟩ => e ▸ (hs c hc).h1) ⟨c, hc, rfl⟩).1, (h.h2.mo (fun _ ⟨c, hc, e⟩ => e ▸ (hs c hc).h2) ⟨c, hc, rfl⟩).1, (h.h3.mo (fun _ ⟨c, hc, e⟩ => e ▸ (hs c hc).h3) ⟨c, hc, rfl⟩).1, (h.h4.mo (fun _ ⟨c, hc, e⟩ => e ▸ (hs c hc).h4) ⟨c, hc, rfl⟩).1, (h.h5.mo (fun _ ⟨c, hc, e⟩ => e ▸ (hs c hc).h5) ⟨c, hc, rfl⟩).1⟩

/-! Middles. -/
def P21 : Nat := 4701758010974797824
def M21 : Nat := 13925130047829573632
theorem num_P21 : Num P21 := ⟨false, 4503599627370496, -31, by decide +kernel⟩
theorem num_M21 : Num M21 := ⟨true, 4503599627370496, -31, by decide +kernel⟩
theorem val_P21 : val P21 = 2097152 := by decide +kernel
theorem val_M21 : val M21 = -2097152 := by decide +kernel
theorem num_half : Num half := ⟨false, 4503599627370496, -53, by decide +kernel⟩
theorem val_half : val half = 1 / 2 := by decide +kernel
theorem mid_mo {x y : Nat} (hx : Mo x) (hy : Mo y) : Mo (fmul (fadd x y) half) := by
  have vm := val_max; have vn := val_m20
  have a1 := hx.lo; have a2 := hx.hi; have a3 := hy.lo; have a4 := hy.hi
  have e1 : fadd m20 m20 = M21 := by decide +kernel
  have e2 : fadd maxW maxW = P21 := by decide +kernel
  have l1 := add_mono num_m20 num_m20 hx.num hy.num (by rw [vn]; grind)
  have l2 := add_mono hx.num hy.num num_max num_max (by rw [vm]; grind)
  rw [e1] at l1
  rw [e2] at l2
  obtain ⟨hn, b1, b2⟩ := num_in num_M21 num_P21 l1 l2
  rw [val_M21] at b1
  rw [val_P21] at b2
  have f1 : fmul M21 half = m20 := by decide +kernel
  have f2 : fmul P21 half = maxW := by decide +kernel
  have k1 := mul_mono num_M21 num_half hn num_half (by rw [val_half, val_M21]; grind)
  have k2 := mul_mono hn num_half num_P21 num_half (by rw [val_half, val_P21]; grind)
  rw [f1] at k1
  rw [f2] at k2
  obtain ⟨hm, c1, c2⟩ := num_in num_m20 num_max k1 k2
  rw [vn] at c1
  rw [vm] at c2
  exact ⟨hm, c1, c2⟩

/-! Sides. -/
theorem side_num {x y : Nat} (hx : Mo x) (hy : Mo y) : Num (fsub x y) ∧ -2097152 ≤ val (fsub x y) ∧ val (fsub x y) ≤ 2097152 := by
  have a1 := hx.lo; have a2 := hx.hi; have a3 := hy.lo; have a4 := hy.hi
  have e1 : fsub m20 maxW = M21 := by decide +kernel
  have e2 : fsub maxW m20 = P21 := by decide +kernel
  have l1 := sub_mono num_m20 num_max hx.num hy.num (by rw [val_m20, val_max]; grind)
  have l2 := sub_mono hx.num hy.num num_max num_m20 (by rw [val_m20, val_max]; grind)
  rw [e1] at l1
  rw [e2] at l2
  have := num_in num_M21 num_P21 l1 l2
  rwa [val_M21, val_P21] at this
theorem grid {x : Nat} (hx : Num x) : ∃ a : Int, val x = a * pw (-1074) := by
  obtain ⟨s, m, e, hr⟩ := hx
  have b := read_low hr
  obtain ⟨k, hk⟩ : ∃ k : Nat, e = k + (-1074) := ⟨(e + 1074).toNat, by omega⟩
  have hv : val x = sg s ((m : Rat) * 2 ^ e) := by unfold val; rw [hr, dval_number]
  have h2 : (2 : Rat) ^ e = ((2 ^ k : Nat) : Rat) * pw (-1074) := by rw [hk, p2_add, p2_nat]; rfl
  rw [hv, h2]
  cases s
  · refine ⟨((m * 2 ^ k : Nat) : Int), ?_⟩
    simp only [sg, Bool.false_eq_true, if_false]
    rw [← Rat.mul_assoc, ← Rat.natCast_mul]
    rfl
  · refine ⟨-((m * 2 ^ k : Nat) : Int), ?_⟩
    simp only [sg, if_true]
    rw [← Rat.mul_assoc, ← Rat.natCast_mul, Rat.intCast_neg, Rat.neg_mul]
    rfl
theorem sub_pos {x y : Nat} (hx : Num x) (hy : Num y) (h : val y < val x) (hn : Num (fsub x y)) : 0 < val (fsub x y) := by
  obtain ⟨neg, mag, place, e, hv⟩ := sub_near hx hy
  obtain ⟨a, ha⟩ := grid hx
  obtain ⟨b, hb⟩ := grid hy
  have hp := pw_pos (-1074)
  have hab : b < a := by
    rcases Int.lt_or_le b a with h1 | h1
    · exact h1
    · exfalso
      have : (a : Rat) ≤ b := Rat.intCast_le_intCast.2 h1
      have := Rat.mul_le_mul_of_nonneg_right this (Rat.le_of_lt hp)
      rw [← ha, ← hb] at this
      grind
  have h1 : ((b + 1 : Int) : Rat) ≤ a := Rat.intCast_le_intCast.2 hab
  rw [Rat.intCast_add] at h1
  have h2 := Rat.mul_le_mul_of_nonneg_right h1 (Rat.le_of_lt hp)
  rw [Rat.add_mul, ← ha, ← hb, show ((1 : Int) : Rat) = 1 from rfl, Rat.one_mul] at h2
  have hd : dval (.number false 1 (-1074)) ≤ dval (.number neg mag place) := by rw [dval_pw, hv]; grind
  have l := nearest_mono hd
  obtain ⟨n1, v1⟩ := n_pw (n := -1074) (by omega) (by omega)
  rw [← e, leB_val n1 hn, v1] at l
  have := of_decide_eq_true l
  grind

/-! Bins. -/
def k8 : Nat := 4620693217682128896
theorem num_k8 : Num k8 := ⟨false, 4503599627370496, -49, by decide +kernel⟩
theorem val_k8 : val k8 = 8 := by decide +kernel
def q8F (lo hi x : Nat) : Nat := fmul k8 (fdiv (fsub x lo) (fsub hi lo))
def binF (lo hi x : Nat) : Int := min (truncF (q8F lo hi x)) 7
structure Bin (lo hi x : Nat) : Prop where
  s1 : Num (fsub x lo)
  s2 : Num (fsub hi lo)
  s2p : 0 < val (fsub hi lo)
  q1 : Num (fdiv (fsub x lo) (fsub hi lo))
  q8 : Num (q8F lo hi x)
  conv : floatToIntVal .f64 (q8F lo hi x) .i64 = some (truncF (q8F lo hi x))
  t0 : 0 ≤ truncF (q8F lo hi x)
  t8 : truncF (q8F lo hi x) ≤ 8
theorem bin_of {lo hi x : Nat} (hl : Mo lo) (hh : Mo hi) (hx : Mo x) (h1 : val lo ≤ val x) (h2 : val x ≤ val hi) (h : val lo < val hi) : Bin lo hi x := by
  have s1 := (side_num hx hl).1
  have s2 := (side_num hh hl).1
  have s2p := sub_pos hh.num hl.num h s2
  have z : fsub lo lo = 0 := by obtain ⟨s, m, e, hr⟩ := hl.num; exact sub_self_num hr
  have s10 : 0 ≤ val (fsub x lo) := by
    have l := sub_mono hl.num hl.num hx.num hl.num (by grind)
    rw [z, leB_val num_zero s1, val_zero] at l
    exact of_decide_eq_true l
  have s12 : val (fsub x lo) ≤ val (fsub hi lo) := by
    have l := sub_mono hx.num hl.num hh.num hl.num (by grind)
    rw [leB_val s1 s2] at l
    exact of_decide_eq_true l
  obtain ⟨q1, q10, q11⟩ := div_unit s1 s2 s10 s12 s2p
  have e0 : fmul k8 0 = 0 := by decide +kernel
  have e1 : fmul k8 w1 = k8 := by decide +kernel
  have v1 : val w1 = 1 := by decide +kernel
  have n1 : Num w1 := ⟨false, 4503599627370496, -52, by decide +kernel⟩
  have l1 := mul_mono num_k8 num_zero num_k8 q1 (by rw [val_k8, val_zero]; grind)
  have l2 := mul_mono num_k8 q1 num_k8 n1 (by rw [val_k8, v1]; grind)
  rw [e0] at l1
  rw [e1] at l2
  obtain ⟨n8, b1, b2⟩ := num_in num_zero num_k8 l1 l2
  rw [val_zero] at b1
  rw [val_k8] at b2
  have tr := trunc_floor n8 b1
  have e' : truncF (q8F lo hi x) = (val (q8F lo hi x)).floor := by
    unfold truncF
    rw [show q8F lo hi x = fmul k8 (fdiv (fsub x lo) (fsub hi lo)) from rfl, tr]
    rfl
  have f0 : 0 ≤ (val (q8F lo hi x)).floor := by
    have := floor_mono (x := ((0 : Nat) : Rat)) (y := val (q8F lo hi x)) b1
    rw [floor_nat] at this
    exact this
  have f8 : (val (q8F lo hi x)).floor ≤ 8 := by
    have := floor_mono (x := val (q8F lo hi x)) (y := ((8 : Nat) : Rat)) b2
    rw [floor_nat] at this
    exact this
  refine ⟨s1, s2, s2p, q1, n8, ?_, by rw [e']; exact f0, by rw [e']; exact f8⟩
  rw [e']
  unfold floatToIntVal
  rw [show (FloatKind.f64.decode (q8F lo hi x)).toInt .zero = some (val (q8F lo hi x)).floor from tr]
  have lo' : IntKind.i64.min = -9223372036854775808 := by decide +kernel
  have hi' : IntKind.i64.max = 9223372036854775807 := by decide +kernel
  dsimp only
  rw [lo', hi', if_pos ⟨by omega, by omega⟩]
theorem bin_lo {lo hi : Nat} (hl : Mo lo) (s2 : Num (fsub hi lo)) (s2p : 0 < val (fsub hi lo)) : binF lo hi lo = 0 := by
  have z : fsub lo lo = 0 := by obtain ⟨s, m, e, hr⟩ := hl.num; exact sub_self_num hr
  have e0 : fmul k8 0 = 0 := by decide +kernel
  unfold binF q8F
  rw [z, fdiv_zero s2 s2p, e0]
  decide +kernel
theorem bin_hi {lo hi : Nat} (s2 : Num (fsub hi lo)) (s2p : 0 < val (fsub hi lo)) : binF lo hi hi = 7 := by
  have e1 : fmul k8 w1 = k8 := by decide +kernel
  unfold binF q8F
  rw [fdiv_self s2 s2p, e1]
  decide +kernel
end Go.Proofs.YtiblmojdjnfoaaaGreat.Fl

namespace Go.Proofs.YtiblmojdjnfoaaaGreat.Fl

def P42 : Nat := 4796333603149578240
def M42 : Nat := 14019705640004354048
def P43 : Nat := 4800837202776948736
def M43 : Nat := 14024209239631724544
def P44 : Nat := 4805340802404319232
def M44 : Nat := 14028712839259095040
def P9 : Nat := 4647714815446351872
def P53 : Nat := 4845873199050653696
def M53 : Nat := 14069245235905429504
def P54 : Nat := 4850376798678024192
def M54 : Nat := 14073748835532800000
theorem rd_P42 : F64.read P42 = .number false 4503599627370496 (-10) := by decide +kernel
theorem num_P42 : Num P42 := ⟨_, _, _, rd_P42⟩
theorem rd_M42 : F64.read M42 = .number true 4503599627370496 (-10) := by decide +kernel
theorem num_M42 : Num M42 := ⟨_, _, _, rd_M42⟩
theorem rd_P43 : F64.read P43 = .number false 4503599627370496 (-9) := by decide +kernel
theorem num_P43 : Num P43 := ⟨_, _, _, rd_P43⟩
theorem rd_M43 : F64.read M43 = .number true 4503599627370496 (-9) := by decide +kernel
theorem num_M43 : Num M43 := ⟨_, _, _, rd_M43⟩
theorem rd_P44 : F64.read P44 = .number false 4503599627370496 (-8) := by decide +kernel
theorem num_P44 : Num P44 := ⟨_, _, _, rd_P44⟩
theorem rd_M44 : F64.read M44 = .number true 4503599627370496 (-8) := by decide +kernel
theorem num_M44 : Num M44 := ⟨_, _, _, rd_M44⟩
theorem rd_P9 : F64.read P9 = .number false 4503599627370496 (-43) := by decide +kernel
theorem num_P9 : Num P9 := ⟨_, _, _, rd_P9⟩
theorem rd_P53 : F64.read P53 = .number false 4503599627370496 (1) := by decide +kernel
theorem num_P53 : Num P53 := ⟨_, _, _, rd_P53⟩
theorem rd_M53 : F64.read M53 = .number true 4503599627370496 (1) := by decide +kernel
theorem num_M53 : Num M53 := ⟨_, _, _, rd_M53⟩
theorem rd_P54 : F64.read P54 = .number false 4503599627370496 (2) := by decide +kernel
theorem num_P54 : Num P54 := ⟨_, _, _, rd_P54⟩
theorem rd_M54 : F64.read M54 = .number true 4503599627370496 (2) := by decide +kernel
theorem num_M54 : Num M54 := ⟨_, _, _, rd_M54⟩
theorem val_P42 : val P42 = 4398046511104 := by unfold val; rw [rd_P42]; decide +kernel
theorem val_M42 : val M42 = -4398046511104 := by unfold val; rw [rd_M42]; decide +kernel
theorem val_P43 : val P43 = 8796093022208 := by unfold val; rw [rd_P43]; decide +kernel
theorem val_M43 : val M43 = -8796093022208 := by unfold val; rw [rd_M43]; decide +kernel
theorem val_P44 : val P44 = 17592186044416 := by unfold val; rw [rd_P44]; decide +kernel
theorem val_M44 : val M44 = -17592186044416 := by unfold val; rw [rd_M44]; decide +kernel
theorem val_P9 : val P9 = 512 := by unfold val; rw [rd_P9]; decide +kernel
theorem val_P53 : val P53 = 9007199254740992 := by unfold val; rw [rd_P53]; decide +kernel
theorem val_M53 : val M53 = -9007199254740992 := by unfold val; rw [rd_M53]; decide +kernel
theorem val_P54 : val P54 = 18014398509481984 := by unfold val; rw [rd_P54]; decide +kernel
theorem val_M54 : val M54 = -18014398509481984 := by unfold val; rw [rd_M54]; decide +kernel

/-- Of numbers between -A and A, and -B and B, the product lies between -AB and AB. -/
theorem prod_in {x y A B : Rat} (h1 : -A ≤ x) (h2 : x ≤ A) (h3 : -B ≤ y) (h4 : y ≤ B) : -(A * B) ≤ x * y ∧ x * y ≤ A * B := by
  have a := Rat.mul_nonneg (show 0 ≤ A - x by grind) (show 0 ≤ B - y by grind)
  have b := Rat.mul_nonneg (show 0 ≤ A + x by grind) (show 0 ≤ B + y by grind)
  have c := Rat.mul_nonneg (show 0 ≤ A - x by grind) (show 0 ≤ B + y by grind)
  have d := Rat.mul_nonneg (show 0 ≤ A + x by grind) (show 0 ≤ B - y by grind)
  constructor <;> grind
theorem mul_in {x y : Nat} (hx : Num x) (hy : Num y) (x1 : -2097152 ≤ val x) (x2 : val x ≤ 2097152) (y1 : -2097152 ≤ val y) (y2 : val y ≤ 2097152) : Num (fmul x y) ∧ -4398046511104 ≤ val (fmul x y) ∧ val (fmul x y) ≤ 4398046511104 := by
  obtain ⟨p1, p2⟩ := prod_in (A := 2097152) (B := 2097152) x1 x2 y1 y2
  have e1 : fmul M21 P21 = M42 := by decide +kernel
  have e2 : fmul P21 P21 = P42 := by decide +kernel
  have l1 := mul_mono num_M21 num_P21 hx hy (by rw [val_M21, val_P21]; grind)
  have l2 := mul_mono hx hy num_P21 num_P21 (by rw [val_P21]; grind)
  rw [e1] at l1
  rw [e2] at l2
  have := num_in num_M42 num_P42 l1 l2
  rwa [val_M42, val_P42] at this
theorem half_in {x y z : Nat} (hx : Num x) (hy : Num y) (hz : Num z) (x1 : -2097152 ≤ val x) (x2 : val x ≤ 2097152) (y1 : -2097152 ≤ val y) (y2 : val y ≤ 2097152) (z1 : -2097152 ≤ val z) (z2 : val z ≤ 2097152) :
    Num (fmul x y) ∧ Num (fmul y z) ∧ Num (fmul z x) ∧ Num (fadd (fmul x y) (fmul y z)) ∧ Num (halfF x y z) ∧ -17592186044416 ≤ val (halfF x y z) ∧ val (halfF x y z) ≤ 17592186044416 := by
  obtain ⟨n1, a1, a2⟩ := mul_in hx hy x1 x2 y1 y2
  obtain ⟨n2, b1, b2⟩ := mul_in hy hz y1 y2 z1 z2
  obtain ⟨n3, c1, c2⟩ := mul_in hz hx z1 z2 x1 x2
  have e1 : fadd M42 M42 = M43 := by decide +kernel
  have e2 : fadd P42 P42 = P43 := by decide +kernel
  have l1 := add_mono num_M42 num_M42 n1 n2 (by rw [val_M42]; grind)
  have l2 := add_mono n1 n2 num_P42 num_P42 (by rw [val_P42]; grind)
  rw [e1] at l1
  rw [e2] at l2
  obtain ⟨n4, d1, d2⟩ := num_in num_M43 num_P43 l1 l2
  rw [val_M43] at d1
  rw [val_P43] at d2
  have f1 : fadd M43 M43 = M44 := by decide +kernel
  have f2 : fadd P43 P43 = P44 := by decide +kernel
  have k1 := add_mono num_M43 num_M43 n4 n3 (by rw [val_M43]; grind)
  have k2 := add_mono n4 n3 num_P43 num_P43 (by rw [val_P43]; grind)
  rw [f1] at k1
  rw [f2] at k2
  have := num_in num_M44 num_P44 k1 k2
  rw [val_M44, val_P44] at this
  exact ⟨n1, n2, n3, n4, this⟩

theorem eq_val {x y : Nat} (hx : Num x) (hy : Num y) (h : ford x y = some .eq) : val x = val y := by
  have a : leB x y = true := by unfold leB; rw [h]; rfl
  have b : leB y x = true := by unfold leB; rw [ford_swap x y, h]; rfl
  rw [leB_val hx hy] at a
  rw [leB_val hy hx] at b
  have := of_decide_eq_true a
  have := of_decide_eq_true b
  grind
theorem add_same' {x y u v : Nat} (hx : Num x) (hy : Num y) (hu : Num u) (hv : Num v) (h : val x + val y = val u + val v) (h1 : Num (fadd x y)) (h2 : Num (fadd u v)) : val (fadd x y) = val (fadd u v) := by
  have a := add_mono hx hy hu hv (by grind)
  have b := add_mono hu hv hx hy (by grind)
  exact eq_val h1 h2 (leB_anti a b)
theorem sub_same' {x y u v : Nat} (hx : Num x) (hy : Num y) (hu : Num u) (hv : Num v) (h : val x - val y = val u - val v) (h1 : Num (fsub x y)) (h2 : Num (fsub u v)) : val (fsub x y) = val (fsub u v) := by
  have a := sub_mono hx hy hu hv (by grind)
  have b := sub_mono hu hv hx hy (by grind)
  exact eq_val h1 h2 (leB_anti a b)
theorem mul_same' {x y u v : Nat} (hx : Num x) (hy : Num y) (hu : Num u) (hv : Num v) (h : val x * val y = val u * val v) (h1 : Num (fmul x y)) (h2 : Num (fmul u v)) : val (fmul x y) = val (fmul u v) := by
  have a := mul_mono hx hy hu hv (by grind)
  have b := mul_mono hu hv hx hy (by grind)
  exact eq_val h1 h2 (leB_anti a b)

/-- Half of a box's surface; as often as there are so many. -/
def Bx.halfw (b : Bx) : Nat := halfF (fsub b.a3 b.a0) (fsub b.a4 b.a1) (fsub b.a5 b.a2)
def costF (b : Bx) (n : Nat) : Nat := fmul b.halfw (floatOfInt .f64 n)
theorem Bx.Mo.halfw {b : Bx} (h : b.Mo) : Num (Bx.halfw b) ∧ -17592186044416 ≤ val (Bx.halfw b) ∧ val (Bx.halfw b) ≤ 17592186044416 := by
  obtain ⟨n0, a0, b0⟩ := side_num h.h3 h.h0
  obtain ⟨n1, a1, b1⟩ := side_num h.h4 h.h1
  obtain ⟨n2, a2, b2⟩ := side_num h.h5 h.h2
  exact (half_in n0 n1 n2 a0 b0 a1 b1 a2 b2).2.2.2.2
theorem half_same {a b : Bx} (ha : a.Mo) (hb : b.Mo) (h : a.Eq b) : val a.halfw = val b.halfw := by
  obtain ⟨n0, a0, b0⟩ := side_num ha.h3 ha.h0
  obtain ⟨n1, a1, b1⟩ := side_num ha.h4 ha.h1
  obtain ⟨n2, a2, b2⟩ := side_num ha.h5 ha.h2
  obtain ⟨m0, c0, d0⟩ := side_num hb.h3 hb.h0
  obtain ⟨m1, c1, d1⟩ := side_num hb.h4 hb.h1
  obtain ⟨m2, c2, d2⟩ := side_num hb.h5 hb.h2
  have e0 := sub_same' ha.h3.num ha.h0.num hb.h3.num hb.h0.num (by rw [eq_val ha.h3.num hb.h3.num h.h3, eq_val ha.h0.num hb.h0.num h.h0]) n0 m0
  have e1 := sub_same' ha.h4.num ha.h1.num hb.h4.num hb.h1.num (by rw [eq_val ha.h4.num hb.h4.num h.h4, eq_val ha.h1.num hb.h1.num h.h1]) n1 m1
  have e2 := sub_same' ha.h5.num ha.h2.num hb.h5.num hb.h2.num (by rw [eq_val ha.h5.num hb.h5.num h.h5, eq_val ha.h2.num hb.h2.num h.h2]) n2 m2
  obtain ⟨p1, p2, p3, p4, p5, _⟩ := half_in n0 n1 n2 a0 b0 a1 b1 a2 b2
  obtain ⟨q1, q2, q3, q4, q5, _⟩ := half_in m0 m1 m2 c0 d0 c1 d1 c2 d2
  have f1 := mul_same' n0 n1 m0 m1 (by rw [e0, e1]) p1 q1
  have f2 := mul_same' n1 n2 m1 m2 (by rw [e1, e2]) p2 q2
  have f3 := mul_same' n2 n0 m2 m0 (by rw [e2, e0]) p3 q3
  have f4 := add_same' p1 p2 q1 q2 (by rw [f1, f2]) p4 q4
  exact add_same' p4 p3 q4 q3 (by rw [f4, f3]) p5 q5
theorem cost_num {b : Bx} {n : Nat} (h : b.Mo) (hn : n ≤ 512) : Num (costF b n) ∧ -9007199254740992 ≤ val (costF b n) ∧ val (costF b n) ≤ 9007199254740992 := by
  obtain ⟨h1, h2, h3⟩ := h.halfw
  obtain ⟨k1, k2⟩ := ofint_val (n := (n : Int)) (by omega) (by omega)
  have k3 : (0 : Rat) ≤ ((n : Int) : Rat) := Rat.intCast_le_intCast.2 (by omega : (0 : Int) ≤ n)
  have k4 : ((n : Int) : Rat) ≤ ((512 : Int) : Rat) := Rat.intCast_le_intCast.2 (by omega)
  have k5 : ((512 : Int) : Rat) = 512 := rfl
  obtain ⟨p1, p2⟩ := prod_in (A := 17592186044416) (B := 512) h2 h3 (by rw [k2]; grind) (show val (floatOfInt .f64 n) ≤ 512 by rw [k2]; grind)
  have e1 : fmul M44 P9 = M53 := by decide +kernel
  have e2 : fmul P44 P9 = P53 := by decide +kernel
  have l1 := mul_mono num_M44 num_P9 h1 k1 (by rw [val_M44, val_P9]; grind)
  have l2 := mul_mono h1 k1 num_P44 num_P9 (by rw [val_P44, val_P9]; grind)
  rw [e1] at l1
  rw [e2] at l2
  have := num_in num_M53 num_P53 l1 l2
  rwa [val_M53, val_P53] at this
theorem cost_same {a b : Bx} {n : Nat} (ha : a.Mo) (hb : b.Mo) (h : a.Eq b) (hn : n ≤ 512) : val (costF a n) = val (costF b n) := by
  have k1 := (ofint_val (n := (n : Int)) (by omega) (by omega)).1
  exact mul_same' ha.halfw.1 k1 hb.halfw.1 k1 (by rw [half_same ha hb h]) (cost_num ha hn).1 (cost_num hb hn).1
theorem sum_num {a b : Bx} {n m : Nat} (ha : a.Mo) (hb : b.Mo) (hn : n ≤ 512) (hm : m ≤ 512) : Num (fadd (costF a n) (costF b m)) := by
  obtain ⟨h1, h2, h3⟩ := cost_num ha hn
  obtain ⟨k1, k2, k3⟩ := cost_num hb hm
  have e1 : fadd M53 M53 = M54 := by decide +kernel
  have e2 : fadd P53 P53 = P54 := by decide +kernel
  have l1 := add_mono num_M53 num_M53 h1 k1 (by rw [val_M53]; grind)
  have l2 := add_mono h1 k1 num_P53 num_P53 (by rw [val_P53]; grind)
  rw [e1] at l1
  rw [e2] at l2
  exact (num_in num_M54 num_P54 l1 l2).1
theorem sum_same {a b c d : Bx} {n m : Nat} (ha : a.Mo) (hb : b.Mo) (hc : c.Mo) (hd : d.Mo) (h : a.Eq c) (k : b.Eq d) (hn : n ≤ 512) (hm : m ≤ 512) : val (fadd (costF a n) (costF b m)) = val (fadd (costF c n) (costF d m)) :=
  add_same' (cost_num ha hn).1 (cost_num hb hm).1 (cost_num hc hn).1 (cost_num hd hm).1 (by rw [cost_same ha hc h hn, cost_same hb hd k hm]) (sum_num ha hb hn hm) (sum_num hc hd hn hm)

/-- The cheapest of the first k; at first none is (the least cost is infinite). -/
def bestP (c : Nat → Nat) : Nat → Nat × Nat
  | 0 => (0, pinF)
  | k + 1 => if ford (c (k + 1)) (bestP c k).2 == some .lt then (k + 1, c (k + 1)) else bestP c k
/-- The other way: none is, as long as its number is 0. -/
def bestR (c : Nat → Nat) : Nat → Nat × Nat
  | 0 => (0, 0)
  | k + 1 => if (bestR c k).1 == 0 || ford (c (k + 1)) (bestR c k).2 == some .lt then (k + 1, c (k + 1)) else bestR c k
theorem best_same {c d : Nat → Nat} (hc : ∀ k, 1 ≤ k → k ≤ 7 → Num (c k)) (hd : ∀ k, 1 ≤ k → k ≤ 7 → Num (d k)) (h : ∀ k, 1 ≤ k → k ≤ 7 → val (c k) = val (d k)) :
    ∀ k, k < 7 → (bestP c (k + 1)).1 = (bestR d (k + 1)).1 ∧ Num (bestP c (k + 1)).2 ∧ Num (bestR d (k + 1)).2 ∧ val (bestP c (k + 1)).2 = val (bestR d (k + 1)).2 ∧ 1 ≤ (bestP c (k + 1)).1 ∧ (bestP c (k + 1)).1 ≤ k + 1 := by
  intro k
  induction k with
  | zero =>
    intro _
    have hp : (ford (c 1) pinF == some .lt) = true := by
      have := inf_gt rd_pinF (hc 1 (by omega) (by omega))
      rw [ford_swap pinF (c 1), this]
      rfl
    have e1 : bestP c 1 = (1, c 1) := by
      show (if ford (c 1) pinF == some .lt then _ else _) = _
      rw [if_pos hp]
    have e2 : bestR d 1 = (1, d 1) := rfl
    rw [show 0 + 1 = 1 from rfl, e1, e2]
    exact ⟨rfl, hc 1 (by omega) (by omega), hd 1 (by omega) (by omega), h 1 (by omega) (by omega), by omega, by omega⟩
  | succ k ih =>
    intro hk
    obtain ⟨h1, h2, h3, h4, h5, h6⟩ := ih (by omega)
    have g1 := hc (k + 2) (by omega) (by omega)
    have g2 := hd (k + 2) (by omega) (by omega)
    have g3 := h (k + 2) (by omega) (by omega)
    have e1 : bestP c (k + 1 + 1) = if ford (c (k + 2)) (bestP c (k + 1)).2 == some .lt then (k + 2, c (k + 2)) else bestP c (k + 1) := rfl
    have e2 : bestR d (k + 1 + 1) = if (bestR d (k + 1)).1 == 0 || ford (d (k + 2)) (bestR d (k + 1)).2 == some .lt then (k + 2, d (k + 2)) else bestR d (k + 1) := rfl
    have e3 : ((bestR d (k + 1)).1 == 0) = false := by rw [← h1]; exact beq_false_of_ne (by omega)
    rw [e3, Bool.false_or, ← ord_same g1 h2 g2 h3 g3 h4] at e2
    rw [e1, e2]
    by_cases hb : (ford (c (k + 2)) (bestP c (k + 1)).2 == some .lt) = true
    · rw [if_pos hb, if_pos hb]
      exact ⟨rfl, g1, g2, g3, by show 1 ≤ k + 2; omega, by show k + 2 ≤ k + 1 + 1; omega⟩
    · rw [if_neg hb, if_neg hb]
      exact ⟨h1, h2, h3, h4, h5, by omega⟩
end Go.Proofs.YtiblmojdjnfoaaaGreat.Fl

namespace Go.Proofs.YtiblmojdjnfoaaaGreat.Fl

/-- A node. -/
structure Nd where
  box : Bx
  left : Nat
  right : Nat
  lo : Nat
  hi : Nat
deriving DecidableEq

/-- x at its place among numbers that rise. -/
def putIn (x : Nat) : List Nat → List Nat
  | [] => [x]
  | y :: l => if y < x then y :: putIn x l else x :: y :: l
def riseF (l : List Nat) : List Nat := l.foldl (fun o x => putIn x o) []
theorem putIn_perm (x : Nat) : ∀ l, (putIn x l).Perm (x :: l)
  | [] => .refl _
  | y :: l => by
    unfold putIn
    split
    · exact ((putIn_perm x l).cons y).trans (.swap x y l)
    · exact .refl _
theorem putIn_rises (x : Nat) : ∀ l, l.Pairwise (· ≤ ·) → (putIn x l).Pairwise (· ≤ ·)
  | [], _ => by simp [putIn]
  | y :: l, h => by
    unfold putIn
    have hy := List.pairwise_cons.1 h
    split
    · rename_i hlt
      refine List.pairwise_cons.2 ⟨fun z hz => ?_, putIn_rises x l hy.2⟩
      rcases List.mem_cons.1 ((putIn_perm x l).mem_iff.1 hz) with rfl | hz
      · omega
      · exact hy.1 z hz
    · refine List.pairwise_cons.2 ⟨fun z hz => ?_, h⟩
      rcases List.mem_cons.1 hz with rfl | hz
      · omega
      · have := hy.1 z hz
        omega
theorem rise_fold : ∀ (l o : List Nat), o.Pairwise (· ≤ ·) → (l.foldl (fun o x => putIn x o) o).Perm (o ++ l) ∧ (l.foldl (fun o x => putIn x o) o).Pairwise (· ≤ ·)
  | [], o, h => by simpa using h
  | x :: l, o, h => by
    have ih := rise_fold l (putIn x o) (putIn_rises x o h)
    refine ⟨ih.1.trans ?_, ih.2⟩
    have h1 : (putIn x o ++ l).Perm (x :: o ++ l) := (putIn_perm x o).append_right l
    exact h1.trans List.perm_middle.symm
theorem rise_perm (l : List Nat) : (riseF l).Perm l := by
  have h := (rise_fold l [] .nil).1
  rwa [List.nil_append] at h
theorem rise_rises (l : List Nat) : (riseF l).Pairwise (· ≤ ·) := (rise_fold l [] .nil).2
theorem rise_len (l : List Nat) : (riseF l).length = l.length := (rise_perm l).length_eq
/-- Two that rise, of the same numbers, are one. -/
theorem rises_one : ∀ {l m : List Nat}, l.Perm m → l.Pairwise (· ≤ ·) → m.Pairwise (· ≤ ·) → l = m
  | [], m, h, _, _ => h.nil_eq
  | x :: l, [], h, _, _ => absurd h.length_eq (by simp)
  | x :: l, y :: m, h, hl, hm => by
    have a := List.pairwise_cons.1 hl
    have b := List.pairwise_cons.1 hm
    have e : x = y := by
      have h1 : x ≤ y := by
        rcases List.mem_cons.1 (h.mem_iff.2 (List.mem_cons_self : y ∈ y :: m)) with e | e
        · omega
        · exact a.1 y e
      have h2 : y ≤ x := by
        rcases List.mem_cons.1 (h.mem_iff.1 (List.mem_cons_self : x ∈ x :: l)) with e | e
        · omega
        · exact b.1 x e
      omega
    subst e
    rw [rises_one h.cons_inv a.2 b.2]
theorem rise_uniq {l m : List Nat} (h : m.Perm l) (hm : m.Pairwise (· ≤ ·)) : m = riseF l := rises_one (h.trans (rise_perm l).symm) hm (rise_rises l)
theorem rise_range {l : List Nat} {n : Nat} (h : l.Perm (List.range n)) : riseF l = List.range n :=
  (rise_uniq h.symm (List.pairwise_lt_range.imp fun h => Nat.le_of_lt h)).symm

/-- How lists are parted: of one of more than 4 two parts are left that have all of it, none of them empty. -/
structure Parts where
  part : List Nat → List Nat × List Nat
  box : List Nat → Bx
  perm : ∀ l, 4 < l.length → ((part l).1 ++ (part l).2).Perm l
  one : ∀ l, 4 < l.length → 0 < (part l).1.length
  two : ∀ l, 4 < l.length → 0 < (part l).2.length
section
variable (S : Parts)
def szT : Nat → List Nat → Nat
  | 0, _ => 1
  | f + 1, l => if l.length ≤ 4 then 1 else szT f (S.part l).1 + szT f (S.part l).2 + 1
def orT : Nat → List Nat → List Nat
  | 0, l => riseF l
  | f + 1, l => if l.length ≤ 4 then riseF l else orT f (S.part l).1 ++ orT f (S.part l).2
def leafOf (p : Nat) (l : List Nat) : Nd := ⟨S.box l, 0, 0, p, p + l.length⟩
def ndT : Nat → Nat → Nat → List Nat → List Nd
  | 0, _, p, l => [leafOf S p l]
  | f + 1, k, p, l => if l.length ≤ 4 then [leafOf S p l] else
    ⟨S.box l, k + 1, k + 1 + szT S f (S.part l).1, 0, 0⟩ :: (ndT f (k + 1) p (S.part l).1 ++ ndT f (k + 1 + szT S f (S.part l).1) (p + (S.part l).1.length) (S.part l).2)
theorem Parts.sum {l : List Nat} (h : 4 < l.length) : (S.part l).1.length + (S.part l).2.length = l.length := by
  have := (S.perm l h).length_eq
  simpa using this
theorem szT_more : ∀ (f g : Nat) (l : List Nat), l.length ≤ f → l.length ≤ g → szT S f l = szT S g l
  | 0, g, l, h, _ => by cases g <;> simp [szT, show l.length ≤ 4 by omega]
  | f + 1, 0, l, _, h => by simp [szT, show l.length ≤ 4 by omega]
  | f + 1, g + 1, l, hf, hg => by
    unfold szT
    split
    · rfl
    · rename_i h4
      have hs := S.sum (l := l) (by omega)
      have h1 := S.one l (by omega)
      have h2 := S.two l (by omega)
      rw [szT_more f g _ (by omega) (by omega), szT_more f g _ (by omega) (by omega)]
theorem orT_more : ∀ (f g : Nat) (l : List Nat), l.length ≤ f → l.length ≤ g → orT S f l = orT S g l
  | 0, g, l, h, _ => by cases g <;> simp [orT, show l.length ≤ 4 by omega]
  | f + 1, 0, l, _, h => by simp [orT, show l.length ≤ 4 by omega]
  | f + 1, g + 1, l, hf, hg => by
    unfold orT
    split
    · rfl
    · rename_i h4
      have hs := S.sum (l := l) (by omega)
      have h1 := S.one l (by omega)
      have h2 := S.two l (by omega)
      rw [orT_more f g _ (by omega) (by omega), orT_more f g _ (by omega) (by omega)]
theorem ndT_more : ∀ (f g k p : Nat) (l : List Nat), l.length ≤ f → l.length ≤ g → ndT S f k p l = ndT S g k p l
  | 0, g, k, p, l, h, _ => by cases g <;> simp [ndT, show l.length ≤ 4 by omega]
  | f + 1, 0, k, p, l, _, h => by simp [ndT, show l.length ≤ 4 by omega]
  | f + 1, g + 1, k, p, l, hf, hg => by
    unfold ndT
    split
    · rfl
    · rename_i h4
      have hs := S.sum (l := l) (by omega)
      have h1 := S.one l (by omega)
      have h2 := S.two l (by omega)
      rw [ndT_more f g _ _ _ (by omega) (by omega), ndT_more f g _ _ _ (by omega) (by omega), szT_more S f g _ (by omega) (by omega)]
def szL (l : List Nat) : Nat := szT S l.length l
def orL (l : List Nat) : List Nat := orT S l.length l
def ndL (k p : Nat) (l : List Nat) : List Nd := ndT S l.length k p l
section
variable {l : List Nat}
theorem sz_leaf (h : l.length ≤ 4) : szL S l = 1 := by
  unfold szL
  cases hl : l.length <;> simp [szT, h]
theorem sz_node (h : 4 < l.length) : szL S l = szL S (S.part l).1 + szL S (S.part l).2 + 1 := by
  have hs := S.sum h
  have h1 := S.one l h
  have h2 := S.two l h
  unfold szL
  obtain ⟨f, hf⟩ : ∃ f, l.length = f + 1 := ⟨l.length - 1, by omega⟩
  rw [hf]
  conv => lhs; unfold szT
  rw [if_neg (by omega), szT_more S f _ (S.part l).1 (by omega) (Nat.le_refl _), szT_more S f _ (S.part l).2 (by omega) (Nat.le_refl _)]
theorem or_leaf (h : l.length ≤ 4) : orL S l = riseF l := by
  unfold orL
  cases hl : l.length <;> simp [orT, h]
theorem or_node (h : 4 < l.length) : orL S l = orL S (S.part l).1 ++ orL S (S.part l).2 := by
  have hs := S.sum h
  have h1 := S.one l h
  have h2 := S.two l h
  unfold orL
  obtain ⟨f, hf⟩ : ∃ f, l.length = f + 1 := ⟨l.length - 1, by omega⟩
  rw [hf]
  conv => lhs; unfold orT
  rw [if_neg (by omega), orT_more S f _ (S.part l).1 (by omega) (Nat.le_refl _), orT_more S f _ (S.part l).2 (by omega) (Nat.le_refl _)]
theorem nd_leaf (k p : Nat) (h : l.length ≤ 4) : ndL S k p l = [leafOf S p l] := by
  unfold ndL
  cases hl : l.length <;> simp [ndT, h]
theorem nd_node (k p : Nat) (h : 4 < l.length) : ndL S k p l = ⟨S.box l, k + 1, k + 1 + szL S (S.part l).1, 0, 0⟩ :: (ndL S (k + 1) p (S.part l).1 ++ ndL S (k + 1 + szL S (S.part l).1) (p + (S.part l).1.length) (S.part l).2) := by
  have hs := S.sum h
  have h1 := S.one l h
  have h2 := S.two l h
  unfold ndL szL
  obtain ⟨f, hf⟩ : ∃ f, l.length = f + 1 := ⟨l.length - 1, by omega⟩
  rw [hf]
  conv => lhs; unfold ndT
  rw [if_neg (by omega), ndT_more S f _ _ _ (S.part l).1 (by omega) (Nat.le_refl _), ndT_more S f _ _ _ (S.part l).2 (by omega) (Nat.le_refl _), szT_more S f _ (S.part l).1 (by omega) (Nat.le_refl _)]
end
theorem by_parts {C : List Nat → Prop} (leaf : ∀ l, l.length ≤ 4 → C l) (node : ∀ l, 4 < l.length → C (S.part l).1 → C (S.part l).2 → C l) (l : List Nat) : C l := by
  have : ∀ n (l : List Nat), l.length ≤ n → C l := by
    intro n
    induction n with
    | zero => exact fun l h => leaf l (by omega)
    | succ n ih =>
      intro l h
      by_cases h4 : l.length ≤ 4
      · exact leaf l h4
      · have hs := S.sum (l := l) (by omega)
        have h1 := S.one l (by omega)
        have h2 := S.two l (by omega)
        exact node l (by omega) (ih _ (by omega)) (ih _ (by omega))
  exact this l.length l (Nat.le_refl _)
theorem nd_len (l : List Nat) : ∀ k p, (ndL S k p l).length = szL S l := by
  refine by_parts S (C := fun l => ∀ k p, (ndL S k p l).length = szL S l) (fun l h k p => ?_) (fun l h h1 h2 k p => ?_) l
  · rw [nd_leaf S k p h, sz_leaf S h]; rfl
  · rw [nd_node S k p h, sz_node S h, List.length_cons, List.length_append, h1, h2]
theorem or_perm (l : List Nat) : (orL S l).Perm l := by
  refine by_parts S (C := fun l => (orL S l).Perm l) (fun l h => ?_) (fun l h h1 h2 => ?_) l
  · rw [or_leaf S h]; exact rise_perm l
  · rw [or_node S h]; exact (h1.append h2).trans (S.perm l h)
theorem sz_pos (l : List Nat) : 0 < szL S l := by
  refine by_parts S (C := fun l => 0 < szL S l) (fun l h => ?_) (fun l h _ _ => ?_) l
  · rw [sz_leaf S h]; decide
  · rw [sz_node S h]; omega
theorem sz_le (l : List Nat) : szL S l + 1 ≤ 2 * max l.length 1 := by
  refine by_parts S (C := fun l => szL S l + 1 ≤ 2 * max l.length 1) (fun l h => ?_) (fun l h h1 h2 => ?_) l
  · rw [sz_leaf S h]; omega
  · have hs := S.sum h
    have a1 := S.one l h
    have a2 := S.two l h
    rw [sz_node S h]; omega
theorem nd_head (l : List Nat) (k p : Nat) : ∃ x t, ndL S k p l = x :: t ∧ x.box = S.box l := by
  by_cases h : l.length ≤ 4
  · exact ⟨_, _, nd_leaf S k p h, rfl⟩
  · exact ⟨_, _, nd_node S k p (by omega), rfl⟩

/-- What is still to be laid: the lists of a stack, the first one next; k nodes, p places are laid. -/
def ndS : Nat → Nat → List (List Nat) → List Nd
  | _, _, [] => []
  | k, p, l :: s => ndL S k p l ++ ndS (k + szL S l) (p + l.length) s
def orS (s : List (List Nat)) : List Nat := s.flatMap (orL S)
section
variable {l : List Nat} {s : List (List Nat)} (k p : Nat)
theorem ndS_leaf (h : l.length ≤ 4) : ndS S k p (l :: s) = leafOf S p l :: ndS S (k + 1) (p + l.length) s := by
  rw [ndS, nd_leaf S k p h, sz_leaf S h]; rfl
theorem orS_leaf (h : l.length ≤ 4) : orS S (l :: s) = riseF l ++ orS S s := by
  unfold orS; rw [List.flatMap_cons, or_leaf S h]
theorem ndS_node (h : 4 < l.length) : ndS S k p (l :: s) = ⟨S.box l, k + 1, k + 1 + szL S (S.part l).1, 0, 0⟩ :: ndS S (k + 1) p ((S.part l).1 :: (S.part l).2 :: s) := by
  have hs := S.sum h
  rw [ndS, nd_node S k p h, sz_node S h, ndS, ndS, List.cons_append, List.append_assoc]
  congr 4
  · omega
  · omega
theorem orS_node (h : 4 < l.length) : orS S (l :: s) = orS S ((S.part l).1 :: (S.part l).2 :: s) := by
  unfold orS; rw [List.flatMap_cons, or_node S h, List.flatMap_cons, List.flatMap_cons, List.append_assoc]
/-- The second list's first node. -/
theorem ndS_second {a b : List Nat} (k p : Nat) (s : List (List Nat)) : ∃ x, (ndS S k p (a :: b :: s))[szL S a]? = some x ∧ x.box = S.box b := by
  obtain ⟨x, t, e, hx⟩ := nd_head S b (k + szL S a) (p + a.length)
  refine ⟨x, ?_, hx⟩
  rw [ndS, ndS, List.getElem?_append_right (by rw [nd_len]; exact Nat.le_refl _), nd_len, Nat.sub_self, e]
  rfl
theorem ndS_first {a : List Nat} (k p : Nat) (s : List (List Nat)) : ∃ x, (ndS S k p (a :: s))[0]? = some x ∧ x.box = S.box a := by
  obtain ⟨x, t, e, hx⟩ := nd_head S a k p
  exact ⟨x, by rw [ndS, e]; rfl, hx⟩
theorem ndS_pos (h : l ∈ s) : 0 < (ndS S k p s).length := by
  cases s with
  | nil => cases h
  | cons a s => rw [ndS, List.length_append, nd_len]; have := sz_pos S a; omega
end
end
end Go.Proofs.YtiblmojdjnfoaaaGreat.Fl
