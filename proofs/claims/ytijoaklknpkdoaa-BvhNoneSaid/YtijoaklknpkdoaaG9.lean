/- Bins hold what they ought to; so both ways to reckon the cheapest one tell the same, and a list whose middles are apart is parted by it. The structs of floats and numbers: as cells, as values, in rows. Package box: Grow, Of. A region that draws its order, in one walk in the order of the text, where an operation may lean on what those told that it waits for (a block that another one made). Over any relation of worlds. -/
import Derived.Test.YtijoaklknpkdoaaG8
import Derived.Test.YtijoaklknpkdoaaG2
import Derived.Test.YtijoaklknpkdoaaRows
import Derived.Test.YtijoaklknpkdoaaG7
namespace Go.Proofs.Ytijoaklknpkdoaa.Fl

theorem gather_P (S : Nat → Bx → Prop) : ∀ (l : List (Nat × Bx)) (K : List Nat) (a : Nat × Bx) (Q : Bx → Prop), l.length = K.length → (∀ j, j < l.length → BoxP (S (K.getD j 0)) (l.getD j (0, Bx.none)).2) → BoxP Q a.2 →
    (l.foldl (fun a b => (a.1 + b.1, a.2.join b.2)) a).1 = a.1 + (l.map (·.1)).sum ∧ BoxP (fun c => Q c ∨ ∃ j, j ∈ K ∧ S j c) (l.foldl (fun a b => (a.1 + b.1, a.2.join b.2)) a).2
  | [], [], a, Q, _, _, hQ => ⟨by simp, hQ.iff fun c => by simp⟩
  | [], _ :: _, _, _, h, _, _ => absurd h (by simp)
  | _ :: _, [], _, _, h, _, _ => absurd h (by simp)
  | x :: l, k :: K, a, Q, h, hS, hQ => by
    have h0 := hS 0 (by simp)
    have ih := gather_P S l K (a.1 + x.1, a.2.join x.2) (fun c => Q c ∨ S k c) (by simpa using h) (fun j hj => by have := hS (j + 1) (by simpa using hj); simpa using this) (hQ.join (by simpa using h0))
    refine ⟨?_, ?_⟩
    · rw [List.foldl_cons, ih.1]
      simp only [List.map_cons, List.sum_cons]
      omega
    · rw [List.foldl_cons]
      refine ih.2.iff fun c => ?_
      constructor
      · rintro ((hc | hc) | ⟨j, hj, hc⟩)
        · exact .inl hc
        · exact .inr ⟨k, by simp, hc⟩
        · exact .inr ⟨j, by simp [hj], hc⟩
      · rintro (hc | ⟨j, hj, hc⟩)
        · exact .inl (.inl hc)
        · rcases List.mem_cons.1 hj with e | hj
          · exact .inl (.inr (e ▸ hc))
          · exact .inr ⟨j, hj, hc⟩
theorem gather_is {S : Nat → Bx → Prop} {f : Nat → Nat × Bx} (K : List Nat) (hf : ∀ k, k ∈ K → BoxP (S k) (f k).2) :
    (gather (K.map f)).1 = (K.map fun k => (f k).1).sum ∧ BoxP (fun c => ∃ j, j ∈ K ∧ S j c) (gather (K.map f)).2 := by
  have h := gather_P S (K.map f) K (0, Bx.none) (fun _ => False) (by simp) (fun j hj => by
    rw [List.length_map] at hj
    simp only [List.getD_eq_getElem?_getD, List.getElem?_map, List.getElem?_eq_getElem hj, Option.map_some, Option.getD_some]
    exact hf _ (List.getElem_mem hj)) BoxP.none
  refine ⟨?_, h.2.iff fun c => by simp⟩
  unfold gather
  rw [h.1, List.map_map]
  simp [Function.comp_def]

section
variable {T : Nat → Tr}
/-- What a bin holds behind the list p. -/
structure BinsP (T : Nat → Tr) (s p : List Nat) (f : Nat → Nat × Bx) : Prop where
  cnt : ∀ k, (f k).1 = (p.filter fun i => (binT T s i).toNat == k).length
  box : ∀ k, BoxP (fun c => ∃ i, i ∈ p ∧ (binT T s i).toNat = k ∧ c = (T i).box) (f k).2
theorem bins_step (hT : ∀ i, (T i).Mo) {s p : List Nat} {f : Nat → Nat × Bx} (h : BinsP T s p f) (i : Nat) : BinsP T s (p ++ [i]) (stepB T s f i) := by
  refine ⟨fun k => ?_, fun k => ?_⟩
  · unfold stepB updB
    rw [List.filter_append, List.length_append, ← h.cnt k]
    by_cases e : k = (binT T s i).toNat
    · rw [if_pos e, ← e]
      simp [gather, e]
    · rw [if_neg e]
      simp [Ne.symm e]
  · unfold stepB updB
    by_cases e : k = (binT T s i).toNat
    · rw [if_pos e]
      have h1 := (BoxP.none.join (h.box (binT T s i).toNat)).join (BoxP.one (hT i).box.ok)
      refine h1.iff fun c => ?_
      constructor
      · rintro ((h | ⟨j, hj, hk, e2⟩) | h)
        · exact h.elim
        · exact ⟨j, by simp [hj], by rw [hk, e], e2⟩
        · exact ⟨i, by simp, e.symm, h⟩
      · rintro ⟨j, hj, hk, e2⟩
        rcases List.mem_append.1 hj with hj | hj
        · exact .inl (.inr ⟨j, hj, by rw [hk, e], e2⟩)
        · simp only [List.mem_singleton] at hj
          subst hj
          exact .inr e2
    · rw [if_neg e]
      refine (h.box k).iff fun c => ?_
      constructor
      · rintro ⟨j, hj, hk, e2⟩
        exact ⟨j, by simp [hj], hk, e2⟩
      · rintro ⟨j, hj, hk, e2⟩
        rcases List.mem_append.1 hj with hj | hj
        · exact ⟨j, hj, hk, e2⟩
        · simp only [List.mem_singleton] at hj
          subst hj
          exact absurd hk.symm e
theorem bins_P (hT : ∀ i, (T i).Mo) (s : List Nat) : BinsP T s s (binsT T s) := by
  have : ∀ (q p : List Nat) (f : Nat → Nat × Bx), BinsP T s p f → BinsP T s (p ++ q) (q.foldl (stepB T s) f) := by
    intro q
    induction q with
    | nil => intro p f h; simpa using h
    | cons i q ih =>
      intro p f h
      have := ih (p ++ [i]) _ (bins_step hT h i)
      simpa using this
  refine this s [] _ ⟨fun k => rfl, fun k => ?_⟩
  exact BoxP.none.iff fun c => by simp
theorem count_sum (s : List Nat) (g : Nat → Nat) : ∀ K : List Nat, K.Nodup → (K.map fun k => (s.filter fun i => g i == k).length).sum = (s.filter fun i => decide (g i ∈ K)).length
  | [], _ => by rw [List.filter_eq_nil_iff.2 (fun i _ => by simp)]; rfl
  | k :: K, h => by
    have hn := List.nodup_cons.1 h
    rw [List.map_cons, List.sum_cons, count_sum s g K hn.2]
    induction s with
    | nil => rfl
    | cons x s ih =>
      simp only [List.filter_cons, List.mem_cons]
      by_cases e : g x = k
      · have : ¬ (g x ∈ K) := by rw [e]; exact hn.1
        simp [e, hn.1] at ih ⊢
        omega
      · by_cases m : g x ∈ K
        · simp [e, m] at ih ⊢
          omega
        · simp [e, m] at ih ⊢
          omega
theorem filter_sum (s : List Nat) (p : Nat → Bool) : (s.filter p).length + (s.filter fun i => !p i).length = s.length := by
  have := (List.filter_append_perm p s).length_eq
  simpa using this

/-- The cost by bins and the cost by lists: numbers, and equal. -/
theorem costs_same (hT : ∀ i, (T i).Mo) {s : List Nat} (h0 : 0 < s.length) (h5 : s.length ≤ 512) (h : (ford (hiT T s) (loT T s) == some .gt) = true) {k : Nat} (k1 : 1 ≤ k) (k7 : k ≤ 7) :
    Num (costP T s k) ∧ Num (costR T s k) ∧ val (costP T s k) = val (costR T s k) ∧ 0 < (leftT T s k).length ∧ 0 < (restT T s k).length := by
  obtain ⟨hb, ⟨a, ha, ea⟩, ⟨b, hb', eb⟩⟩ := apart_of hT h0 h
  have B := bins_P hT s
  have rng : ∀ i, i ∈ s → (binT T s i).toNat < 8 ∧ binT T s i = ((binT T s i).toNat : Int) := fun i hi => by
    have := bin_in (hb i hi)
    unfold binT
    omega
  have ml : a ∈ leftT T s k := List.mem_filter.2 ⟨ha, by rw [ea]; exact decide_eq_true (by omega)⟩
  have mr : b ∈ restT T s k := List.mem_filter.2 ⟨hb', by rw [eb]; simp; omega⟩
  have pl := List.length_pos_of_mem ml
  have pr := List.length_pos_of_mem mr
  have hfs := filter_sum s fun i => decide (binT T s i < k)
  have hle : (leftT T s k).length ≤ 512 := by unfold leftT; omega
  have hre : (restT T s k).length ≤ 512 := by unfold restT; omega
  have G1 := gather_is (S := fun j c => ∃ i, i ∈ s ∧ (binT T s i).toNat = j ∧ c = (T i).box) (f := binsT T s) (List.range k) fun j _ => B.box j
  have G2 := gather_is (S := fun j c => ∃ i, i ∈ s ∧ (binT T s i).toNat = j ∧ c = (T i).box) (f := binsT T s) ((List.range (8 - k)).map (k + ·)) fun j _ => B.box j
  rw [List.map_map] at G2
  have c1 : (gather ((List.range k).map (binsT T s))).1 = (leftT T s k).length := by
    rw [G1.1]
    have := count_sum s (fun i => (binT T s i).toNat) (List.range k) List.nodup_range
    simp only [← B.cnt] at this
    rw [this]
    unfold leftT
    congr 1
    refine List.filter_congr fun i hi => ?_
    have := (rng i hi).2
    by_cases hh : binT T s i < (k : Int)
    · rw [decide_eq_true hh, decide_eq_true (List.mem_range.2 (by omega))]
    · rw [decide_eq_false hh, decide_eq_false (fun m => hh (by rw [List.mem_range] at m; omega))]
  have c2 : (gather ((List.range (8 - k)).map (binsT T s ∘ fun x => k + x))).1 = (restT T s k).length := by
    rw [G2.1]
    have := count_sum s (fun i => (binT T s i).toNat) ((List.range (8 - k)).map (k + ·)) (List.Pairwise.map _ (fun _ _ h e => h (Nat.add_left_cancel e)) List.nodup_range)
    simp only [← B.cnt] at this
    rw [this]
    unfold restT
    congr 1
    refine List.filter_congr fun i hi => ?_
    have := rng i hi
    by_cases hh : binT T s i < (k : Int)
    · rw [decide_eq_true hh, decide_eq_false fun m => by obtain ⟨x, _, e⟩ := List.mem_map.1 m; omega]; rfl
    · rw [decide_eq_false hh, decide_eq_true (List.mem_map.2 ⟨(binT T s i).toNat - k, List.mem_range.2 (by omega), by omega⟩)]; rfl
  have b1 : BoxP (fun c => ∃ i, i ∈ leftT T s k ∧ c = (T i).box) (gather ((List.range k).map (binsT T s))).2 := G1.2.iff fun c => by
    constructor
    · rintro ⟨j, hj, i, hi, e, hc⟩
      have := (rng i hi).2
      exact ⟨i, List.mem_filter.2 ⟨hi, decide_eq_true (by rw [List.mem_range] at hj; omega)⟩, hc⟩
    · rintro ⟨i, hi, hc⟩
      obtain ⟨hi, hlt⟩ := List.mem_filter.1 hi
      have := (rng i hi).2
      have := of_decide_eq_true hlt
      exact ⟨_, List.mem_range.2 (by omega), i, hi, rfl, hc⟩
  have b2 : BoxP (fun c => ∃ i, i ∈ restT T s k ∧ c = (T i).box) (gather ((List.range (8 - k)).map (binsT T s ∘ fun x => k + x))).2 := G2.2.iff fun c => by
    constructor
    · rintro ⟨j, hj, i, hi, e, hc⟩
      obtain ⟨x, _, rfl⟩ := List.mem_map.1 hj
      have := (rng i hi).2
      exact ⟨i, List.mem_filter.2 ⟨hi, by simp; omega⟩, hc⟩
    · rintro ⟨i, hi, hc⟩
      obtain ⟨hi, hlt⟩ := List.mem_filter.1 hi
      have := rng i hi
      have : ¬ (binT T s i < (k : Int)) := by simpa using hlt
      exact ⟨_, List.mem_map.2 ⟨(binT T s i).toNat - k, List.mem_range.2 (by omega), by omega⟩, i, hi, rfl, hc⟩
  have r1 := bxs_P hT (leftT T s k)
  have r2 := bxs_P hT (restT T s k)
  have m1 := bxs_mo hT pl
  have m2 := bxs_mo hT pr
  have n1 := b1.mo (fun c ⟨i, _, e⟩ => e ▸ (hT i).box) ⟨a, ml, rfl⟩
  have n2 := b2.mo (fun c ⟨i, _, e⟩ => e ▸ (hT i).box) ⟨b, mr, rfl⟩
  unfold costP costR sumC
  have e8 : (List.range (8 - k)).map (fun j => binsT T s (k + j)) = (List.range (8 - k)).map (binsT T s ∘ fun x => k + x) := rfl
  rw [e8, c1, c2]
  exact ⟨sum_num n1 n2 hle hre, sum_num m1 m2 hle hre, sum_same n1 n2 m1 m2 (b1.eq r1) (b2.eq r2) hle hre, pl, pr⟩
/-- A list whose middles are apart is parted by the cheapest bin, however that is reckoned. -/
theorem part_sur (hT : ∀ i, (T i).Mo) {s : List Nat} (h0 : 0 < s.length) (h5 : s.length ≤ 512) (h : (ford (hiT T s) (loT T s) == some .gt) = true) :
    partT T true s = (leftT T s (cutT T s), restT T s (cutT T s)) ∧ (bestR (costR T s) 7).1 = cutT T s ∧ 1 ≤ cutT T s ∧ cutT T s ≤ 7 := by
  have hc := fun k k1 k7 => costs_same hT h0 h5 h (k := k) k1 k7
  obtain ⟨e1, _, _, _, e2, e3⟩ := best_same (c := costP T s) (d := costR T s) (fun k a b => (hc k a b).1) (fun k a b => (hc k a b).2.1) (fun k a b => (hc k a b).2.2.1) 6 (by omega)
  have h7 := hc (cutT T s) e2 e3
  refine ⟨?_, e1.symm, e2, e3⟩
  unfold partT
  rw [if_pos ⟨rfl, h, h7.2.2.2.1, h7.2.2.2.2⟩]
theorem part_med {s : List Nat} {sur : Bool} (h : sur = false ∨ (ford (hiT T s) (loT T s) == some .gt) = false) : partT T sur s = ((medT T s).take ((medT T s).length / 2), (medT T s).drop ((medT T s).length / 2)) := by
  unfold partT
  rw [if_neg]
  rintro ⟨h1, h2, _⟩
  rcases h with h | h
  · rw [h] at h1; cases h1
  · rw [h] at h2; cases h2
end
end Go.Proofs.Ytijoaklknpkdoaa.Fl

namespace Go.Proofs.Ytijoaklknpkdoaa
open Go.RowKit Fl Lm

def bcs (b : Bx) : List Value := [.float .f64 b.a0, .float .f64 b.a1, .float .f64 b.a2, .float .f64 b.a3, .float .f64 b.a4, .float .f64 b.a5]
def bxv (b : Bx) : Value := .agg #[.float .f64 b.a0, .float .f64 b.a1, .float .f64 b.a2, .float .f64 b.a3, .float .f64 b.a4, .float .f64 b.a5]
theorem bcs_len (b : Bx) : (bcs b).length = 6 := rfl
theorem bcs_one (b : Bx) : ∀ u ∈ bcs b, u.oneCell' = true := by
  intro u hu
  simp only [bcs, List.mem_cons, List.not_mem_nil, or_false] at hu
  rcases hu with rfl | rfl | rfl | rfl | rfl | rfl <;> rfl
def tcs (t : Tr) : List Value := [.float .f64 t.t0, .float .f64 t.t1, .float .f64 t.t2, .float .f64 t.t3, .float .f64 t.t4, .float .f64 t.t5, .float .f64 t.t6, .float .f64 t.t7, .float .f64 t.t8]
def txv (t : Tr) : Value := .agg #[.float .f64 t.t0, .float .f64 t.t1, .float .f64 t.t2, .float .f64 t.t3, .float .f64 t.t4, .float .f64 t.t5, .float .f64 t.t6, .float .f64 t.t7, .float .f64 t.t8]
theorem tcs_len (t : Tr) : (tcs t).length = 9 := rfl
theorem tcs_one (t : Tr) : ∀ u ∈ tcs t, u.oneCell' = true := by
  intro u hu
  simp only [tcs, List.mem_cons, List.not_mem_nil, or_false] at hu
  rcases hu with rfl | rfl | rfl | rfl | rfl | rfl | rfl | rfl | rfl <;> rfl
def pcs (p : V3) : List Value := [.float .f64 p.x, .float .f64 p.y, .float .f64 p.z]
def pxv (p : V3) : Value := .agg #[.float .f64 p.x, .float .f64 p.y, .float .f64 p.z]
theorem pcs_len (p : V3) : (pcs p).length = 3 := rfl
theorem pcs_one (p : V3) : ∀ u ∈ pcs p, u.oneCell' = true := by
  intro u hu
  simp only [pcs, List.mem_cons, List.not_mem_nil, or_false] at hu
  rcases hu with rfl | rfl | rfl <;> rfl
def dcs (d : Nd) : List Value := [.float .f64 d.box.a0, .float .f64 d.box.a1, .float .f64 d.box.a2, .float .f64 d.box.a3, .float .f64 d.box.a4, .float .f64 d.box.a5, .int .i64 (d.left : Nat), .int .i64 (d.right : Nat), .int .i64 (d.lo : Nat), .int .i64 (d.hi : Nat)]
def dxv (d : Nd) : Value := .agg #[.float .f64 d.box.a0, .float .f64 d.box.a1, .float .f64 d.box.a2, .float .f64 d.box.a3, .float .f64 d.box.a4, .float .f64 d.box.a5, .int .i64 (d.left : Nat), .int .i64 (d.right : Nat), .int .i64 (d.lo : Nat), .int .i64 (d.hi : Nat)]
theorem dcs_len (d : Nd) : (dcs d).length = 10 := rfl
theorem dcs_one (d : Nd) : ∀ u ∈ dcs d, u.oneCell' = true := by
  intro u hu
  simp only [dcs, List.mem_cons, List.not_mem_nil, or_false] at hu
  rcases hu with rfl | rfl | rfl | rfl | rfl | rfl | rfl | rfl | rfl | rfl <;> rfl
def ncs (c : Nat × Bx) : List Value := [.int .i64 (c.1 : Nat), .float .f64 c.2.a0, .float .f64 c.2.a1, .float .f64 c.2.a2, .float .f64 c.2.a3, .float .f64 c.2.a4, .float .f64 c.2.a5]
def nxv (c : Nat × Bx) : Value := .agg #[.int .i64 (c.1 : Nat), .float .f64 c.2.a0, .float .f64 c.2.a1, .float .f64 c.2.a2, .float .f64 c.2.a3, .float .f64 c.2.a4, .float .f64 c.2.a5]
theorem ncs_len (c : Nat × Bx) : (ncs c).length = 7 := rfl
theorem ncs_one (c : Nat × Bx) : ∀ u ∈ ncs c, u.oneCell' = true := by
  intro u hu
  simp only [ncs, List.mem_cons, List.not_mem_nil, or_false] at hu
  rcases hu with rfl | rfl | rfl | rfl | rfl | rfl | rfl <;> rfl
section
variable {w : World} {g off n : Nat}
theorem bat {f : Nat → Bx} (h : Els w g off n 6 fun i => bcs (f i)) {i : Nat} (hi : i < n) : w.cell? ⟨g, off + i * 6, none⟩ = some (.float .f64 (f i).a0) ∧ w.cell? ⟨g, off + i * 6 + 1, none⟩ = some (.float .f64 (f i).a1) ∧ w.cell? ⟨g, off + i * 6 + 2, none⟩ = some (.float .f64 (f i).a2) ∧ w.cell? ⟨g, off + i * 6 + 3, none⟩ = some (.float .f64 (f i).a3) ∧ w.cell? ⟨g, off + i * 6 + 4, none⟩ = some (.float .f64 (f i).a4) ∧ w.cell? ⟨g, off + i * 6 + 5, none⟩ = some (.float .f64 (f i).a5) :=
  ⟨h.at0 hi (by omega), h.atj hi (j := 1) (by omega), h.atj hi (j := 2) (by omega), h.atj hi (j := 3) (by omega), h.atj hi (j := 4) (by omega), h.atj hi (j := 5) (by omega)⟩
theorem tat {f : Nat → Tr} (h : Els w g off n 9 fun i => tcs (f i)) {i : Nat} (hi : i < n) : w.cell? ⟨g, off + i * 9, none⟩ = some (.float .f64 (f i).t0) ∧ w.cell? ⟨g, off + i * 9 + 1, none⟩ = some (.float .f64 (f i).t1) ∧ w.cell? ⟨g, off + i * 9 + 2, none⟩ = some (.float .f64 (f i).t2) ∧ w.cell? ⟨g, off + i * 9 + 3, none⟩ = some (.float .f64 (f i).t3) ∧ w.cell? ⟨g, off + i * 9 + 4, none⟩ = some (.float .f64 (f i).t4) ∧ w.cell? ⟨g, off + i * 9 + 5, none⟩ = some (.float .f64 (f i).t5) ∧ w.cell? ⟨g, off + i * 9 + 6, none⟩ = some (.float .f64 (f i).t6) ∧ w.cell? ⟨g, off + i * 9 + 7, none⟩ = some (.float .f64 (f i).t7) ∧ w.cell? ⟨g, off + i * 9 + 8, none⟩ = some (.float .f64 (f i).t8) :=
  ⟨h.at0 hi (by omega), h.atj hi (j := 1) (by omega), h.atj hi (j := 2) (by omega), h.atj hi (j := 3) (by omega), h.atj hi (j := 4) (by omega), h.atj hi (j := 5) (by omega), h.atj hi (j := 6) (by omega), h.atj hi (j := 7) (by omega), h.atj hi (j := 8) (by omega)⟩
theorem pat {f : Nat → V3} (h : Els w g off n 3 fun i => pcs (f i)) {i : Nat} (hi : i < n) : w.cell? ⟨g, off + i * 3, none⟩ = some (.float .f64 (f i).x) ∧ w.cell? ⟨g, off + i * 3 + 1, none⟩ = some (.float .f64 (f i).y) ∧ w.cell? ⟨g, off + i * 3 + 2, none⟩ = some (.float .f64 (f i).z) :=
  ⟨h.at0 hi (by omega), h.atj hi (j := 1) (by omega), h.atj hi (j := 2) (by omega)⟩
theorem dat {f : Nat → Nd} (h : Els w g off n 10 fun i => dcs (f i)) {i : Nat} (hi : i < n) : w.cell? ⟨g, off + i * 10, none⟩ = some (.float .f64 (f i).box.a0) ∧ w.cell? ⟨g, off + i * 10 + 1, none⟩ = some (.float .f64 (f i).box.a1) ∧ w.cell? ⟨g, off + i * 10 + 2, none⟩ = some (.float .f64 (f i).box.a2) ∧ w.cell? ⟨g, off + i * 10 + 3, none⟩ = some (.float .f64 (f i).box.a3) ∧ w.cell? ⟨g, off + i * 10 + 4, none⟩ = some (.float .f64 (f i).box.a4) ∧ w.cell? ⟨g, off + i * 10 + 5, none⟩ = some (.float .f64 (f i).box.a5) ∧ w.cell? ⟨g, off + i * 10 + 6, none⟩ = some (.int .i64 ((f i).left : Nat)) ∧ w.cell? ⟨g, off + i * 10 + 7, none⟩ = some (.int .i64 ((f i).right : Nat)) ∧ w.cell? ⟨g, off + i * 10 + 8, none⟩ = some (.int .i64 ((f i).lo : Nat)) ∧ w.cell? ⟨g, off + i * 10 + 9, none⟩ = some (.int .i64 ((f i).hi : Nat)) :=
  ⟨h.at0 hi (by omega), h.atj hi (j := 1) (by omega), h.atj hi (j := 2) (by omega), h.atj hi (j := 3) (by omega), h.atj hi (j := 4) (by omega), h.atj hi (j := 5) (by omega), h.atj hi (j := 6) (by omega), h.atj hi (j := 7) (by omega), h.atj hi (j := 8) (by omega), h.atj hi (j := 9) (by omega)⟩
theorem nat {f : Nat → Nat × Bx} (h : Els w g off n 7 fun i => ncs (f i)) {i : Nat} (hi : i < n) : w.cell? ⟨g, off + i * 7, none⟩ = some (.int .i64 ((f i).1 : Nat)) ∧ w.cell? ⟨g, off + i * 7 + 1, none⟩ = some (.float .f64 (f i).2.a0) ∧ w.cell? ⟨g, off + i * 7 + 2, none⟩ = some (.float .f64 (f i).2.a1) ∧ w.cell? ⟨g, off + i * 7 + 3, none⟩ = some (.float .f64 (f i).2.a2) ∧ w.cell? ⟨g, off + i * 7 + 4, none⟩ = some (.float .f64 (f i).2.a3) ∧ w.cell? ⟨g, off + i * 7 + 5, none⟩ = some (.float .f64 (f i).2.a4) ∧ w.cell? ⟨g, off + i * 7 + 6, none⟩ = some (.float .f64 (f i).2.a5) :=
  ⟨h.at0 hi (by omega), h.atj hi (j := 1) (by omega), h.atj hi (j := 2) (by omega), h.atj hi (j := 3) (by omega), h.atj hi (j := 4) (by omega), h.atj hi (j := 5) (by omega), h.atj hi (j := 6) (by omega)⟩
end
end Go.Proofs.Ytijoaklknpkdoaa

namespace Go.Proofs.Ytijoaklknpkdoaa
open Go.RowKit Fl

set_option maxRecDepth 100000 in
set_option maxHeartbeats 1000000 in
theorem grow_any (a0 a1 a2 a3 a4 a5 p0 p1 p2 : Nat) (w : World) : Ret Try.prog 37 #[.agg #[.float .f64 a0, .float .f64 a1, .float .f64 a2, .float .f64 a3, .float .f64 a4, .float .f64 a5], .agg #[.float .f64 p0, .float .f64 p1, .float .f64 p2]] w (fun v => v = .agg #[.float .f64 (lowF a0 p0), .float .f64 (lowF a1 p1), .float .f64 (lowF a2 p2), .float .f64 (highF a3 p0), .float .f64 (highF a4 p1), .float .f64 (highF a5 p2)]) := by
  unfold Ret
  go_enter Try.func37, Try.ntmps37
  go_wp2_with fail
  refine Calls.mono (join_any _ _ _ _ _ _ _ _ _ _ _ _ _) ?_
  rintro e w' ⟨v, rfl, rfl, hw'⟩
  have HW : Hid _ := hw'
  obtain ⟨hc, hf⟩ := Lp.bcell hw'
  clear hw'
  go_wp2_with fail
  refine bodyPost_ret (v := .agg #[.float .f64 (lowF a0 p0), .float .f64 (lowF a1 p1), .float .f64 (lowF a2 p2), .float .f64 (highF a3 p0), .float .f64 (highF a4 p1), .float .f64 (highF a5 p2)]) (by simp [results, go_sem, hc]) rfl ⟨_, rfl, rfl, ?_⟩
  repeat (refine Below.setCell ?_ (by simp <;> omega) _)
  exact Cl.out3 HW.out

set_option maxRecDepth 100000 in
set_option maxHeartbeats 1000000 in
theorem of_any (t0 t1 t2 t3 t4 t5 t6 t7 t8 : Nat) (w : World) : Ret Try.prog 26 #[.agg #[.float .f64 t0, .float .f64 t1, .float .f64 t2, .float .f64 t3, .float .f64 t4, .float .f64 t5, .float .f64 t6, .float .f64 t7, .float .f64 t8]] w (fun v => v = .agg #[.float .f64 (lowF (lowF (lowF pinf t0) t3) t6), .float .f64 (lowF (lowF (lowF pinf t1) t4) t7), .float .f64 (lowF (lowF (lowF pinf t2) t5) t8), .float .f64 (highF (highF (highF ninf t0) t3) t6), .float .f64 (highF (highF (highF ninf t1) t4) t7), .float .f64 (highF (highF (highF ninf t2) t5) t8)]) := by
  unfold Ret
  go_enter Try.func26, Try.ntmps26
  go_wp2_with fail
  apply Lp.wp_region_loose _ _ 10 (by kernel_rfl) (by kernel_rfl) (by kernel_rfl) (Below.refl _ _)
  apply Lp.facts
  · intro w1 hw
    exact And.intro (Lp.c3 hw (w.heap.size) 0 1 2 (by go_simp; exact rfl) (by go_simp; exact rfl) (by go_simp; exact rfl) (by go_simp; done)) (And.intro (Lp.c3 hw (w.heap.size) 3 4 5 (by go_simp; exact rfl) (by go_simp; exact rfl) (by go_simp; exact rfl) (by go_simp; done)) ((Lp.c3 hw (w.heap.size) 6 7 8 (by go_simp; exact rfl) (by go_simp; exact rfl) (by go_simp; exact rfl) (by go_simp; done))))
  intro HF
  apply Lp.any rfl
  · intro w hw
    go_simp
    exact Lp.ret (empty_any _)
  intro K hK
  rintro v rfl
  go_simp
  refine hK.out _ ?_
  clear hK K
  iterate 2 (
    apply Lp.one ?_ rfl
    · intro w hw
      obtain ⟨⟨c0, c1, c2⟩, ⟨⟨c3, c4, c5⟩, ⟨c6, c7, c8⟩⟩⟩ := HF.out _ hw
      go_simp
      exact rfl
    intro K hK
    go_simp
    refine hK.out _ ?_
    clear hK K)
  apply Lp.any rfl
  · intro w hw
    go_simp
    exact Lp.ret (grow_any _ _ _ _ _ _ _ _ _ _)
  intro K hK
  rintro v rfl
  go_simp
  refine hK.out _ ?_
  clear hK K
  iterate 2 (
    apply Lp.one ?_ rfl
    · intro w hw
      obtain ⟨⟨c0, c1, c2⟩, ⟨⟨c3, c4, c5⟩, ⟨c6, c7, c8⟩⟩⟩ := HF.out _ hw
      go_simp
      exact rfl
    intro K hK
    go_simp
    refine hK.out _ ?_
    clear hK K)
  apply Lp.any rfl
  · intro w hw
    go_simp
    exact Lp.ret (grow_any _ _ _ _ _ _ _ _ _ _)
  intro K hK
  rintro v rfl
  go_simp
  refine hK.out _ ?_
  clear hK K
  iterate 2 (
    apply Lp.one ?_ rfl
    · intro w hw
      obtain ⟨⟨c0, c1, c2⟩, ⟨⟨c3, c4, c5⟩, ⟨c6, c7, c8⟩⟩⟩ := HF.out _ hw
      go_simp
      exact rfl
    intro K hK
    go_simp
    refine hK.out _ ?_
    clear hK K)
  apply Lp.any rfl
  · intro w hw
    go_simp
    exact Lp.ret (grow_any _ _ _ _ _ _ _ _ _ _)
  intro K hK
  rintro v rfl
  go_simp
  refine hK.out _ ?_
  clear hK K
  rotate_left
  exact []
  intro w' hw'
  have HW : Hid _ := hw'
  obtain ⟨hc, hf⟩ := Lp.bcell hw'
  clear hw'
  go_wp2_with fail
  refine bodyPost_ret (v := .agg #[.float .f64 (lowF (lowF (lowF pinf t0) t3) t6), .float .f64 (lowF (lowF (lowF pinf t1) t4) t7), .float .f64 (lowF (lowF (lowF pinf t2) t5) t8), .float .f64 (highF (highF (highF ninf t0) t3) t6), .float .f64 (highF (highF (highF ninf t1) t4) t7), .float .f64 (highF (highF (highF ninf t2) t5) t8)]) (by simp [results, go_sem, hc]) rfl ⟨_, rfl, rfl, ?_⟩
  repeat (refine Below.setCell ?_ (by simp <;> omega) _)
  exact Cl.out2 HW.out

end Go.Proofs.Ytijoaklknpkdoaa

namespace Go.Proofs.Ytijoaklknpkdoaa.Lw
open Go.RowKit Fl Lp

/-- What an operation leaves: a value of V, in a world to which R leads. -/
def Upon (P : Program) (R : World → World → Prop) (w0 : World) (V : Value → World → Prop) : Result Next → Prop
  | .ok (.value u) w' => V u w' ∧ R w0 w'
  | .ok .skip w' => V undef w' ∧ R w0 w'
  | .ok (.enter f args) w1 => Calls P f args w1 fun e w' => ∃ v, e = .returned v ∧ V v w' ∧ R w0 w'
  | _ => False

theorem Upon.some {P : Program} {R : World → World → Prop} {w0 : World} {V : Value → World → Prop} {r : Result Next} (h : Upon P R w0 V r) : ∃ v w, V v w ∧ R w0 w := by
  unfold Upon at h
  split at h
  · exact ⟨_, _, h⟩
  · exact ⟨_, _, h⟩
  · obtain ⟨_, _, _, ⟨v, _, hv, hr⟩, _⟩ := h []
    exact ⟨v, _, hv, hr⟩
  · exact h.elim

/-- What is told of a world stays true along R. -/
def Along (R : World → World → Prop) (G : World → Prop) : Prop := ∀ w w', R w w' → G w → G w'

abbrev Ev := Nat → World → Prop
def upd (E : Ev) (i : Nat) (F : World → Prop) : Ev := fun p w => E p w ∧ (p = i → F w)
theorem upd_comm (E : Ev) (i j : Nat) (F G : World → Prop) : upd (upd E i F) j G = upd (upd E j G) i F := by
  funext p w
  exact propext ⟨fun h => ⟨⟨h.1.1, h.2⟩, h.1.2⟩, fun h => ⟨⟨h.1.1, h.2⟩, h.1.2⟩⟩
theorem upd_at {E : Ev} {i : Nat} {F : World → Prop} {w : World} (h : upd E i F i w) : F w := h.2 rfl
/-- All that is known. -/
def Full (C : World → Prop) (E : Ev) (w : World) : Prop := C w ∧ ∀ p, E p w

section
variable {P : Program} {R : World → World → Prop} {ops : Array Oper} {C : World → Prop} {md : Region.Mode} {Q : Exit → Act → World → Prop}

/-- What operation i may lean on. -/
def Cn (md : Region.Mode) (ops : Array Oper) (C : World → Prop) (E : Ev) (i : Nat) (w : World) : Prop := C w ∧ ∀ p, waits md ops 5 i p = true → E p w
theorem Full.cn {E : Ev} {w : World} (h : Full C E w) (i : Nat) : Cn md ops C E i w := ⟨h.1, fun p _ => h.2 p⟩
theorem Full.upd {E : Ev} {w : World} (h : Full C E w) {i : Nat} {F : World → Prop} (hf : F w) : Full C (upd E i F) w := ⟨h.1, fun p => ⟨h.2 p, fun _ => hf⟩⟩
theorem Full.old {E : Ev} {w : World} {i : Nat} {F : World → Prop} (h : Full C (Lw.upd E i F) w) : Full C E w ∧ F w := ⟨⟨h.1, fun p => (h.2 p).1⟩, (h.2 i).2 rfl⟩
theorem cn_upd {E : Ev} {i j : Nat} {F : World → Prop} (h : waits md ops 5 j i = false) : Cn md ops C (upd E i F) j = Cn md ops C E j := by
  funext w
  refine propext ⟨fun k => ⟨k.1, fun p hp => (k.2 p hp).1⟩, fun k => ⟨k.1, fun p hp => ⟨k.2 p hp, fun e => ?_⟩⟩⟩
  subst e
  rw [h] at hp
  cases hp

/-- The values that an operation may leave in its slot, in every world of D. -/
def Gives (P : Program) (R : World → World → Prop) (ops : Array Oper) (D : World → Prop) (kd : Kd) (o : Oper) (a : Act) (S : Value → World → Prop) : Prop :=
  if Region.wanted o (yielded ops a.tmps) = true then
    match kd with
    | none => ∃ v, S = (fun u _ => u = v) ∧ ∀ w, D w → (execOp a.eval o).run P w = .ok (.value v) w
    | some V => S = V ∧ (∀ v, Along R (V v)) ∧ ∀ w, D w → Upon P R w V ((execOp a.eval o).run P w)
  else S = fun u _ => u = undef

theorem Gives.move {D : World → Prop} {kd : Kd} {o : Oper} {a a' : Act} {S : Value → World → Prop} (h : Gives P R ops D kd o a S) (he : execOp a'.eval o = execOp a.eval o)
    (hw : Region.wanted o (yielded ops a'.tmps) = Region.wanted o (yielded ops a.tmps)) : Gives P R ops D kd o a' S := by
  unfold Gives at *
  rw [he, hw]
  exact h

theorem Gives.one {D : World → Prop} {kd : Kd} {o : Oper} {a : Act} {S T : Value → World → Prop} {w : World} (hC : D w) (h : Gives P R ops D kd o a S) (k : Gives P R ops D kd o a T) : S = T := by
  unfold Gives at *
  split at h
  · rename_i hw
    rw [if_pos hw] at k
    cases kd with
    | none =>
      obtain ⟨v, rfl, hv⟩ := h
      obtain ⟨u, rfl, hu⟩ := k
      have e := (hv w hC).symm.trans (hu w hC)
      injection e with e1 _
      injection e1 with e2
      rw [e2]
    | some V => exact h.1.trans k.1.symm
  · rename_i hw
    rw [if_neg hw] at k
    exact h.trans k.symm

theorem Gives.ex {D : World → Prop} {kd : Kd} {o : Oper} {a : Act} {S : Value → World → Prop} {w : World} (hC : D w) (h : Gives P R ops D kd o a S) : ∃ v w', S v w' ∧ (w' = w ∨ R w w') := by
  unfold Gives at h
  split at h
  · cases kd with
    | none => obtain ⟨v, rfl, _⟩ := h; exact ⟨v, w, rfl, .inl rfl⟩
    | some V => obtain ⟨rfl, _, hv⟩ := h; obtain ⟨v, w', h1, h2⟩ := (hv w hC).some; exact ⟨v, w', h1, .inr h2⟩
  · exact ⟨undef, w, by rw [h], .inl rfl⟩

theorem Gives.stable {D : World → Prop} {kd : Kd} {o : Oper} {a : Act} {S : Value → World → Prop} (h : Gives P R ops D kd o a S) (v : Value) : Along R (S v) := by
  unfold Gives at h
  split at h
  · cases kd with
    | none => obtain ⟨v, rfl, _⟩ := h; exact fun _ _ _ h => h
    | some V => obtain ⟨rfl, hs, _⟩ := h; exact hs v
  · rw [h]; exact fun _ _ _ h => h

/-- One operation, number i. -/
def Step (P : Program) (R : World → World → Prop) (md : Region.Mode) (ops : Array Oper) (C : World → Prop) (kd : Kd) (i : Nat) (o : Oper) (K : Act → Ev → Prop) (a : Act) (E : Ev) : Prop :=
  ∃ S, Gives P R ops (Cn md ops C E i) kd o a S ∧ ∀ v, (∃ w, Full C E w ∧ S v w) → K (a.put o.dst v) (upd E i (S v))

theorem Full.to {E : Ev} (hC : Along R C) (hE : ∀ p, Along R (E p)) {w w' : World} (h : Full C E w) (hr : w' = w ∨ R w w') : Full C E w' := by
  rcases hr with rfl | hr
  · exact h
  · exact ⟨hC _ _ hr h.1, fun p => hE p _ _ hr (h.2 p)⟩

theorem wpOp_of_step {kd : Kd} {o : Oper} {K : Act → Ev → Prop} {a : Act} {E : Ev} {i : Nat} {w : World} {K' : Act → World → Prop} (hi : ops[i]? = some o) (hC : Along R C) (hE : ∀ p, Along R (E p)) (hw0 : Full C E w)
    (hK : ∀ a' E' w', (∀ p, Along R (E' p)) → Full C E' w' → K a' E' → K' a' w') (h : Step P R md ops C kd i o K a E) : wpOp P ops Q i K' a w := by
  obtain ⟨S, hS, hn⟩ := h
  have hst := hS.stable
  unfold Gives at hS
  unfold wpOp
  rw [hi]
  dsimp only
  have fin : ∀ v w', S v w' → Full C E w' → K' (a.put o.dst v) w' := fun v w' hv hg =>
    hK _ _ _ (fun p x y hr hx => ⟨hE p x y hr hx.1, fun e => hst v x y hr (hx.2 e)⟩) (hg.upd hv) (hn v ⟨w', hg, hv⟩)
  split at hS
  · rename_i hw
    rw [if_pos hw]
    refine .inl ?_
    unfold Oper.wp
    cases kd with
    | none =>
      obtain ⟨v, rfl, hv⟩ := hS
      rw [hv w (hw0.cn i)]
      exact fin v w rfl hw0
    | some V =>
      obtain ⟨rfl, _, hv⟩ := hS
      have h1 := hv w (hw0.cn i)
      generalize (execOp a.eval o).run P w = r at h1
      unfold Upon at h1
      split at h1
      · exact fin _ _ h1.1 (hw0.to hC hE (.inr h1.2))
      · exact fin _ _ h1.1 (hw0.to hC hE (.inr h1.2))
      · refine Calls.mono h1 fun e w'' ⟨v, he, hV, hb⟩ => ?_
        subst he
        exact fin _ _ hV (hw0.to hC hE (.inr hb))
      · exact h1.elim
  · rename_i hw
    rw [if_neg hw]
    exact fin undef w (by rw [hS]) hw0

/-- Whatever order is picked, till the first m operations are done; then F. -/
def anyL (P : Program) (R : World → World → Prop) (md : Region.Mode) (ops : Array Oper) (C : World → Prop) (kinds : Nat → Kd) (m : Nat) (F : Act → Ev → Prop) : Nat → Array Bool → Act → Ev → Prop
  | 0, listed, a, E => (∀ k, k < m → listed.getD k true = true) ∧ (∀ k, m ≤ k → k < ops.size → listed.getD k true = false) ∧ F a E
  | fuel + 1, listed, a, E => Region.ready md ops listed ≠ [] ∧ ∀ i ∈ Region.ready md ops listed, ∃ o, ops[i]? = some o ∧ Step P R md ops C (kinds i) i o (anyL P R md ops C kinds m F fuel (listed.setIfInBounds i true)) a E

theorem not_waits {listed : Array Bool} (hc : Closed md ops listed) {i j : Nat} (hi : i ∈ Region.ready md ops listed) (hj : listed.getD j true = false) : waits md ops 5 i j = false := by
  cases h : waits md ops 5 i j
  · rfl
  · exfalso
    obtain ⟨_, o, ho, hall⟩ := mem_ready.1 hi
    have := getD_true_of (waits_spec hc 5 i h fun o' ho' => by rw [ho] at ho'; cases ho'; exact hall)
    rw [hj] at this
    cases this

/-- An operation that may come up now may be taken first. -/
theorem anyL_first {kinds : Nat → Kd} {m : Nat} {F : Act → Ev → Prop} (hC : Along R C) (hL : tailWaits md ops m = true) {i : Nat} (him : i < m) {oi : Oper} (hi : ops[i]? = some oi)
    (hsel : ∀ (j : Nat) (o : Oper) cs b, ops[j]? = some o → o.op ≠ .select cs b) {S : Value → World → Prop} :
    ∀ (fuel : Nat) (listed : Array Bool) (a : Act) (E : Ev), (∀ p, Along R (E p)) → (∃ w, Full C E w) → Closed md ops listed →
      (∀ j oj, ops[j]? = some oj → j ≠ i → listed.getD j true = false → (∀ e ∈ oj.after, Region.binds md e = true → e.on ≠ i) → oi.apart ops oj = true) →
      i ∈ Region.ready md ops listed → Gives P R ops (Cn md ops C E i) (kinds i) oi a S →
      (∀ v, (∃ w, Full C E w ∧ S v w) → anyL P R md ops C kinds m F fuel (listed.setIfInBounds i true) (a.put oi.dst v) (upd E i (S v))) → anyL P R md ops C kinds m F (fuel + 1) listed a E := by
  have small : ∀ (listed : Array Bool) (j : Nat), Closed md ops listed → i ∈ Region.ready md ops listed → j ∈ Region.ready md ops listed → j < m := by
    intro listed j hc hr hj
    rcases Nat.lt_or_ge j m with h | h
    · exact h
    · have h3 := getD_true_of (tailWaits_spec hL hc h hj i (by omega) (.inl him))
      rw [(mem_ready.1 hr).1] at h3
      cases h3
  intro fuel
  induction fuel with
  | zero =>
    intro listed a E hE hw hc _ hr hG H
    refine ⟨fun h => (by rw [h] at hr; cases hr), fun j hj => ?_⟩
    by_cases hji : j = i
    · subst hji; exact ⟨oi, hi, S, hG, H⟩
    · obtain ⟨w, hw⟩ := hw
      obtain ⟨v, w', hv, hr'⟩ := hG.ex (hw.cn i)
      have h1 := (H v ⟨w', hw.to hC hE hr', hv⟩).1 j (small listed j hc hr hj)
      rw [getD_set_ne true (Ne.symm hji), (mem_ready.1 hj).1] at h1
      cases h1
  | succ fuel ih =>
    intro listed a E hE hw hc hfree hr hG H
    refine ⟨fun h => (by rw [h] at hr; cases hr), fun j hj => ?_⟩
    by_cases hji : j = i
    · subst hji; exact ⟨oi, hi, S, hG, H⟩
    · have hj0 := hj
      obtain ⟨hjun, oj, hoj, hall⟩ := mem_ready.1 hj
      have hnot : ∀ e ∈ oj.after, Region.binds md e = true → e.on ≠ i := by
        intro e he hb heq
        have h1 := getD_true_of (hall e he hb)
        rw [heq, (mem_ready.1 hr).1] at h1
        cases h1
      obtain ⟨h1, h2, h3⟩ := Oper.apart_spec (hfree j oj hoj hji hjun hnot)
      have hsi := fun cs b => hsel i oi cs b hi
      have hsj := fun cs b => hsel j oj cs b hoj
      have wij : waits md ops 5 i j = false := not_waits hc hr hjun
      have wji : waits md ops 5 j i = false := not_waits hc hj0 (mem_ready.1 hr).1
      have got : ∀ v, (∃ w, Full C E w ∧ S v w) → ∃ T, Gives P R ops (Cn md ops C E j) (kinds j) oj a T ∧ ∀ u, (∃ w, Full C (upd E i (S v)) w ∧ T u w) → anyL P R md ops C kinds m F fuel ((listed.setIfInBounds i true).setIfInBounds j true) ((a.put oi.dst v).put oj.dst u) (upd (upd E i (S v)) j (T u)) := by
        intro v hv
        obtain ⟨o', ho', T, hT, hn⟩ := (H v hv).2 j (ready_mono hj hji)
        rw [hoj] at ho'
        cases ho'
        rw [cn_upd wji] at hT
        exact ⟨T, hT.move (execOp_put oj hsj a oi.dst v h1).symm (wanted_put oj a oi.dst v h1).symm, hn⟩
      obtain ⟨w0, hw0⟩ := hw
      obtain ⟨v0, w1, hv0, hr0⟩ := hG.ex (hw0.cn i)
      obtain ⟨T, hT, _⟩ := got v0 ⟨w1, hw0.to hC hE hr0, hv0⟩
      have hTs := hT.stable
      refine ⟨oj, hoj, T, hT, fun u hu => ih (listed.setIfInBounds j true) (a.put oj.dst u) _ (fun p x y hr hx => ⟨hE p x y hr hx.1, fun e => hTs u x y hr (hx.2 e)⟩) ?_ (hc.set hj) ?_ (ready_mono hr (Ne.symm hji)) ?_ fun v hv => ?_⟩
      · obtain ⟨w, hf, ht⟩ := hu
        exact ⟨w, hf.upd ht⟩
      · intro k ok hk hki hun hno
        refine hfree k ok hk hki ?_ hno
        by_cases hjk : j = k
        · subst hjk; exact hjun
        · rw [getD_set_ne true hjk] at hun; exact hun
      · rw [cn_upd wij]
        exact hG.move (execOp_put oi hsi a oj.dst u h3) (wanted_put oi a oj.dst u h3)
      · obtain ⟨w, hf, hs⟩ := hv
        obtain ⟨hf0, ht⟩ := hf.old
        obtain ⟨T', hT', hn⟩ := got v ⟨w, hf0, hs⟩
        have e := Gives.one (hf0.cn j) hT hT'
        subst e
        have := hn u ⟨w, hf0.upd hs, ht⟩
        rw [Array.setIfInBounds_comm _ _ (Ne.symm hji)] at this
        rw [← Act.put_comm a v u h2, upd_comm]
        exact this

theorem wpAny_of_L {kinds : Nat → Kd} {m : Nat} {l : List Oper} (hC : Along R C) (hL : tailWaits md ops m = true) (hl : ∀ j, l[j]? = ops[m + j]?) (hn : m + l.length = ops.size) (hB : ∀ listed : Array Bool, listed.size = ops.size → (∀ k, k < m → listed.getD k true = true) → (∀ k, m ≤ k → k < ops.size → listed.getD k true = false) → Region.lexFrom md ops l.length m listed = true) :
    ∀ (fuel : Nat) (listed : Array Bool) (a : Act) (E : Ev) (w : World), Closed md ops listed → listed.size = ops.size → (∀ p, Along R (E p)) → Full C E w → anyL P R md ops C kinds m (fun a E => ∀ w, Full C E w → wpList P ops Q l a w) fuel listed a E → wpAny P md ops Q (l.length + fuel) listed a w := by
  intro fuel
  induction fuel with
  | zero =>
    intro listed a E w hc hsz hE hw h
    exact wpAny_tail hL l m listed a w hc (Nat.le_refl _) hl hn h.1 h.2.1 (hB listed hsz h.1 h.2.1) (h.2.2 w hw)
  | succ fuel ih =>
    intro listed a E w hc hsz hE hw h
    refine ⟨fun h0 => absurd h0 h.1, fun i hi => ?_⟩
    obtain ⟨o, ho, hs⟩ := h.2 i hi
    exact wpOp_of_step ho hC hE hw (fun a' E' w' hE' hw' hk => ih _ a' E' w' (hc.set hi) (by simp [hsz]) hE' hw' hk) hs

/-- The walk in the order of the text, a kind beside each operation; what is behind the first m is left to the plain walk. -/
def wpLoose (P : Program) (R : World → World → Prop) (md : Region.Mode) (ops : Array Oper) (C : World → Prop) (Q : Exit → Act → World → Prop) : List Kd → Nat → Nat → List Oper → Act → Ev → Prop
  | _, 0, _, l, a, E => ∀ w, Full C E w → wpList P ops Q l a w
  | _, _ + 1, _, [], _, _ => False
  | kds, m + 1, k, o :: l, a, E => Step P R md ops C (kds.headD none) k o (wpLoose P R md ops C Q kds.tail m (k + 1) l) a E

theorem Gives.anti {D D' : World → Prop} {kd : Kd} {o : Oper} {a : Act} {S : Value → World → Prop} (hd : ∀ w, D' w → D w) (h : Gives P R ops D kd o a S) : Gives P R ops D' kd o a S := by
  unfold Gives at *
  split at h
  · rename_i hw
    rw [if_pos hw]
    cases kd with
    | none => obtain ⟨v, e, hv⟩ := h; exact ⟨v, e, fun w hw => hv w (hd w hw)⟩
    | some V => exact ⟨h.1, h.2.1, fun w hw => h.2.2 w (hd w hw)⟩
  · rename_i hw
    rw [if_neg hw]
    exact h

theorem wpLoose_anti : ∀ (m : Nat) (kds : List Kd) (k : Nat) (l : List Oper) (a : Act) (E E' : Ev), (∀ p w, E' p w → E p w) → wpLoose P R md ops C Q kds m k l a E → wpLoose P R md ops C Q kds m k l a E'
  | 0, kds, k, l, a, E, E', hs, h => fun w hw => h w ⟨hw.1, fun p => hs p w (hw.2 p)⟩
  | _ + 1, _, _, [], _, _, _, _, h => h
  | m + 1, kds, k, o :: l, a, E, E', hs, h => by
    obtain ⟨S, hS, hn⟩ := h
    exact ⟨S, hS.anti fun w hw => ⟨hw.1, fun p hp => hs p w (hw.2 p hp)⟩, fun v ⟨w, hf, hv⟩ => wpLoose_anti m _ _ _ _ _ _ (fun p w hw => ⟨hs p w hw.1, hw.2⟩) (hn v ⟨w, ⟨hf.1, fun p => hs p w (hf.2 p)⟩, hv⟩)⟩

theorem anyL_lex {m : Nat} (hC : Along R C) (hs : Region.noSelect ops = true) (hL : tailWaits md ops m = true) {tl : List Oper} {kinds : Nat → Kd} (hlt : tl.length = ops.size - m) (hm : m ≤ ops.size) (htl : ∀ j, tl[j]? = ops[m + j]?) :
    ∀ (n : Nat) (l : List Oper) (kds : List Kd) (k : Nat) (listed : Array Bool) (a : Act) (E : Ev), (∀ p, Along R (E p)) → (∃ w, Full C E w) → Closed md ops listed → (∀ j, l[j]? = ops[k + j]?) → (∀ j, kinds (k + j) = kds.getD j none) → k + n = m → k + l.length = ops.size → listed.size = ops.size →
      (∀ j, j < k → listed.getD j true = true) → (∀ j, k ≤ j → j < ops.size → listed.getD j true = false) → Region.lexFrom md ops l.length k listed = true → wpLoose P R md ops C Q kds n k l a E →
      anyL P R md ops C kinds m (fun a E => ∀ w, Full C E w → wpList P ops Q tl a w) n listed a E
  | 0, l, kds, k, listed, a, E, hE, hw, hc, hl, hk, hn, hll, hsz, hd, hu, hB, h => by
    have hkm : k = m := by omega
    subst hkm
    have : l = tl := by
      refine List.ext_getElem? fun j => ?_
      rw [hl j, htl j]
    subst this
    exact ⟨hd, hu, h⟩
  | n + 1, [], kds, k, listed, a, E, hE, hw, hc, hl, hk, hn, hll, hsz, hd, hu, hB, h => h.elim
  | n + 1, o :: l, kds, k, listed, a, E, hE, hw, hc, hl, hk, hn, hll, hsz, hd, hu, hB, h => by
    have h0 : ops[k]? = some o := by simpa using (hl 0).symm
    simp only [List.length_cons, Region.lexFrom, Bool.and_eq_true] at hB
    obtain ⟨⟨hr, hf⟩, hB'⟩ := hB
    obtain ⟨S, hS, hK⟩ := h
    have e0 : kinds k = kds.headD none := by have := hk 0; cases kds <;> simpa using this
    rw [← e0] at hS
    have hr' : k ∈ Region.ready md ops listed := by simpa using hr
    have hlt' := lt_of_ready hr'
    have hSs := hS.stable
    refine anyL_first hC hL (by omega) h0 (Region.noSelect_spec hs) _ listed a E hE hw hc (Region.free_spec h0 hf) hr' hS fun v hv => ?_
    refine anyL_lex hC hs hL hlt hm htl n l kds.tail (k + 1) _ _ _ (fun p x y hr hx => ⟨hE p x y hr hx.1, fun e => hSs v x y hr (hx.2 e)⟩) (hv.elim fun w h => ⟨w, h.1.upd h.2⟩) (hc.set hr') (fun j => ?_) (fun j => ?_) (by omega) (by simp at hll; omega) (by simp [hsz]) (fun j hj => ?_) (fun j hj hjs => ?_) hB' (hK v hv)
    · have := hl (j + 1); simpa [Nat.add_assoc, Nat.add_comm 1 j] using this
    · have := hk (j + 1)
      rw [Nat.add_assoc, Nat.add_comm 1 j, this]
      cases kds <;> simp
    · by_cases hjk : k = j
      · subst hjk
        simp [hsz, hlt']
      · rw [getD_set_ne true hjk]
        exact hd j (by omega)
    · rw [getD_set_ne true (by omega)]; exact hu j (by omega) hjs

/-- The law: a region that draws, written out; its first m operations are walked so. -/
theorem wp_region_loose {id : Nat} {a : Act} {w : World} {l : List Oper} (R : World → World → Prop) (C : World → Prop) (kds : List Kd) (m : Nat) (hm : P.follows .mixedOrders = true) (hB : Region.lexB .any l.toArray = true)
    (hL : tailWaits .any l.toArray m = true) (hS : Along R C) (hC : C w.drew) (h : wpLoose P R .any l.toArray C Q kds m 0 l a (fun _ _ => True)) : (Code.region id l.toArray true).wp P Q a w := by
  simp only [Region.lexB, Bool.and_eq_true] at hB
  have hms : m ≤ l.toArray.size := by have := hL; simp only [tailWaits, Bool.and_eq_true] at this; exact of_decide_eq_true this.1
  refine wp_region_any hm ?_
  have e1 : ∀ j, (Array.replicate l.toArray.size false).getD j true = decide (l.toArray.size ≤ j) := by
    intro j
    rcases Nat.lt_or_ge j l.toArray.size with h' | h'
    · have h2 : ¬ l.toArray.size ≤ j := by omega
      rw [decide_eq_false h2]
      simp at h'
      simp [h']
    · rw [decide_eq_true h']
      simp at h'
      simp [h']
  have hd0 : ∀ j, j < 0 → (Array.replicate l.toArray.size false).getD j true = true := fun j hj => absurd hj (Nat.not_lt_zero j)
  have hu0 : ∀ j, 0 ≤ j → j < l.toArray.size → (Array.replicate l.toArray.size false).getD j true = false := fun j _ hj => by rw [e1 j]; exact decide_eq_false (by omega)
  have htl : ∀ j, (l.drop m)[j]? = l.toArray[m + j]? := fun j => by simp
  have hlen : (l.drop m).length = l.toArray.size - m := by simp
  have hF : Full C (fun _ _ => True) w.drew := ⟨hC, fun _ => trivial⟩
  have hE : ∀ p : Nat, Along R ((fun _ _ => True : Ev) p) := fun _ _ _ _ _ => trivial
  have h1 := anyL_lex (P := P) (R := R) (Q := Q) (md := .any) (kinds := fun j => kds.getD j none) hS hB.1 hL (tl := l.drop m) hlen hms htl m l kds 0 (Array.replicate l.toArray.size false) a _ hE ⟨_, hF⟩ (Closed.none _) (by simp) (by simp) (by omega) (by simp) (by simp) hd0 hu0 (by simpa using hB.2) h
  have h2 := wpAny_of_L (P := P) (R := R) (Q := Q) (C := C) hS hL htl (by rw [hlen]; omega) (fun listed hsz hd hu => by
      have := lexFrom_at (md := .any) m 0 (Array.replicate l.toArray.size false) l.toArray.size (by simp) hms (by simpa using hB.2) hd0 hu0 (by omega) listed hsz (by simpa using hd) (by simpa using hu)
      rw [hlen]
      simpa using this) m _ _ _ _ (Closed.none _) (by simp) hE hF h1
  have e : (l.drop m).length + m = l.toArray.size := by rw [hlen]; omega
  rw [e] at h2
  exact h2

/-! The steps -/
variable {kds : List Kd} {m k : Nat} {o : Oper} {l : List Oper} {a : Act} {E : Ev}
/-- An operation that gives one value. -/
theorem one (v : Value) (hw : Region.wanted o (yielded ops a.tmps) = true)
    (h : ∀ w, C w → (execOp a.eval o).run P w = .ok (.value v) w) (hK : ∀ K : Act → Prop, Hid (∀ a, wpLoose P R md ops C Q kds m (k + 1) l a E → K a) → K (a.put o.dst v)) : wpLoose P R md ops C Q (none :: kds) (m + 1) k (o :: l) a E :=
  ⟨fun u _ => u = v, by unfold Gives; rw [if_pos hw]; exact ⟨v, rfl, fun w hw => h w hw.1⟩, fun u ⟨_, _, hu⟩ => by subst hu; exact wpLoose_anti _ _ _ _ _ _ _ (fun _ _ h => h.1) (hK _ fun _ h => h)⟩
/-- The same, by what it waits for. -/
theorem oneN (v : Value) (hw : Region.wanted o (yielded ops a.tmps) = true)
    (h : ∀ w, C w → (∀ p, waits md ops 5 k p = true → E p w) → (execOp a.eval o).run P w = .ok (.value v) w) (hK : ∀ K : Act → Prop, Hid (∀ a, wpLoose P R md ops C Q kds m (k + 1) l a E → K a) → K (a.put o.dst v)) : wpLoose P R md ops C Q (none :: kds) (m + 1) k (o :: l) a E :=
  ⟨fun u _ => u = v, by unfold Gives; rw [if_pos hw]; exact ⟨v, rfl, fun w hw => h w hw.1 hw.2⟩, fun u ⟨_, _, hu⟩ => by subst hu; exact wpLoose_anti _ _ _ _ _ _ _ (fun _ _ h => h.1) (hK _ fun _ h => h)⟩
/-- An operation whose value is told up to V. -/
theorem any {V : Value → Prop} (hw : Region.wanted o (yielded ops a.tmps) = true)
    (h : ∀ w, C w → Upon P R w (fun v _ => V v) ((execOp a.eval o).run P w)) (hK : ∀ K : Act → Prop, Hid (∀ a, wpLoose P R md ops C Q kds m (k + 1) l a E → K a) → ∀ v, V v → K (a.put o.dst v)) : wpLoose P R md ops C Q (some (fun v _ => V v) :: kds) (m + 1) k (o :: l) a E :=
  ⟨fun v _ => V v, by unfold Gives; rw [if_pos hw]; exact ⟨rfl, fun _ _ _ _ h => h, fun w hw => h w hw.1⟩, fun u ⟨_, _, hu⟩ => wpLoose_anti _ _ _ _ _ _ _ (fun _ _ h => h.1) (hK _ (fun _ h => h) u hu)⟩
theorem anyN {V : Value → Prop} (hw : Region.wanted o (yielded ops a.tmps) = true)
    (h : ∀ w, C w → (∀ p, waits md ops 5 k p = true → E p w) → Upon P R w (fun v _ => V v) ((execOp a.eval o).run P w)) (hK : ∀ K : Act → Prop, Hid (∀ a, wpLoose P R md ops C Q kds m (k + 1) l a E → K a) → ∀ v, V v → K (a.put o.dst v)) : wpLoose P R md ops C Q (some (fun v _ => V v) :: kds) (m + 1) k (o :: l) a E :=
  ⟨fun v _ => V v, by unfold Gives; rw [if_pos hw]; exact ⟨rfl, fun _ _ _ _ h => h, fun w hw => h w hw.1 hw.2⟩, fun u ⟨_, _, hu⟩ => wpLoose_anti _ _ _ _ _ _ _ (fun _ _ h => h.1) (hK _ (fun _ h => h) u hu)⟩
/-- An operation that tells of its value and of the world: V is known from here on. -/
theorem anyW {V : Value → World → Prop} (hw : Region.wanted o (yielded ops a.tmps) = true) (hst : ∀ v, Along R (V v))
    (h : ∀ w, C w → (∀ p, waits md ops 5 k p = true → E p w) → Upon P R w V ((execOp a.eval o).run P w)) (hK : ∀ K : Act → Value → Prop, Hid (∀ a v, wpLoose P R md ops C Q kds m (k + 1) l a (upd E k (V v)) → K a v) → ∀ v, (∃ w, C w ∧ V v w) → K (a.put o.dst v) v) : wpLoose P R md ops C Q (some V :: kds) (m + 1) k (o :: l) a E :=
  ⟨V, by unfold Gives; rw [if_pos hw]; exact ⟨rfl, hst, fun w hw => h w hw.1 hw.2⟩, fun u ⟨w, hf, hu⟩ => hK (fun a v => wpLoose P R md ops C Q kds m (k + 1) l a (upd E k (V v))) (fun _ _ h => h) u ⟨w, hf.1, hu⟩⟩
/-- An operation that is not wanted. -/
theorem skip {kd : Kd} (hw : Region.wanted o (yielded ops a.tmps) = false)
    (hK : ∀ K : Act → Prop, Hid (∀ a, wpLoose P R md ops C Q kds m (k + 1) l a E → K a) → K (a.put o.dst undef)) : wpLoose P R md ops C Q (kd :: kds) (m + 1) k (o :: l) a E :=
  ⟨fun u _ => u = undef, by unfold Gives; rw [if_neg (by rw [hw]; exact Bool.false_ne_true)], fun u ⟨_, _, hu⟩ => by subst hu; exact wpLoose_anti _ _ _ _ _ _ _ (fun _ _ h => h.1) (hK _ fun _ h => h)⟩
/-- What is told of every world of the region, laid once. -/
theorem facts {F : World → Prop} (hF : ∀ w', C w' → F w') (h : Hid (∀ w', C w' → F w') → wpLoose P R md ops C Q kds m k l a E) : wpLoose P R md ops C Q kds m k l a E := h hF
/-- The end of the walk, where no block of the region's own is spoken of. -/
theorem fin (h : ∀ w, C w → wpList P ops Q l a w) : wpLoose P R md ops C Q [] 0 k l a E := fun w hw => h w hw.1
theorem finE (h : ∀ w, C w → (∀ p, E p w) → wpList P ops Q l a w) : wpLoose P R md ops C Q [] 0 k l a E := fun w hw => h w hw.1 hw.2

/-! Where what was there stays as it was -/
abbrev Bw : World → World → Prop := fun w w' => Below w.heap.size w w'
theorem along_cl (W : World) : Along Bw (Cl W) := fun _ _ hb h => Cl.call h hb
theorem along_bk (b : Nat) (vs : Array Value) (t : TypeId) (W : World) : Along Bw fun w => W.heap.size ≤ b ∧ w.heap[b]? = some (.cells vs t) := fun _ _ hb h => Stable.block b _ W _ _ hb h
theorem region {id : Nat} {a : Act} {w : World} {l : List Oper} (W : World) (kds : List Kd) (m : Nat) (hm : P.follows .mixedOrders = true) (hB : Region.lexB .any l.toArray = true)
    (hL : tailWaits .any l.toArray m = true) (hW : Cl W w) (h : wpLoose P Bw .any l.toArray (Cl W) Q kds m 0 l a (fun _ _ => True)) : (Code.region id l.toArray true).wp P Q a w :=
  wp_region_loose Bw (Cl W) kds m hm hB hL (along_cl W) (Below.drew hW) h
theorem of_lp {w : World} {V : Value → World → Prop} {r : Result Next} (h : Lp.Upon P w V r) : Upon P Bw w V r := by
  unfold Lp.Upon at h
  unfold Upon
  split at h
  · exact h
  · exact h
  · exact h.elim
theorem ret {f : FuncId} {args : Array Value} {V : Value → Prop} {w : World} (h : Ret P f args w V) : Upon P Bw w (fun v _ => V v) (.ok (.enter f args) w) := of_lp (Lp.ret h)
theorem add {t : TypeId} {x y X Y : Nat} {w : World} (hx : Sm x X) (hy : Sm y Y) :
    Upon P Bw w (fun v _ => isF (fadd X Y) v) ((Sem.run P (binOp .add t (.float .f64 x) (.float .f64 y)) w).andThen fun a w' => Result.ok (Next.value a) w') := of_lp (Lp.add hx hy)
theorem sub {t : TypeId} {x y X Y : Nat} {w : World} (hx : Sm x X) (hy : Sm y Y) :
    Upon P Bw w (fun v _ => isF (fsub X Y) v) ((Sem.run P (binOp .sub t (.float .f64 x) (.float .f64 y)) w).andThen fun a w' => Result.ok (Next.value a) w') := of_lp (Lp.sub hx hy)
theorem mul {t : TypeId} {x y X Y : Nat} {w : World} (hx : Sm x X) (hy : Sm y Y) :
    Upon P Bw w (fun v _ => isF (fmul X Y) v) ((Sem.run P (binOp .mul t (.float .f64 x) (.float .f64 y)) w).andThen fun a w' => Result.ok (Next.value a) w') := of_lp (Lp.mul hx hy)
theorem div {t : TypeId} {x y X Y : Nat} {w : World} (hx : Sm x X) (hy : Sm y Y) :
    Upon P Bw w (fun v _ => isF (fdiv X Y) v) ((Sem.run P (binOp .quo t (.float .f64 x) (.float .f64 y)) w).andThen fun a w' => Result.ok (Next.value a) w') := of_lp (Lp.div hx hy)
/-- A new block. -/
theorem new {W : World} (ob : Obj) (hw : Region.wanted o (yielded ops a.tmps) = true)
    (h : ∀ w, Cl W w → (execOp a.eval o).run P w = .ok (.value (.pointer (some ⟨w.heap.size, 0, none⟩))) (w.alloc ob))
    (hK : ∀ K : Act → Nat → Prop, Hid (∀ a b, wpLoose P Bw md ops (Cl W) Q kds m (k + 1) l a (upd E k (fun w => W.heap.size ≤ b ∧ w.heap[b]? = some ob)) → K a b) → ∀ b, W.heap.size ≤ b → K (a.put o.dst (.pointer (some ⟨b, 0, none⟩))) b) :
    wpLoose P Bw md ops (Cl W) Q (some (fun v w => ∃ b, v = .pointer (some ⟨b, 0, none⟩) ∧ W.heap.size ≤ b ∧ w.heap[b]? = some ob) :: kds) (m + 1) k (o :: l) a E := by
  refine ⟨fun v w => ∃ b, v = .pointer (some ⟨b, 0, none⟩) ∧ W.heap.size ≤ b ∧ w.heap[b]? = some ob, ?_, ?_⟩
  · unfold Gives
    rw [if_pos hw]
    refine ⟨rfl, fun v w w' hb ⟨b, hv, h'⟩ => ⟨b, hv, Stable.block b ob W w w' hb h'⟩, fun w hc => ?_⟩
    rw [h w hc.1]
    refine ⟨⟨w.heap.size, rfl, hc.1.size, by show (w.heap.push ob)[w.heap.size]? = _; simp⟩, Below.alloc (Below.refl _ _) (Nat.le_refl _) _⟩
  · rintro u ⟨_, _, b, rfl, hb, _⟩
    refine wpLoose_anti _ _ _ _ _ _ _ ?_ (hK (fun a b => wpLoose P Bw md ops (Cl W) Q kds m (k + 1) l a (upd E k (fun w => W.heap.size ≤ b ∧ w.heap[b]? = some ob))) (fun _ _ h => h) b hb)
    rintro p w ⟨he, hf⟩
    refine ⟨he, fun e => ?_⟩
    obtain ⟨b', e', h'⟩ := hf e
    cases e'
    exact h'
end
end Go.Proofs.Ytijoaklknpkdoaa.Lw
