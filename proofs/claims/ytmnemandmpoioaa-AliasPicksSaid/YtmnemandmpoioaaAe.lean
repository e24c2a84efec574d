/- Package alias: own, remainder. -/
import Derived.Deep.QuietTactic
import Derived.BigQuiet
import Derived.Deep.RegionLaw
import Derived.Laws.MakeOwn
import Derived.Test.YtmnemandmpoioaaAd
namespace Go.Proofs.Ytmnemandmpoioaa
open Go.RowKit Fl

/-- All blocks but B are as they were. -/
structure But (B : Nat) (w w' : World) : Prop where
  os : w'.os = w.os
  tape : w'.tape = w.tape
  output : w'.output = w.output
  size : w.heap.size ≤ w'.heap.size
  block : ∀ k, k < w.heap.size → k ≠ B → w'.heap[k]? = w.heap[k]?
theorem But.refl (B : Nat) (w : World) : But B w w := ⟨rfl, rfl, rfl, Nat.le_refl _, fun _ _ _ => rfl⟩
theorem But.trans {B : Nat} {a b c : World} (h : But B a b) (k : But B b c) : But B a c :=
  ⟨k.os.trans h.os, k.tape.trans h.tape, k.output.trans h.output, Nat.le_trans h.size k.size, fun i hi hn => (k.block i (Nat.lt_of_lt_of_le hi h.size) hn).trans (h.block i hi hn)⟩
theorem But.of {B : Nat} {w w' : World} (h : Below w.heap.size w w') : But B w w' := ⟨h.os, h.tape, h.output, h.size, fun k hk _ => h.block k hk⟩
theorem But.set (B i : Nat) (w : World) (u : Value) : But B w (w.setCell ⟨B, i, none⟩ u) := ⟨rfl, rfl, rfl, by simp [World.setCell], fun k _ hn => Below.heap_setCell _ _ _ _ hn⟩
theorem But.keep {B b : Nat} {w w' : World} {vs : Array Value} {t : TypeId} (h : But B w w') (hb : Lp.Bk w b vs t) (hn : b ≠ B) : Lp.Bk w' b vs t := (h.block b hb.lt hn).trans hb
theorem But.ir {B g off n : Nat} {f : Nat → Int} {w w' : World} (h : But B w w') (hi : Iro w g off n f) (hn : g ≠ B) : Iro w' g off n f := hi.same (h.block g hi.lt hn)
theorem But.below {B T : Nat} {W w w' : World} (h : But B w w') (hb : Below T W w) (hT : T ≤ B) (hs : T ≤ w.heap.size) : Below T W w' :=
  ⟨h.os.trans hb.os, h.tape.trans hb.tape, h.output.trans hb.output, Nat.le_trans hb.size h.size, fun k hk => (h.block k (by omega) (by omega)).trans (hb.block k hk)⟩
/-- A store into a new block. -/
theorem But.more {T : Nat} {W w w' : World} (hb : But T W w) (hs : Below W.heap.size w w') : But T W w' :=
  ⟨hs.os.trans hb.os, hs.tape.trans hb.tape, hs.output.trans hb.output, Nat.le_trans hb.size hs.size, fun k hk hn => (hs.block k hk).trans (hb.block k hk hn)⟩

theorem setCell_same {w : World} {g : Nat} {cur : Array Value} {t : TypeId} {i : Nat} {v : Value} (h : Lp.Bk w g cur t) (hv : cur[i]? = some v) : w.setCell ⟨g, i, none⟩ v = w := by
  have e : (w.setCell ⟨g, i, none⟩ v).heap = w.heap := by
    apply Array.ext_getElem?
    intro k
    by_cases hk : k = g
    · subst hk
      have := h.set i v
      unfold Lp.Bk at this h
      rw [this, h]
      congr 2
      apply Array.ext_getElem?
      intro j
      by_cases hj : i = j
      · subst hj; rw [Array.getElem?_setIfInBounds_self_of_lt (Array.getElem?_eq_some_iff.1 hv).1, hv]
      · rw [Array.getElem?_setIfInBounds_ne hj]
    · exact Below.heap_setCell _ _ _ _ hk
  unfold World.setCell at *
  simp only at e
  rw [e]

/-- What is known while own goes on. -/
structure OwnS (w0 w : World) (T : Nat) (sw st sa : Value) (tot : Int) (jt ja : Nat) : Prop where
  bT : Lp.Bk w T #[sw, st, sa, .int .i64 tot] 51
  ot : w.ownsRow 0 3 1 st jt (vals jt fun _ => tot)
  oa : w.ownsRow 0 3 1 sa ja (vals ja fun i => (i : Int))
  lt : ∀ k, st.ownBlock = some k → w0.heap.size ≤ k
  la : ∀ k, sa.ownBlock = some k → w0.heap.size ≤ k
  ap : ∀ k, st.ownBlock = some k → sa.ownBlock ≠ some k
  bt : But T w0 w
  hT : T < w0.heap.size
theorem vals_more {w : World} {v : Value} {n : Nat} {f : Nat → Int} {x : Int} (h : w.ownsRow 0 3 1 v (n + 1) (vals n f ++ [.int .i64 x])) (hf : f n = x) : w.ownsRow 0 3 1 v (n + 1) (vals (n + 1) f) := owns_more h hf
theorem owns_set {w : World} {v : Value} {n : Nat} {e : TypeId} {xs : List Value} (h : w.ownsRow 0 e 1 v n xs) {p : Addr} (hne : v.ownBlock ≠ some p.block) (u : Value) : (w.setCell p u).ownsRow 0 e 1 v n xs := by
  obtain ⟨h1, h2⟩ := h
  refine ⟨h1, ?_⟩
  rcases h2 with h2 | ⟨g, cap, cur, hv, hg, hh, r⟩
  · exact .inl h2
  · refine .inr ⟨g, cap, cur, hv, hg, ?_, r⟩
    rw [Below.heap_setCell _ _ _ _ (fun e => hne (by rw [hv, e]; rfl))]
    exact hh

theorem grown_drew {w w' : World} {row : Option Nat} (h : w.drew.grownBy w' row) : w.grownBy w' row := ⟨h.os, h.tape, h.output, h.size, h.block⟩
theorem OwnS.mid {w0 w w1 : World} {T : Nat} {sw st sa v : Value} {tot : Int} {jt ja : Nat} (h : OwnS w0 w T sw st sa tot jt ja) (hv : v = st ∨ v = sa) {o : Obj} (hg : (w.alloc o).grownBy w1 v.ownBlock) :
    Lp.Bk w1 T #[sw, st, sa, .int .i64 tot] 51 ∧ But T w0 w1 := by
  have hT := h.hT
  have hl : ∀ k, v.ownBlock = some k → w0.heap.size ≤ k := by rcases hv with rfl | rfl; exact h.lt; exact h.la
  refine ⟨grown_keep hg (h.bT.alo o) (fun e => by have := hl T e; omega), ?_⟩
  refine h.bt.more ((((Below.refl _ _).alloc h.bt.size o)).grown hg ?_ hl)
  have := h.bt.size
  simp
  omega

theorem OwnS.pushT {w0 w w1 : World} {T : Nat} {sw st sa v' : Value} {tot : Int} {jt ja : Nat} (h : OwnS w0 w T sw st sa tot jt ja) {o : Obj} (hown : w1.ownsRow 0 3 1 v' (jt + 1) (vals jt (fun _ => tot) ++ [.int .i64 tot])) (hg : (w.alloc o).grownBy w1 st.ownBlock)
    (hb : v'.ownBlock = st.ownBlock ∨ ∀ k, v'.ownBlock = some k → w.heap.size ≤ k) : OwnS w0 (w1.setCell ⟨T, 1, none⟩ v') T sw v' sa tot (jt + 1) ja := by
  obtain ⟨bT, bt⟩ := h.mid (.inl rfl) hg
  have hT := h.hT
  have hs := h.bt.size
  have hl : ∀ k, v'.ownBlock = some k → w0.heap.size ≤ k := by
    intro k hk
    rcases hb with e | e
    · exact h.lt k (e ▸ hk)
    · have := e k hk; omega
  have hap : ∀ k, v'.ownBlock = some k → sa.ownBlock ≠ some k := by
    intro k hk e
    rcases hb with e2 | e2
    · exact h.ap k (e2 ▸ hk) e
    · have := e2 k hk
      have := (h.oa.lt k e).2
      omega
  refine ⟨bT.set 1 v', owns_set (vals_more hown rfl) (fun e => by have := hl T e; omega) _, owns_set ((h.oa.alloc o).kept hg ?_) (fun e => by have := h.la T e; omega) _, hl, h.la, hap, bt.trans (But.set _ _ _ _), hT⟩
  cases hs : sa.ownBlock with
  | none => exact .inl rfl
  | some k => exact .inr fun e => h.ap k e.symm hs
theorem OwnS.pushA {w0 w w1 : World} {T : Nat} {sw st sa v' : Value} {tot : Int} {jt ja : Nat} (h : OwnS w0 w T sw st sa tot jt ja) {o : Obj} (hown : w1.ownsRow 0 3 1 v' (ja + 1) (vals ja (fun i => (i : Int)) ++ [.int .i64 ja])) (hg : (w.alloc o).grownBy w1 sa.ownBlock)
    (hb : v'.ownBlock = sa.ownBlock ∨ ∀ k, v'.ownBlock = some k → w.heap.size ≤ k) : OwnS w0 (w1.setCell ⟨T, 2, none⟩ v') T sw st v' tot jt (ja + 1) := by
  obtain ⟨bT, bt⟩ := h.mid (.inr rfl) hg
  have hT := h.hT
  have hs := h.bt.size
  have hl : ∀ k, v'.ownBlock = some k → w0.heap.size ≤ k := by
    intro k hk
    rcases hb with e | e
    · exact h.la k (e ▸ hk)
    · have := e k hk; omega
  have hap : ∀ k, st.ownBlock = some k → v'.ownBlock ≠ some k := by
    intro k hk e
    rcases hb with e2 | e2
    · exact h.ap k hk (e2 ▸ e)
    · have := e2 k e
      have := (h.ot.lt k hk).2
      omega
  refine ⟨bT.set 2 v', owns_set ((h.ot.alloc o).kept hg ?_) (fun e => by have := h.lt T e; omega) _, owns_set (vals_more hown rfl) (fun e => by have := hl T e; omega) _, h.lt, hl, hap, bt.trans (But.set _ _ _ _), hT⟩
  cases hs : st.ownBlock with
  | none => exact .inl rfl
  | some k => exact .inr fun e => h.ap k hs e.symm

set_option maxRecDepth 100000 in
set_option maxHeartbeats 2000000 in
theorem own_any (T n gw cw : Nat) (tot : Int) (w : World) (hT : Lp.Bk w T #[.slice (some ⟨gw, 0, none⟩) n cw, .slice none 0 0, .slice none 0 0, .int .i64 tot] 51) (h0 : 0 < n) (hn : n ≤ 1024) :
    Calls Try.prog 29 #[.pointer (some ⟨T, 0, none⟩)] w fun e w' => ∃ gt ct ga ca, e = .returned (.tuple #[]) ∧ Lp.Bk w' T #[.slice (some ⟨gw, 0, none⟩) n cw, .slice (some ⟨gt, 0, none⟩) n ct, .slice (some ⟨ga, 0, none⟩) n ca, .int .i64 tot] 51 ∧
      Ir w' gt n (fun _ => tot) ∧ Ir w' ga n (fun i => (i : Int)) ∧ w.heap.size ≤ gt ∧ w.heap.size ≤ ga ∧ gt ≠ ga ∧ But T w w' := by
  obtain ⟨i0, hi, hz0, hz1, hz2⟩ := info_int
  have HL : Hid _ := alen_any (tot := tot) (n := n) w rfl hT
  have HS : Hid (OwnS w w T (.slice (some ⟨gw, 0, none⟩) n cw) (.slice none 0 0) (.slice none 0 0) tot 0 0) := ⟨hT, World.ownsRow_nil _ _ _ _, World.ownsRow_nil _ _ _ _, fun k h => (by cases h), fun k h => (by cases h), fun k h => (by cases h), But.refl _ _, hT.lt⟩
  have HN : Aside (0 < n ∧ n ≤ 1024) := ⟨h0, hn⟩
  clear hT h0
  go_enter Try.func29, Try.ntmps29
  go_wp2_with fail
  refine Calls.mono HL.out ?_
  rintro e w' ⟨rfl, hw⟩
  obtain rfl := hw.symm
  clear hw HL
  go_wp2_with fail
  go_loopg [5] n (fun k i wr => ∃ (j : Nat) (st sa : Value), k + j = n ∧ i = .int .i64 (j : Int) ∧ OwnS w wr T (.slice (some ⟨gw, 0, none⟩) n cw) st sa tot j j)
  case atStart => exact ⟨0, _, _, by omega, rfl, HS.out⟩
  case round =>
    obtain ⟨g0, hg0⟩ : ∃ g0, g0 = gk := ⟨_, rfl⟩
    subst hg0
    obtain ⟨j, st, sa, hk, rfl, hS⟩ := hrel
    have HK : Aside _ := hk
    clear hk
    by_cases hj : j < n
    · have hd : ((j : Int) < (n : Int)) = True := eq_true (by omega)
      obtain ⟨at0, ct0, rfl, -⟩ := owns_slice hS.ot
      obtain ⟨aa0, ca0, rfl, -⟩ := owns_slice hS.oa
      have kT := hS.bT.cell
      have hlt := hS.bT.lt
      have HS1 : Hid _ := hS
      clear hS HS
      go_wp2_with fail
      go_region_law ((refine step_push _ rfl _ _ 22 rfl 3 i0 (.int .i64 0) 1 8 under_ints hi hz0 hz1 hz2 rfl (by decide) (.slice at0 j ct0) j (vals j fun _ => tot) rfl (HS1.out.ot.alloc (.cells #[.int .i64 tot] 3)) ⟨wr.heap.size, 0, none⟩ 1 1 [.int .i64 tot] rfl rfl (news_one ((Lp.Bk.al wr #[.int .i64 tot] 3).cell 0)) (one_int tot) (max_small (by omega)) (by omega) ?_; intro v' w1 hown hg hb; have hg : (wr.alloc (.cells #[.int .i64 tot] 3)).grownBy w1 (Value.ownBlock (.slice at0 j ct0)) := grown_drew hg; have hM := HS1.out.mid (.inl rfl) hg; have HS2 : Hid _ := HS1.out.pushT hown hg (hb.imp id fun h k hk => by have := h k hk; simp at this; omega); have kT2 := hM.1.cell; have zT2 := hM.1.frz; obtain ⟨a2, c2, rfl, -⟩ := owns_slice hown; clear hown hg hb hM kT))
      all_goals
        clear kT2 zT2
        have kT2 := HS2.out.bT.cell
        have zT2 := HS2.out.bT.frz
        generalize hwm : w1.setCell ⟨T, 1, none⟩ (.slice a2 (j + 1) c2) = wm at *
        clear hwm hlt
        go_wp2_with (first
          | (at_builtin; refine wpList_push _ rfl _ _ 22 rfl 3 i0 (.int .i64 0) 1 8 under_ints hi hz0 hz1 hz2 rfl (by decide) (.slice aa0 j ca0) j (vals j fun i => (i : Int)) rfl (HS2.out.oa.alloc (.cells #[.int .i64 j] 3)) ⟨wm.heap.size, 0, none⟩ 1 1 [.int .i64 j] rfl rfl (news_one ((Lp.Bk.al wm #[.int .i64 j] 3).cell 0)) (one_int j) (max_small (by omega)) (by omega) ?_)
          | fail)
        intro v' w1 hown hg hb
        have hM := HS2.out.mid (.inr rfl) hg
        have HS3 : Hid _ := HS2.out.pushA hown hg (hb.imp id fun h k hk => by have := h k hk; omega)
        clear kT2 zT2
        have kT2 := hM.1.cell
        have zT2 := hM.1.frz
        obtain ⟨a3, c3, rfl, -⟩ := owns_slice hown
        clear hown hg hb hM
        go_wp2_with fail
        go_roundg (g0 - 1)
        case measure => have := HK.out; omega
        case rel => exact ⟨j + 1, _, _, by have := HK.out; omega, by go_num, HS3.out⟩
    · have hd : ((j : Int) < (n : Int)) = False := eq_false (by omega)
      have hjn : j = n := by have := HK.out; omega
      subst hjn
      have h0 := HN.out.1
      obtain ⟨bT, ot, oa, lt, la, ap, bt, hT⟩ := hS
      obtain ⟨at0, ct0, rfl, -⟩ := owns_slice ot
      obtain ⟨aa0, ca0, rfl, -⟩ := owns_slice oa
      obtain ⟨gt, rfl, hgt⟩ := owns_ir ot h0
      obtain ⟨ga, rfl, hga⟩ := owns_ir oa h0
      have HR : Aside _ := And.intro bT (And.intro hgt (And.intro hga (And.intro (lt gt rfl) (And.intro (la ga rfl) (And.intro (fun e : gt = ga => ap gt rfl (by rw [e]; rfl)) bt)))))
      clear bT ot oa lt la ap bt hT hgt hga
      go_wp2_with fail
      go_end0
      exact ⟨gt, ct0, ga, ca0, rfl, HR.out⟩
end Go.Proofs.Ytmnemandmpoioaa
