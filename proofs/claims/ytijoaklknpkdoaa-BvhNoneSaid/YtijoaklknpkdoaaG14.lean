/- Package bvh: build. Package bvh: wrong; slices.ContainsFunc of it. Package bvh: New. Package bvh: what a tree tells: Nodes, Order, Tri, Node, Root; of nil. Package bvh: Node, Root, below, Depth; of nil. -/
import Derived.WalkMore
import Derived.Deep.LoopGhost
import Derived.Test.YtijoaklknpkdoaaG13
import Derived.Test.YtijoaklknpkdoaaG9
import Derived.Test.YtijoaklknpkdoaaG7
namespace Go.Proofs.Ytijoaklknpkdoaa
open Go.RowKit Fl Lm

theorem info_pend : ∃ i, Try.prog.info? 70 = some i ∧ i.zero = some (.agg #[.slice none 0 0, .int .i64 0]) ∧ i.size = 2 ∧ i.bytes = 32 := by
  have h : (Try.prog.info? 70).map (fun i => (i.zero, i.size, i.bytes)) = some (some (.agg #[.slice none 0 0, .int .i64 0]), 2, 32) := by kernel_rfl
  obtain ⟨i, hi, hz⟩ := Option.map_eq_some_iff.1 h
  simp only [Prod.mk.injEq] at hz
  exact ⟨i, hi, hz⟩

theorem under_pends : Try.prog.underlying 65 = some (.slice 70) := by kernel_rfl

theorem Shp.fr {T : Nat → Tr} {t n : Nat} {w w' : World} {ab am : Option Addr} (h : Shp T w n ab am) (hf : Fr (fun k => k = t) w w') (h1 : ∀ g o, ab = some ⟨g, o, none⟩ → t < g) (h2 : ∀ g o, am = some ⟨g, o, none⟩ → t < g) : Shp T w' n ab am := by
  refine ⟨?_, ?_⟩
  · rcases h.bx with e | ⟨g, o, e, he⟩
    · exact .inl e
    · exact .inr ⟨g, o, e, hf.els he (by have := h1 g o e; omega)⟩
  · rcases h.md with e | ⟨g, o, e, he⟩
    · exact .inl e
    · exact .inr ⟨g, o, e, hf.els he (by have := h2 g o e; omega)⟩
theorem owns_cap {w : World} {b : Nat} {ty : TypeId} {k n : Nat} {g cap : Nat} {xs : List Value} (h : w.ownsRow b ty k (.slice (some ⟨g, 0, none⟩) n cap) n xs) : n ≤ cap := by
  rcases h.2 with ⟨h2, _⟩ | ⟨g', cap', cur, hv, _, _, hc, _⟩
  · cases h2
  · injection hv with _ _ e3
    omega
theorem Own.frz {N : Nat} {w : World} {ty : TypeId} {k n : Nat} {g cap : Nat} {e : Nat → List Value} (h : Own N w ty k (.slice (some ⟨g, 0, none⟩) n cap) n e) : ∀ i, w.frozen? ⟨g, i, none⟩ = false := by
  intro i
  rcases h.row.2 with ⟨h2, _⟩ | ⟨g', cap', cur, hv, _, hh, _⟩
  · cases h2
  · injection hv with e1
    injection e1 with e1
    injection e1 with e1
    subst e1
    exact Lp.Bk.frz (vs := cur) (t := ty) hh i
theorem wat {w : World} {g : Nat} {P : List Pd} {p : Pd} (h : Els w g 0 (P.length + 1) 2 (pds (P ++ [p]))) : w.cell? ⟨g, P.length * 2, none⟩ = some (.slice p.ao p.l.length p.cap) ∧ w.cell? ⟨g, P.length * 2 + 1, none⟩ = some (.int .i64 (p.a : Int)) := by
  have h0 := h.at0 (Nat.lt_succ_self _) (by decide)
  have h1 := h.atj (Nat.lt_succ_self _) (j := 1) (by decide)
  rw [pds_last, Nat.zero_add] at h0 h1
  exact ⟨h0, h1⟩
/-- lay of at most 4, or of none at all. -/
theorem lay_small (N t cl g off : Nat) (nv ov : Value) (D : List Nd) (O l : List Nat) (b : Bx) (w : World) (h : TreeS N w t nv ov D O) (ht : t < N) (hN : N ≤ w.heap.size) (hL : Sl w (some ⟨g, off, none⟩) l.length 1 (lvs l)) (hO : O.length ≤ 4000) (hD : D.length ≤ 4000) (h0 : 0 < l.length ∨ (l = [] ∧ off = 0 ∧ D = [] ∧ O = [] ∧ nv = .slice none 0 0 ∧ ov = .slice none 0 0)) (h4 : l.length ≤ 4) :
    Calls Try.prog 24 #[.pointer (some ⟨t, 0, none⟩), .slice (some ⟨g, off, none⟩) l.length cl, bxv b] w fun e w' => e = .returned (.int .i64 (D.length : Int)) ∧ ∃ nv' ov', TreeS N w' t nv' ov' (D ++ [leafOfB b O.length l]) (O ++ riseF l) ∧ Fr (fun k => k = t ∨ Value.ownBlock nv = some k ∨ Value.ownBlock ov = some k) w w' ∧ Newer w nv nv' ∧ Newer w ov ov' := by
  rcases h0 with h0 | ⟨rfl, rfl, rfl, rfl, rfl, rfl⟩
  · exact lay_leaf N t cl g off nv ov D O l b w h ht hN hL hO hD h0 h4
  · refine Calls.mono (lay_empty N t cl g b w h ht hN) ?_
    rintro e w' ⟨h1, nv', ov', h2, h3, h4, h5⟩
    exact ⟨h1, nv', ov', h2, h3.weak (fun _ e => .inl e), h4, h5⟩

set_option maxRecDepth 100000 in
set_option maxHeartbeats 1000000 in
theorem build_any (T : Nat → Tr) (hT : ∀ i, (T i).Mo) (sur : Bool) (n t cb cm : Nat) (ab am : Option Addr) (w : World) (hn : n ≤ 512) (hB : Lp.Bk w t #[.slice none 0 0, .slice none 0 0] 42) (hS : Shp T w n ab am) (hab : ∀ g o, ab = some ⟨g, o, none⟩ → t < g) (ham : ∀ g o, am = some ⟨g, o, none⟩ → t < g) :
    Calls Try.prog 18 #[.pointer (some ⟨t, 0, none⟩), .agg #[.slice ab n cb, .slice am n cm], .bool sur] w fun e w' => e = .returned (.tuple #[]) ∧ ∃ nv ov, TreeS (t + 1) w' t nv ov (ndL (treeT T sur) 0 0 (List.range n)) (orL (treeT T sur) (List.range n)) ∧ Fr (fun k => k = t) w w' := by
  obtain ⟨iP, hP0, hP1, hP2, hP3⟩ := info_pend
  have HB0 := hid hB
  have HSH := hid hS
  have HAB := aside hab
  have HAM := aside ham
  have HTT := aside hT
  have htw : t < w.heap.size := hB.lt
  clear hB hS hab ham hT
  go_enter Try.func18, Try.ntmps18
  go_wp2_with fail
  go_step3
  go_wp2_with fail
  refine Calls.mono (parter_any n cb cm ab am sur _) ?_
  rintro e w1 ⟨rfl, hw⟩
  have b0 : Lp.Bk w1 w.heap.size #[.slice ab n cb, .slice am n cm] 58 := by rw [hw]; exact ((Lp.Bk.al _ _ _).alo _).alo _
  have b1 : Lp.Bk w1 (w.heap.size + 1) #[.slice ab n cb, .slice am n cm] 58 := by rw [hw]; simpa using (Lp.Bk.al (w.alloc (.cells #[.slice ab n cb, .slice am n cm] 58)) _ _).alo (.cells #[.bool sur] 4)
  have b2 : Lp.Bk w1 (w.heap.size + 1 + 1) #[.bool sur] 4 := by rw [hw]; simpa using Lp.Bk.al ((w.alloc (.cells #[.slice ab n cb, .slice am n cm] 58)).alloc (.cells #[.slice ab n cb, .slice am n cm] 58)) #[.bool sur] 4
  have hb : Cl w w1 := by rw [hw]; exact (((Below.refl _ _).alloc (Nat.le_refl _) _).alloc (by simp) _).alloc (by simp <;> omega) _
  have hb1 := hb
  have e1 : (w.alloc (.cells #[.slice ab n cb, .slice am n cm] 58)).heap.size = w.heap.size + 1 := by simp
  clear hw
  have k0 := b0.cell
  go_wp2_with fail
  refine Calls.mono (numbers_any n cb cm ab am _ hn) ?_
  rintro e w2 ⟨rfl, hsl, hlt, hm⟩
  replace b0 := b0.keep hm
  replace b1 := b1.keep hm
  replace b2 := b2.keep hm
  replace hb := hb.call hm
  clear hm k0
  go_wp2_with fail
  go_step3
  go_wp2_with fail
  have hbT := HB0.out.keep hb
  have hwa : Own w2.heap.size (w2.alloc (.cells #[] 70)) 70 2 (.slice (some ⟨w2.heap.size, 0, none⟩) 0 0) ([] : List Pd).length (pds []) := ⟨⟨rfl, .inr ⟨w2.heap.size, 0, #[], rfl, Nat.zero_le _, Lp.Bk.al w2 #[] 70, Nat.le_refl _, by decide, rfl, rfl⟩⟩, fun g e => by have e2 : w2.heap.size = g := Option.some.inj e; omega⟩
  have hC0 : BuC t w2 (w2.alloc (.cells #[] 70)) [] (.slice none 0 0) (.slice none 0 0) (.slice (some ⟨w2.heap.size, 0, none⟩) 0 0) [] [] :=
    ⟨⟨hbT.alo _, Own.nil _ _ _ _ _, Own.nil _ _ _ _ _, (fun g e => by cases e)⟩, hwa, (fun g e => by cases e), (fun g e => by cases e), Fr.of ((Below.refl _ _).alloc (Nat.le_refl _) _), fun p hp => by cases hp⟩
  have hts : t < w2.heap.size := hbT.lt
  have hL0 : LstOk (w2.alloc (.cells #[] 70)) t (.slice none 0 0) (.slice none 0 0) (.slice (some ⟨w2.heap.size, 0, none⟩) 0 0) (some ⟨w1.heap.size + 1, 0, none⟩) (List.range n) := by
    refine ⟨w1.heap.size + 1, 0, rfl, Els.alo ?_ _, by have := hb1.size; omega, (fun e => by cases e), (fun e => by cases e), (fun e => by have e2 : w2.heap.size = w1.heap.size + 1 := Option.some.inj e; omega)⟩
    rcases hsl with e | ⟨g, o, e, he⟩
    · exact ⟨hlt, fun i hi => absurd hi (by omega)⟩
    · cases e; exact he
  have HS0 := hid (HSH.out.keep hb)
  have hfr0 : Fr (fun k => k = t) w w2 := Fr.of hb
  have HFR0 := aside hfr0
  have hFN : (ndL (treeT T sur) 0 0 (List.range n)).length ≤ 1100 := by
    rw [nd_len]
    have := sz_le (treeT T sur) (List.range n)
    rw [List.length_range] at this
    have : max n 1 ≤ 512 := by omega
    omega
  have hFO : (orL (treeT T sur) (List.range n)).length ≤ 512 := by
    rw [(or_perm (treeT T sur) (List.range n)).length_eq, List.length_range]; exact hn
  have hP0 := BuP.start (S := treeT T sur) n
  have HLN := aside (And.intro hFN hFO)
  clear hFN hFO hsl hlt hfr0 hbT hwa hb HSH HB0 hb1
  generalize hFNe : ndL (treeT T sur) 0 0 (List.range n) = FN at *
  generalize hFOe : orL (treeT T sur) (List.range n) = FO at *
  have HFE := aside (And.intro hFNe hFOe)
  clear hFNe hFOe
  have hrl : (List.range n).length = n := List.length_range
  go_loopg [7, 8] FN.length (fun k vl vw wr => ∃ (D' D : List Nd) (O l : List Nat) (P : List Pd) (nv ov : Value) (ao : Option Addr) (cl : Nat), k + D.length = FN.length ∧ vl = .slice ao l.length cl ∧ BuP (treeT T sur) n FN FO D O l P ∧ Mem D' D P ∧ BuC t w2 wr P nv ov vw D' O ∧ LstOk wr t nv ov vw ao l ∧ (0 < l.length ∨ (ao = some ⟨w1.heap.size + 1, 0, none⟩ ∧ l = [] ∧ D' = [] ∧ O = [] ∧ P = [] ∧ nv = .slice none 0 0 ∧ ov = .slice none 0 0)) ∧ l.length ≤ 512 ∧ ∀ p, p ∈ P → 0 < p.l.length ∧ p.l.length ≤ 512)
  case atStart =>
    refine ⟨[], [], [], List.range n, [], _, _, _, n, Nat.add_zero _, by rw [hrl], hP0, ⟨rfl, fun i x h => by cases h⟩, hC0, hL0, ?_, by omega, fun p hp => by cases hp⟩
    rcases Nat.eq_zero_or_pos n with rfl | hpos
    · exact .inr ⟨rfl, rfl, rfl, rfl, rfl, rfl, rfl⟩
    · exact .inl (by omega)
  case round =>
    clear hP0 hC0 hL0 hrl
    obtain ⟨g0, hg0⟩ : ∃ g0, g0 = gk := ⟨_, rfl⟩
    subst hg0
    obtain ⟨D', D, O, l, P, nv, ov, ao, cl, hk, rfl, hP, hM, hC, hL, hz, hl5, hq⟩ := hrel
    have HK := aside hk
    clear hk
    have hbig := hP.big
    have hwt := hP.wait
    have hDD := hM.1
    have hD4 : D'.length ≤ 4000 := by have := HLN.out; omega
    have hO4 : O.length ≤ 4000 := by have := HLN.out; omega
    have hPl : P.length ≤ 2000 := by have := HLN.out; omega
    have HSR := hid (HS0.out.fr hC.fr HAB.out HAM.out)
    have HB1 := hid (hC.fr.bk b1 (by omega))
    have HB2 := hid (hC.fr.bk b2 (by omega))
    have k0 := (hC.fr.bk b0 (by omega)).cell
    have HAR := hid (around_any T n cb cm cl ab am ao l wr HSR.out hL.sl hP.li hl5)
    have HP := hid hP
    have HM := hid hM
    have HC := hid hC
    have HL := hid hL
    have HQ := aside hq
    have HZ := aside hz
    have HX := aside (And.intro hbig (And.intro hwt hDD))
    clear hP hM hC hL hq hz hbig hwt hDD
    obtain ⟨g, off, rfl, hEl, hgt, hgn, hgo, hgw⟩ := HL.out
    clear hEl hgt hgn hgo hgw
    go_wp2_with fail
    refine Calls.mono HAR.out ?_
    rintro e w3 ⟨v, rfl, rfl, hm⟩
    replace HC := hid (HC.out.keep hm)
    replace HL := hid (HL.out.step (Fr.of (S := fun _ => False) hm) (fun _ h => h.elim) (Newer.refl _ _) (Newer.refl _ _) (Newer.refl _ _))
    clear hm HAR k0 HSR HB1 HB2
    obtain ⟨aw, cw, hwv⟩ := HC.out.wa.slice
    subst hwv
    have hN : w2.heap.size ≤ w3.heap.size := HC.out.fr.size
    go_wp2_with fail
    by_cases h4 : l.length ≤ 4
    · have hz2 : 0 < l.length ∨ (l = [] ∧ off = 0 ∧ D' = [] ∧ O = [] ∧ nv = .slice none 0 0 ∧ ov = .slice none 0 0) := by
        rcases HZ.out with h | ⟨h1, h2, h3, h4, _, h5, h6⟩
        · exact .inl h
        · injection h1 with h1
          injection h1 with _ h1
          exact .inr ⟨h2, h1, h3, h4, h5, h6⟩
      refine Calls.mono (lay_small w2.heap.size t cl g off nv ov D' O l (bxs T l) w3 HC.out.ts hts hN HL.out.sl hO4 hD4 hz2 h4) ?_
      rintro e w4 ⟨rfl, nv', ov', hTS, hFr, hnn, hno⟩
      have HC4 := hid (HC.out.lay hts hTS hFr hnn hno)
      obtain ⟨an, cn, hnv⟩ := hTS.on.slice
      subst hnv
      clear hTS hFr hnn hno HC HL HZ hz2
      have hc4 : (4 < (l.length : Int)) = False := eq_false (by omega)
      have kT := HC4.out.ts.bT.cell
      have HH4 := aside h4
      clear h4
      have hPc : P = [] ∨ ∃ P0 p, P = P0 ++ [p] := by
        rcases List.eq_nil_or_concat P with h | ⟨P0, p, h⟩
        · exact .inl h
        · exact .inr ⟨P0, p, by rw [h, List.concat_eq_append]⟩
      rcases hPc with rfl | ⟨P0, p, rfl⟩
      · go_wp2_with fail
        rw [Exit.noGoto_normal]
        obtain ⟨eN, eO⟩ := HP.out.done HH4.out
        have eD := HM.out.done
        have hts4 := HC4.out.ts
        refine bodyPost_end (v := .tuple #[]) (by simp [results, go_sem]) rfl ⟨rfl, .slice an (D' ++ [leafOfB (bxs T l) O.length l]).length cn, ov', ?_, HFR0.out.trans HC4.out.fr (fun i _ e => e)⟩
        have eN2 : FN = D' ++ [leafOfB (bxs T l) O.length l] := by rw [eD]; exact eN
        rw [HFE.out.1, HFE.out.2, eN2, eO]
        exact ⟨hts4.bT, hts4.on.weak hts, hts4.oo.weak hts, hts4.ap⟩
      · obtain ⟨hP2, x, hx, hxr⟩ := HP.out.leaf HH4.out
        have hpl : (P0 ++ [p]).length = P0.length + 1 := by simp
        have hxa : p.a < D.length + 1 := by have := (List.getElem?_eq_some_iff.1 hx).1; simpa using this
        have hDL : (D' ++ [leafOfB (bxs T l) O.length l]).length = D'.length + 1 := by simp
        have hpa : p.a < (D' ++ [leafOfB (bxs T l) O.length l]).length := by rw [hDL, HX.out.2.2]; exact hxa
        obtain ⟨gW, hgW, _, EW⟩ := owns_els HC4.out.wa.row (fun _ _ => rfl) (by rw [hpl]; omega)
        obtain ⟨gN, hgN, _, EN⟩ := owns_els HC4.out.ts.on.row (fun _ _ => rfl) (by rw [hDL]; omega)
        subst hgW hgN
        have hgne := fun e : gW = gN => HC4.out.an gN rfl (by rw [e]; rfl)
        have hcw := owns_cap HC4.out.wa.row
        rw [hpl] at hcw
        have hpn := pds_last P0 p
        have HEW := hid EW
        have HEN := hid EN
        have HP2 := hid hP2
        have HGN := aside hgne
        have zN := HC4.out.ts.on.frz
        rw [hDL] at kT
        simp only [hpl] at *
        clear EW EN hP2 hgne
        have HXA := aside (And.intro hx (And.intro hxr hpa))
        clear hx hxr hpa
        obtain ⟨y, hy⟩ : ∃ y, (D' ++ [leafOfB (bxs T l) O.length l])[p.a]? = some y := ⟨_, List.getElem?_eq_getElem HXA.out.2.2⟩
        have HY := aside hy
        clear hy
        have i1 : (0 : Int) ≤ (P0.length : Int) := by omega
        have i2 : (P0.length : Int) < (P0.length : Int) + 1 := by omega
        have i3 : (0 : Int) ≤ (p.a : Int) := by omega
        have i4 : (p.a : Int) < (D'.length : Int) + 1 := by have := HX.out.2.2; omega
        have i5 : (P0.length : Int) ≤ (cw : Int) := by omega
        have i6 : P0.length ≤ cw := by omega
        have i7 : (P0.length = cw) = False := eq_false (by omega)
        go_wp2_with fail
        apply Lw.region _ _ 11 (by kernel_rfl) (by kernel_rfl) (by kernel_rfl) (Below.refl _ _)
        apply Lw.facts
        · intro w1 hw
          exact And.intro (by have := (HC4.out.ts.bT.cl hw).cell; rw [hDL] at this; exact this) (wat (HEW.out.cl hw))
        intro HF
        iterate 11 (
          apply Lw.one ?_ rfl
          · intro w hw
            obtain ⟨q0, q1, q2⟩ := HF.out _ hw
            go_simp
            exact rfl
          intro K hK
          go_simp
          refine hK.out _ ?_
          clear hK K)
        rotate_left
        exact []
        refine Lw.fin ?_
        intro v5 hm
        have HC5 := hid (HC4.out.keep hm)
        obtain ⟨q1, q2⟩ := wat (HEW.out.keep hm)
        have q3 : v5.cell? ⟨gN, p.a * 10 + 7, none⟩ = some (.int .i64 (y.right : Nat)) := by
          have := (HEN.out.keep hm).atj (j := 7) HXA.out.2.2 (by decide)
          rw [nds_of HY.out, Nat.zero_add] at this
          exact this
        have zN := HC5.out.ts.on.frz
        have hgne : (gW = gN) = False := eq_false HGN.out
        have hgl : gN < v5.heap.size := HC5.out.ts.on.lt gN rfl
        clear hm HF HEW HEN kT HC4
        go_wp2_with fail
        go_roundg (g0 - 1)
        case measure => have := HK.out; have := HX.out.1.1; omega
        case rel =>
          obtain ⟨hx, hxr, hpa⟩ := HXA.out
          have hu : Value.int .i64 ((x.right : Nat) : Int) = .int .i64 ((D'.length : Int) + 1) := by rw [hxr, ← HX.out.2.2]; rfl
          have hC6 := HC5.out.put (i := p.a) (j := 7) (u := .int .i64 ((D'.length : Int) + 1)) (y := { y with right := x.right }) hts hpa (by decide) (by rw [nds_of HY.out, ← hu]; rfl)
          have hC7 := hC6.cut
          refine ⟨_, D ++ [leafOfB (bxs T l) O.length l], O ++ riseF l, p.l, P0, _, _, p.ao, p.cap, ?_, rfl, HP2.out, (HM.out.leaf _).pop hx HY.out, hC7, hC6.ps p (List.mem_append_right _ (List.mem_singleton.2 rfl)), .inl (HQ.out p (List.mem_append_right _ (List.mem_singleton.2 rfl))).1, (HQ.out p (List.mem_append_right _ (List.mem_singleton.2 rfl))).2, fun q hq => HQ.out q (List.mem_append_left _ hq)⟩
          have := HK.out
          have := HX.out.1.1
          simp
          omega
    · have h4' : 4 < l.length := by omega
      refine Calls.mono (lay_node w2.heap.size t cl g off nv ov D' O l (bxs T l) w3 HC.out.ts hts hN hD4 h4') ?_
      rintro e w4 ⟨rfl, nv', ov', hTS, hFr, hnn, hno⟩
      have HC4 := hid (HC.out.lay hts hTS hFr hnn hno)
      have HL4 := hid (HL.out.step hFr (fun k e => by rcases e with e | e | e; exact .inl e; exact .inr (.inl e); exact .inr (.inr (.inl e))) hnn hno (Newer.refl _ _))
      obtain ⟨an, cn, hnv⟩ := hTS.on.slice
      subst hnv
      clear hTS hFr hnn hno HC HL HZ h4
      have hc4 : (4 < (l.length : Int)) = True := eq_true (by omega)
      have hDL : (D' ++ [(⟨bxs T l, 0, 0, 0, 0⟩ : Nd)]).length = D'.length + 1 := by simp
      obtain ⟨gN, hgN, _, EN⟩ := owns_els HC4.out.ts.on.row (fun _ _ => rfl) (by rw [hDL]; omega)
      subst hgN
      have HEN := hid EN
      clear EN
      have hN4 : w2.heap.size ≤ w4.heap.size := HC4.out.fr.size
      have htw2 : ¬ w.heap.size + 1 = t := by omega
      have htw3 : ¬ w.heap.size + 1 + 1 = t := by omega
      have hlp := HP.out.li
      have HPA := hid (parter1_any T HTT.out sur n cb cm cl (w.heap.size + 1) (w.heap.size + 1 + 1) ab am (some ⟨g, off, none⟩) l w4 (HC4.out.fr.bk b1 htw2) (HC4.out.fr.bk b2 htw3) (HS0.out.fr HC4.out.fr HAB.out HAM.out) HL4.out.sl hlp h4' hl5)
      have H1 := aside (show 0 < (partT T sur l).1.length from (treeT T sur).one l h4')
      have H2 := aside (show 0 < (partT T sur l).2.length from (treeT T sur).two l h4')
      have HSM := aside (show (partT T sur l).1.length + (partT T sur l).2.length = l.length from (treeT T sur).sum h4')
      have HH4 := aside h4'
      clear h4' htw2 htw3 hlp
      go_wp2_with fail
      refine Calls.mono HPA.out ?_
      rintro e w5 ⟨v, rfl, aX, cX, aY, cY, rfl, hX, hY, hXg, hYg, hcl⟩
      clear HPA
      have HC5 := hid (HC4.out.keep hcl)
      have hLX : LstOk w5 t (.slice (some ⟨gN, 0, none⟩) (D' ++ [(⟨bxs T l, 0, 0, 0, 0⟩ : Nd)]).length cn) ov' (.slice aw P.length cw) aX (partT T sur l).1 := by
        obtain ⟨gx, ox, e, hE⟩ := hX.get H1.out
        have := hXg gx ox e
        have := HC4.out.ts.bT.lt
        exact ⟨gx, ox, e, hE, by omega, (fun e => by have := HC4.out.ts.on.lt gx e; omega), (fun e => by have := HC4.out.ts.oo.lt gx e; omega), (fun e => by have := HC4.out.wa.lt gx e; omega)⟩
      have hLY : LstOk w5 t (.slice (some ⟨gN, 0, none⟩) (D' ++ [(⟨bxs T l, 0, 0, 0, 0⟩ : Nd)]).length cn) ov' (.slice aw P.length cw) aY (partT T sur l).2 := by
        obtain ⟨gx, ox, e, hE⟩ := hY.get H2.out
        have := hYg gx ox e
        have := HC4.out.ts.bT.lt
        exact ⟨gx, ox, e, hE, by omega, (fun e => by have := HC4.out.ts.on.lt gx e; omega), (fun e => by have := HC4.out.ts.oo.lt gx e; omega), (fun e => by have := HC4.out.wa.lt gx e; omega)⟩
      have q3 : w5.cell? ⟨gN, D'.length * 10 + 6, none⟩ = some (.int .i64 0) := by
        have := (HEN.out.keep hcl).atj (i := D'.length) (j := 6) (by rw [hDL]; omega) (by decide)
        rw [nds_last, Nat.zero_add] at this
        exact this
      have zN := HC5.out.ts.on.frz
      have hgl : gN < w5.heap.size := HC5.out.ts.on.lt gN rfl
      have kT := HC5.out.ts.bT.cell
      rw [hDL] at kT
      have HLX := hid hLX
      have HLY := hid hLY
      clear hX hY hXg hYg hcl HC4 HL4 hLX hLY HEN
      have hu : dcs (⟨bxs T l, D'.length + 1, 0, 0, 0⟩ : Nd) = (nds (D' ++ [(⟨bxs T l, 0, 0, 0, 0⟩ : Nd)]) D'.length).set 6 (.int .i64 ((D'.length : Int) + 1)) := by rw [nds_last]; rfl
      have HC6 := hid (HC5.out.put (i := D'.length) (j := 6) (u := .int .i64 ((D'.length : Int) + 1)) (y := ⟨bxs T l, D'.length + 1, 0, 0, 0⟩) hts (by rw [hDL]; omega) (by decide) hu)
      clear HC5 hu
      have i1 : (0 : Int) ≤ (D'.length : Int) := by omega
      have i2 : (D'.length : Int) < (D'.length : Int) + 1 := by omega
      have hsz : (w5.setCell ⟨gN, D'.length * 10 + 6, none⟩ (.int .i64 ((D'.length : Int) + 1))).heap.size = w5.heap.size := by simp [World.setCell]
      have HY6 := hid (HLY.out.step (Fr.set w5 ⟨gN, D'.length * 10 + 6, none⟩ (.int .i64 ((D'.length : Int) + 1))) (fun k e => .inr (.inl (congrArg some e.symm))) (Newer.refl _ _) (Newer.refl _ _) (Newer.refl _ _))
      have HX6 := hid (HLX.out.step (Fr.set w5 ⟨gN, D'.length * 10 + 6, none⟩ (.int .i64 ((D'.length : Int) + 1))) (fun k e => .inr (.inl (congrArg some e.symm))) (Newer.refl _ _) (Newer.refl _ _) (Newer.refl _ _))
      have HCB := hid (hsz ▸ Lp.Bk.al (w5.setCell ⟨gN, D'.length * 10 + 6, none⟩ (.int .i64 ((D'.length : Int) + 1))) #[.slice aY (partT T sur l).2.length cY, .int .i64 (D'.length : Int)] 70)
      have HSZ := aside hsz
      have HKB := hid (((Below.refl _ _).alloc (Nat.le_refl _) (.cells #[.slice aY (partT T sur l).2.length cY, .int .i64 (D'.length : Int)] 70) : Below (w5.setCell ⟨gN, D'.length * 10 + 6, none⟩ (.int .i64 ((D'.length : Int) + 1))).heap.size (w5.setCell ⟨gN, D'.length * 10 + 6, none⟩ (.int .i64 ((D'.length : Int) + 1))) ((w5.setCell ⟨gN, D'.length * 10 + 6, none⟩ (.int .i64 ((D'.length : Int) + 1))).alloc (.cells #[.slice aY (partT T sur l).2.length cY, .int .i64 (D'.length : Int)] 70))))
      clear HLX HLY hsz
      go_wp2_with ((at_builtin; refine wpList_push _ rfl _ _ 65 rfl 70 iP (.agg #[.slice none 0 0, .int .i64 0]) 2 32 under_pends hP0 hP1 hP2 hP3 rfl (by decide) (.slice aw P.length cw) P.length (flat P.length (pds P)) rfl (HC6.out.wa.alo (.cells #[.slice aY (partT T sur l).2.length cY, .int .i64 (D'.length : Int)] 70)).row ⟨w5.heap.size, 0, none⟩ 1 1 (pcl ⟨aY, cY, (partT T sur l).2, D'.length⟩) rfl rfl (cells_at0 (xs := pcl ⟨aY, cY, (partT T sur l).2, D'.length⟩) HCB.out) (pcl_one _) (max_small (by omega)) (by omega) ?_))
      intro v' w7 hown hg hb
      have hn7 : Newer ((w5.setCell ⟨gN, D'.length * 10 + 6, none⟩ (.int .i64 ((D'.length : Int) + 1))).alloc (.cells #[.slice aY (partT T sur l).2.length cY, .int .i64 (D'.length : Int)] 70)) (.slice aw P.length cw) v' := hb.imp id fun h k e => by have := h k e; simp at this ⊢; omega
      have hlo6 : w2.heap.size ≤ ((w5.setCell ⟨gN, D'.length * 10 + 6, none⟩ (.int .i64 ((D'.length : Int) + 1))).alloc (.cells #[.slice aY (partT T sur l).2.length cY, .int .i64 (D'.length : Int)] 70)).heap.size := by have := HC6.out.fr.size; simp at this ⊢; omega
      have hY7 := HY6.out.step (Fr.of (S := fun _ => False) HKB.out) (fun _ h => h.elim) (Newer.refl _ _) (Newer.refl _ _) (Newer.refl _ _)
      have hX7 := HX6.out.step (Fr.of (S := fun _ => False) HKB.out) (fun _ h => h.elim) (Newer.refl _ _) (Newer.refl _ _) (Newer.refl _ _)
      have HC7 := hid ((HC6.out.keep HKB.out).push hlo6 hts hown hg hn7 hY7)
      have HX7 := hid (hX7.step (Fr.grown hg) (fun k e => .inr (.inr (.inr e))) (Newer.refl _ _) (Newer.refl _ _) hn7)
      clear hown hg hb hn7 hlo6 hY7 hX7 HY6 HX6 HCB HKB HSZ HC6 q3 zN hgl kT
      go_wp2_with fail
      go_roundg (g0 - 1)
      case measure => have := HK.out; have := HX.out.1.1; omega
      case rel =>
        have hPn := HP.out.node HH4.out aY cY
        rw [← HX.out.2.2] at hPn
        have hset : (D' ++ [(⟨bxs T l, 0, 0, 0, 0⟩ : Nd)]).set D'.length ⟨bxs T l, D'.length + 1, 0, 0, 0⟩ = D' ++ [⟨bxs T l, D'.length + 1, 0, 0, 0⟩] := by simp
        have hM7 := HM.out.node ⟨bxs T l, D'.length + 1, D'.length + 1 + szL (treeT T sur) (partT T sur l).1, 0, 0⟩ ⟨aY, cY, (partT T sur l).2, D'.length⟩ HX.out.2.2
        have hC7 := HC7.out
        rw [hset] at hC7
        have h1 := H1.out
        have h2 := H2.out
        have h3 := HSM.out
        refine ⟨D' ++ [⟨bxs T l, D'.length + 1, 0, 0, 0⟩], D ++ [⟨bxs T l, D'.length + 1, D'.length + 1 + szL (treeT T sur) (partT T sur l).1, 0, 0⟩], O, (partT T sur l).1, P ++ [⟨aY, cY, (partT T sur l).2, D'.length⟩], _, _, aX, cX, ?_, rfl, hPn, hM7, ?_, HX7.out, .inl h1, by omega, fun q hq => ?_⟩
        · have := HK.out
          have := HX.out.1.1
          simp
          omega
        · exact hC7
        · rcases List.mem_append.1 hq with hq | hq
          · exact HQ.out q hq
          · rcases List.mem_singleton.1 hq with rfl
            exact ⟨h2, by show (partT T sur l).2.length ≤ 512; omega⟩

end Go.Proofs.Ytijoaklknpkdoaa

namespace Go.Proofs.Ytijoaklknpkdoaa
open Go.RowKit Fl Lm

def cornerT (t : Tr) : Nat → Nat × Nat × Nat
  | 0 => (t.t0, t.t1, t.t2)
  | 1 => (t.t3, t.t4, t.t5)
  | _ => (t.t6, t.t7, t.t8)
def okC (c : Nat × Nat × Nat) : Bool := moB c.1 && moB c.2.1 && moB c.2.2
theorem may_corners (t : Tr) : t.mayB = (okC (cornerT t 0) && okC (cornerT t 1) && okC (cornerT t 2)) := by
  unfold Tr.mayB okC cornerT
  simp only [Bool.and_assoc]
/-- All of the first j. -/
def allB (p : Nat → Bool) : Nat → Bool
  | 0 => true
  | j + 1 => allB p j && p j
theorem allB_none {p : Nat → Bool} {j : Nat} (h : p j = false) : ∀ n, j < n → allB p n = false
  | 0, hn => by omega
  | n + 1, hn => by
    unfold allB
    by_cases e : j = n
    · subst e; rw [h, Bool.and_false]
    · rw [allB_none h n (by omega), Bool.false_and]
theorem okC_all (c : Nat × Nat × Nat) : okC c = allB (fun k => moB (partF c.1 c.2.1 c.2.2 (k : Int))) 3 := by
  simp [okC, allB, partF]
theorem may_all (t : Tr) : t.mayB = allB (fun j => okC (cornerT t j)) 3 := by
  rw [may_corners]; simp [allB]
theorem idx_tri0 (t : Tr) (w : World) : (Instr.index 61 (.agg #[.float .f64 t.t0, .float .f64 t.t1, .float .f64 t.t2, .float .f64 t.t3, .float .f64 t.t4, .float .f64 t.t5, .float .f64 t.t6, .float .f64 t.t7, .float .f64 t.t8]) (.int .i64 0)).run Try.prog w = .ok (.agg #[.float .f64 t.t0, .float .f64 t.t1, .float .f64 t.t2]) w := by kernel_rfl
theorem idx_tri1 (t : Tr) (w : World) : (Instr.index 61 (.agg #[.float .f64 t.t0, .float .f64 t.t1, .float .f64 t.t2, .float .f64 t.t3, .float .f64 t.t4, .float .f64 t.t5, .float .f64 t.t6, .float .f64 t.t7, .float .f64 t.t8]) (.int .i64 1)).run Try.prog w = .ok (.agg #[.float .f64 t.t3, .float .f64 t.t4, .float .f64 t.t5]) w := by kernel_rfl
theorem idx_tri2 (t : Tr) (w : World) : (Instr.index 61 (.agg #[.float .f64 t.t0, .float .f64 t.t1, .float .f64 t.t2, .float .f64 t.t3, .float .f64 t.t4, .float .f64 t.t5, .float .f64 t.t6, .float .f64 t.t7, .float .f64 t.t8]) (.int .i64 2)).run Try.prog w = .ok (.agg #[.float .f64 t.t6, .float .f64 t.t7, .float .f64 t.t8]) w := by kernel_rfl
theorem idx_tri (t : Tr) (j : Nat) (hj : j < 3) (w : World) : (Instr.index 61 (.agg #[.float .f64 t.t0, .float .f64 t.t1, .float .f64 t.t2, .float .f64 t.t3, .float .f64 t.t4, .float .f64 t.t5, .float .f64 t.t6, .float .f64 t.t7, .float .f64 t.t8]) (.int .i64 (j : Int))).run Try.prog w = .ok (.agg #[.float .f64 (cornerT t j).1, .float .f64 (cornerT t j).2.1, .float .f64 (cornerT t j).2.2]) w := by
  match j, hj with
  | 0, _ => exact idx_tri0 t w
  | 1, _ => exact idx_tri1 t w
  | 2, _ => exact idx_tri2 t w

set_option maxRecDepth 100000 in
set_option maxHeartbeats 1000000 in
theorem wrong_any (t : Tr) (w : World) : Ret Try.prog 17 #[txv t] w (fun v => v = .bool (!t.mayB)) := by
  unfold Ret txv
  have HY := aside (may_all t)
  have HI := hid (idx_tri t)
  generalize cornerT t = C at *
  generalize t.mayB = y at *
  go_enter Try.func17, Try.ntmps17
  go_wp2_with fail
  go_loopg [14] 3 (fun k i wr => ∃ j : Nat, k + j = 3 ∧ i = .int .i64 (j : Int) ∧ allB (fun j => okC (C j)) j = true ∧ Cl w wr)
  case atStart => exact ⟨0, rfl, rfl, rfl, (Below.refl _ _).alloc (Nat.le_refl _) _⟩
  case round =>
    obtain ⟨g0, hg0⟩ : ∃ g0, g0 = gk := ⟨_, rfl⟩
    subst hg0
    obtain ⟨j, hk, rfl, hA, HB⟩ := hrel
    have HK := aside hk
    have HA := aside hA
    clear hk hA
    by_cases hj : j < 3
    · have hd : ((j : Int) < 3) = True := eq_true (by omega)
      have hix := HI.out j hj
      have HP := aside (okC_all (C j))
      have HAll := aside (show okC (C j) = false → allB (fun j => okC (C j)) 3 = false from fun h => allB_none h 3 hj)
      have HA2 := aside (show okC (C j) = true → allB (fun j => okC (C j)) (j + 1) = true from fun h => by show (allB _ j && okC (C j)) = true; rw [HA.out, h]; rfl)
      generalize C j = c at *
      obtain ⟨c0, c1, c2⟩ := c
      dsimp only at hix
      have hjl := aside hj
      have hj5 : j < 512 := by omega
      clear hj HA
      go_wp2_with fail
      clear hix
      go_loopg [17] 3 (fun k i wi => ∃ m : Nat, k + m = 3 ∧ i = .int .i64 (m : Int) ∧ allB (fun k => moB (partF c0 c1 c2 (k : Int))) m = true ∧ Lp.Bk wi wr.heap.size #[.float .f64 c0, .float .f64 c1, .float .f64 c2] 25 ∧ Cl w wi)
      case atStart => exact ⟨0, rfl, rfl, rfl, Lp.Bk.al _ _ _, HB.alloc _⟩
      case round =>
        obtain ⟨g1, hg1⟩ : ∃ g1, g1 = gk := ⟨_, rfl⟩
        subst hg1
        obtain ⟨m, hk, rfl, hA, BC, HB2⟩ := hrel
        have HK2 := aside hk
        have HA3 := aside hA
        clear hk hA
        by_cases hm : m < 3
        · have hd2 : ((m : Int) < 3) = True := eq_true (by omega)
          have HNo := aside (show moB (partF c0 c1 c2 (m : Int)) = false → okC (c0, c1, c2) = false from fun h => by rw [HP.out]; exact allB_none (p := fun k => moB (partF c0 c1 c2 (k : Int))) h 3 hm)
          have HYes := aside (show moB (partF c0 c1 c2 (m : Int)) = true → allB (fun k => moB (partF c0 c1 c2 (k : Int))) (m + 1) = true from fun h => by show (allB _ m && moB (partF c0 c1 c2 (m : Int))) = true; rw [HA3.out, h]; rfl)
          have HV := hid (fun w => vpart_any c0 c1 c2 (m : Int) w)
          generalize partF c0 c1 c2 (m : Int) = x at HNo HYes HV
          have hml := aside hm
          have hm5 : m < 512 := by omega
          clear hm HA3
          have hp : (FloatKind.f64.format.order x 13920626448202203136 == some .gt || FloatKind.f64.format.order x 13920626448202203136 == some .eq) = leB m20 x := geB_eq x m20
          have hq : (FloatKind.f64.format.order x 4697254411347427328 == some .lt || FloatKind.f64.format.order x 4697254411347427328 == some .eq) = leB x maxW := rfl
          unfold moB at HNo HYes
          generalize leB m20 x = p at hp HNo HYes
          generalize leB x maxW = q at hq HNo HYes
          have kC := BC.cell
          cases p
          · replace HNo := aside (HNo.out rfl)
            go_wp2_with fail
            refine Calls.mono (HV.out _) ?_
            rintro e w5 ⟨v, rfl, rfl, hm5⟩
            clear kC
            replace HB2 := HB2.call hm5
            clear hm5
            go_wp2_with fail
            go_ret
            exact ⟨_, rfl, by rw [HY.out, HAll.out HNo.out]; rfl, HB2⟩
          cases q
          · replace HNo := aside (HNo.out rfl)
            go_wp2_with fail
            refine Calls.mono (HV.out _) ?_
            rintro e w5 ⟨v, rfl, rfl, hm5⟩
            clear kC
            replace HB2 := HB2.call hm5
            clear hm5
            go_wp2_with fail
            go_ret
            exact ⟨_, rfl, by rw [HY.out, HAll.out HNo.out]; rfl, HB2⟩
          · replace HYes := aside (HYes.out rfl)
            go_wp2_with fail
            refine Calls.mono (HV.out _) ?_
            rintro e w5 ⟨v, rfl, rfl, hm5⟩
            clear kC
            replace HB2 := HB2.call hm5
            replace BC := BC.keep hm5
            clear hm5
            go_wp2_with fail
            go_roundg (g1 - 1)
            case measure => have := HK2.out; have := hml.out; omega
            case rel => exact ⟨m + 1, by have := HK2.out; have := hml.out; omega, by go_num, HYes.out, BC, HB2⟩
        · have hd2 : ((m : Int) < 3) = False := eq_false (by omega)
          have hm3 : m = 3 := by have := HK2.out; omega
          subst hm3
          have HA4 := aside (HA2.out (HP.out.trans HA3.out))
          clear hm
          go_wp2_with fail
          go_roundg (g0 - 1)
          case measure => have := HK.out; have := hjl.out; omega
          case rel => exact ⟨j + 1, by have := HK.out; have := hjl.out; omega, by go_num, HA4.out, HB2⟩
    · have hd : ((j : Int) < 3) = False := eq_false (by omega)
      have hjn : j = 3 := by have := HK.out; omega
      subst hjn
      clear hj
      go_wp2_with fail
      go_ret
      exact ⟨_, rfl, by rw [HY.out, HA.out]; rfl, HB⟩

set_option maxRecDepth 100000 in
set_option maxHeartbeats 1000000 in
theorem tindex_any (T : Nat → Tr) (n c : Nat) (ao : Option Addr) (w : World) (h : Sl w ao n 9 fun i => tcs (T i)) (hn : n ≤ 512) : Ret Try.prog 20 #[.slice ao n c, .func (.func 17) #[] #[]] w (fun v => ∃ r : Int, v = .int .i64 r ∧ (0 ≤ r ↔ ∃ i, i < n ∧ (T i).mayB = false)) := by
  unfold Ret
  have HF := hid h
  have HN := aside hn
  clear h hn
  go_enter Try.func20, Try.ntmps20
  go_wp2_with fail
  go_loopg [8] n (fun k i wr => ∃ j : Nat, k + j = n ∧ i = .int .i64 (j : Int) ∧ (∀ i, i < j → (T i).mayB = true) ∧ Cl w wr)
  case atStart => exact ⟨0, by omega, rfl, fun i hi => by omega, Below.refl _ _⟩
  case round =>
    obtain ⟨g0, hg0⟩ : ∃ g0, g0 = gk := ⟨_, rfl⟩
    subst hg0
    obtain ⟨j, hk, rfl, hA, HB⟩ := hrel
    have HK := aside hk
    have HA := aside hA
    clear hk hA
    by_cases hj : j < n
    · have hd : ((j : Int) < (n : Int)) = True := eq_true (by omega)
      obtain ⟨g, o, rfl, E⟩ := (HF.out.keep HB).get hj
      obtain ⟨k0, k1, k2, k3, k4, k5, k6, k7, k8⟩ := tat E hj
      have HW := hid (fun w => wrong_any (T j) w)
      unfold txv at HW
      have HA2 := aside (show (T j).mayB = true → ∀ i, i < j + 1 → (T i).mayB = true from fun h i hi => by rcases Nat.lt_or_eq_of_le (Nat.le_of_lt_succ hi) with h2 | h2; exact HA.out i h2; exact h2 ▸ h)
      have HA3 := aside (show (T j).mayB = false → ∃ i, i < n ∧ (T i).mayB = false from fun h => ⟨j, hj, h⟩)
      have hjl := aside hj
      have hj5 : j < 512 := by have := HN.out; omega
      clear hj HA E
      generalize T j = t at *
      generalize t.mayB = p at *
      cases p
      · replace HA3 := aside (HA3.out rfl)
        go_wp2_with fail
        refine Calls.mono (HW.out _) ?_
        rintro e w5 ⟨v, rfl, rfl, hm5⟩
        clear k0 k1 k2 k3 k4 k5 k6 k7 k8
        replace HB := HB.call hm5
        clear hm5
        go_wp2_with fail
        go_ret
        exact ⟨_, rfl, ⟨_, rfl, fun _ => HA3.out, fun _ => by omega⟩, HB⟩
      · replace HA2 := aside (HA2.out rfl)
        go_wp2_with fail
        refine Calls.mono (HW.out _) ?_
        rintro e w5 ⟨v, rfl, rfl, hm5⟩
        clear k0 k1 k2 k3 k4 k5 k6 k7 k8
        replace HB := HB.call hm5
        clear hm5
        go_wp2_with fail
        go_roundg (g0 - 1)
        case measure => have := HK.out; have := hjl.out; omega
        case rel => exact ⟨j + 1, by have := HK.out; have := hjl.out; omega, by go_num, HA2.out, HB⟩
    · have hd : ((j : Int) < (n : Int)) = False := eq_false (by omega)
      have hjn : j = n := by have := HK.out; omega
      subst hjn
      clear hj
      go_wp2_with fail
      go_ret
      exact ⟨_, rfl, ⟨-1, rfl, fun h => absurd h (by omega), fun ⟨i, hi, h⟩ => by rw [HA.out i hi] at h; cases h⟩, HB⟩

set_option maxRecDepth 100000 in
set_option maxHeartbeats 1000000 in
theorem tcontains_any (T : Nat → Tr) (n c : Nat) (ao : Option Addr) (w : World) (h : Sl w ao n 9 fun i => tcs (T i)) (hn : n ≤ 512) (b : Bool) (hb : b = true ↔ ∃ i, i < n ∧ (T i).mayB = false) : Ret Try.prog 16 #[.slice ao n c, .func (.func 17) #[] #[]] w (fun v => v = .bool b) := by
  unfold Ret
  have HI := hid (tindex_any T n c ao w h hn)
  have HBB := aside hb
  clear h hn hb
  go_enter Try.func16, Try.ntmps16
  go_wp2_with fail
  refine Calls.mono HI.out ?_
  rintro e w1 ⟨v, rfl, ⟨r, rfl, hr⟩, hm⟩
  have HR := aside (show decide (0 ≤ r) = b by
    cases b
    · exact decide_eq_false fun h => by have := HBB.out.2 (hr.1 h); cases this
    · exact decide_eq_true (hr.2 (HBB.out.1 rfl)))
  clear hr
  go_wp2_with fail
  go_ret
  exact ⟨_, rfl, congrArg Value.bool HR.out, hm⟩

end Go.Proofs.Ytijoaklknpkdoaa

namespace Go.Proofs.Ytijoaklknpkdoaa
open Go.RowKit Fl Lm

/-- A tree in memory. -/
def TreeR (w : World) (t : Nat) (D : List Nd) (O : List Nat) : Prop :=
  ∃ gN cn ao co, Lp.Bk w t #[.slice (some ⟨gN, 0, none⟩) D.length cn, .slice ao O.length co] 42 ∧ Els w gN 0 D.length 10 (nds D) ∧ Sl w ao O.length 1 (lvs O)
theorem TreeR.keep {w w' : World} {t : Nat} {D : List Nd} {O : List Nat} (h : TreeR w t D O) (hb : Below w.heap.size w w') : TreeR w' t D O := by
  obtain ⟨gN, cn, ao, co, h1, h2, h3⟩ := h
  exact ⟨gN, cn, ao, co, h1.keep hb, h2.keep hb, h3.keep hb⟩
theorem TreeS.read {N : Nat} {w : World} {t : Nat} {nv ov : Value} {D : List Nd} {O : List Nat} (h : TreeS N w t nv ov D O) (hD : 0 < D.length) : TreeR w t D O := by
  obtain ⟨an, cn, rfl⟩ := h.on.slice
  obtain ⟨ao, co, rfl⟩ := h.oo.slice
  obtain ⟨gN, rfl, _, hE⟩ := owns_els h.on.row (fun _ _ => rfl) hD
  exact ⟨gN, cn, ao, co, h.bT, hE, h.oo.sl (fun _ _ => rfl)⟩

set_option maxRecDepth 100000 in
set_option maxHeartbeats 1000000 in
theorem new_any (T : Nat → Tr) (hT : ∀ i, (T i).Mo) (sur : Bool) (n c : Nat) (ao : Option Addr) (w : World) (hL : Sl w ao n 9 fun i => tcs (T i)) (hn : n ≤ 512) (hm : ∀ i, i < n → (T i).mayB = true) :
    Calls Try.prog 11 #[.slice ao n c, .bool sur] w fun e w' => ∃ t, e = .returned (.tuple #[.pointer (some ⟨t, 0, none⟩), .int .i64 0]) ∧ TreeR w' t (ndL (treeT T sur) 0 0 (List.range n)) (orL (treeT T sur) (List.range n)) ∧ w.heap.size ≤ t ∧ Cl w w' := by
  have HL := hid hL
  have HTT := aside hT
  have HC := hid (tcontains_any T n c ao w hL hn false ⟨fun h => (by cases h), fun ⟨i, hi, h⟩ => by rw [hm i hi] at h; cases h⟩)
  clear hL hT hm
  have hc : (512 < (n : Int)) = False := eq_false (by omega)
  go_enter Try.func11, Try.ntmps11
  go_wp2_with fail
  refine Calls.mono HC.out ?_
  rintro e w1 ⟨v, rfl, rfl, hm⟩
  have hb : Cl w w1 := hm
  clear hm HC
  go_wp2_with fail
  have hb2 : Below w1.heap.size w1 (w1.alloc (.cells #[.slice none 0 0, .slice none 0 0] 42)) := (Below.refl _ _).alloc (Nat.le_refl _) _
  have hB := Lp.Bk.al w1 #[.slice none 0 0, .slice none 0 0] 42
  have HB2 := hid (hb.call hb2)
  have HBT := hid hB
  have HME := hid (measured_any T HTT.out n c ao _ ((HL.out.keep hb).keep hb2) hn)
  have hbs := hb.size
  clear hb2 hB hb
  refine Calls.mono HME.out ?_
  rintro e w3 ⟨ab, cb, am, cm, rfl, hS, h1, h2, hm⟩
  clear HME
  have e1 : (w1.alloc (.cells #[.slice none 0 0, .slice none 0 0] 42)).heap.size = w1.heap.size + 1 := by simp
  rw [e1] at h1 h2
  have HBU := hid (build_any T HTT.out sur n w1.heap.size cb cm ab am w3 hn (HBT.out.keep hm) hS (fun g o e => by have := h1 g o e; omega) (fun g o e => by have := h2 g o e; omega))
  have HB3 := hid (HB2.out.call hm)
  clear hS h1 h2 hm HBT HB2 e1
  go_wp2_with fail
  refine Calls.mono HBU.out ?_
  rintro e w4 ⟨rfl, nv, ov, hTS, hFr⟩
  clear HBU
  go_wp2_with fail
  refine bodyPost_ret (v := _) (by simp [results, go_sem]) rfl ⟨w1.heap.size, rfl, hTS.read (by rw [nd_len]; exact sz_pos _ _), hbs, hFr.cl HB3.out (fun i e => by omega)⟩

set_option maxRecDepth 100000 in
set_option maxHeartbeats 1000000 in
theorem new_big (n c : Nat) (ao : Option Addr) (sur : Bool) (w : World) (hn : 512 < n) : Calls Try.prog 11 #[.slice ao n c, .bool sur] w fun e w' => e = .returned (.tuple #[.pointer none, .int .i64 4]) ∧ Cl w w' := by
  have hc : (512 < (n : Int)) = True := eq_true (by omega)
  go_enter Try.func11, Try.ntmps11
  go_wp2_with fail
  exact bodyPost_ret (v := _) (by simp [results, go_sem]) rfl ⟨rfl, Below.refl _ _⟩

set_option maxRecDepth 100000 in
set_option maxHeartbeats 1000000 in
theorem new_bad (T : Nat → Tr) (sur : Bool) (n c : Nat) (ao : Option Addr) (w : World) (hL : Sl w ao n 9 fun i => tcs (T i)) (hn : n ≤ 512) (hm : ∃ i, i < n ∧ (T i).mayB = false) :
    Calls Try.prog 11 #[.slice ao n c, .bool sur] w fun e w' => e = .returned (.tuple #[.pointer none, .int .i64 2]) ∧ Cl w w' := by
  have HC := hid (tcontains_any T n c ao w hL hn true ⟨fun _ => hm, fun _ => rfl⟩)
  clear hL hm
  have hc : (512 < (n : Int)) = False := eq_false (by omega)
  go_enter Try.func11, Try.ntmps11
  go_wp2_with fail
  refine Calls.mono HC.out ?_
  rintro e w1 ⟨v, rfl, rfl, hm⟩
  clear HC
  go_wp2_with fail
  exact bodyPost_ret (v := _) (by simp [results, go_sem]) rfl ⟨rfl, hm⟩

end Go.Proofs.Ytijoaklknpkdoaa

namespace Go.Proofs.Ytijoaklknpkdoaa
open Go.RowKit Fl Lm

theorem eql_nodes (ao : Option Addr) (n c : Nat) (w : World) : (binOp .eql 34 (.slice ao n c) (.slice none 0 0)).run Try.prog w = .ok (.bool ao.isNone) w := Lib.run_eql_slice_nil w _ _ ao n c 0 0 under_nodes

theorem nds_one (D : List Nd) (i : Nat) : ∀ u ∈ nds D i, u.oneCell' = true := dcs_one _
theorem Els.flat_news {w : World} {g n k : Nat} {e : Nat → List Value} (h : Els w g 0 n k e) (he : ∀ i, i < n → (e i).length = k) (hk : 0 < k) : ∀ j u, (flat n e)[j]? = some u → w.cell? ((⟨g, 0, none⟩ : Addr).add j) = some u := by
  intro j u hj
  have hlt : j < n * k := by
    have := (List.getElem?_eq_some_iff.1 hj).1
    rwa [flat_len he] at this
  have h1 : j / k < n := (Nat.div_lt_iff_lt_mul hk).2 hlt
  have h2 : j % k < k := Nat.mod_lt _ hk
  have e1 : j = j / k * k + j % k := by have := Nat.div_add_mod j k; rw [Nat.mul_comm] at this; omega
  have h3 := h.at' (j / k) h1 (j % k) h2
  rw [← flat_at he h1 h2, ← e1, hj] at h3
  rw [addr_off, Nat.zero_add]
  rw [Nat.zero_add] at h3
  exact h3
set_option maxRecDepth 100000 in
set_option maxHeartbeats 1000000 in
theorem nclone_any (g c : Nat) (D : List Nd) (w : World) (h : Els w g 0 D.length 10 (nds D)) (h0 : 0 < D.length) (hD : D.length ≤ 4000) :
    Calls Try.prog 13 #[.slice (some ⟨g, 0, none⟩) D.length c] w fun e w' => ∃ g' c', e = .returned (.slice (some ⟨g', 0, none⟩) D.length c') ∧ Els w' g' 0 D.length 10 (nds D) ∧ w.heap.size ≤ g' ∧ Cl w w' := by
  obtain ⟨iN, hJ0, hJ1, hJ2, hJ3⟩ := info_node
  have HE := hid h
  have hw0 : (w.alloc (.cells #[] 29)).ownsRow 0 29 10 (.slice (some ⟨w.heap.size, 0, none⟩) 0 0) 0 [] := ⟨rfl, .inr ⟨w.heap.size, 0, #[], rfl, Nat.zero_le _, Lp.Bk.al w #[] 29, Nat.le_refl _, by decide, rfl, rfl⟩⟩
  have HW := hid hw0
  clear h hw0
  have hnil := fun W => eql_nodes (some ⟨g, 0, none⟩) D.length c W
  go_enter Try.func13, Try.ntmps13
  go_wp2_with ((at_builtin; refine wpList_push _ rfl _ _ 34 rfl 29 iN (.agg #[.float .f64 0, .float .f64 0, .float .f64 0, .float .f64 0, .float .f64 0, .float .f64 0, .int .i64 0, .int .i64 0, .int .i64 0, .int .i64 0]) 10 80 under_nodes hJ0 hJ1 hJ2 hJ3 rfl (by decide) (.slice (some ⟨w.heap.size, 0, none⟩) 0 0) 0 [] rfl HW.out ⟨g, 0, none⟩ D.length c (flat D.length (nds D)) rfl (flat_len (fun _ _ => rfl)) ((HE.out.alo _).flat_news (fun _ _ => rfl) (by decide)) (flat_one fun i _ => nds_one D i) (max_small (by omega)) (by omega) ?_))
  intro v' w1 hown hg hb
  have hcl : Cl w w1 := Cl_grown ((Below.refl _ _).alloc (Nat.le_refl _) _) hg (fun g e => by have e2 : w.heap.size = g := Option.some.inj e; omega)
  have hlo : ∀ g, v'.ownBlock = some g → w.heap.size ≤ g := fun g e => by
    rcases hb with h | h
    · rw [h] at e
      have e2 : w.heap.size = g := Option.some.inj e
      omega
    · have := h g e
      omega
  have HO : Hid (w1.ownsRow 0 29 10 v' D.length (flat D.length (nds D)) ∧ Cl w w1 ∧ ∀ g, v'.ownBlock = some g → w.heap.size ≤ g) := ⟨hown, hcl, hlo⟩
  clear hown hcl hlo hb hg HE HW
  go_wp2_with fail
  go_ret
  obtain ⟨h1, h2, h3⟩ := HO.out
  rcases h1.2 with ⟨h4, h5⟩ | ⟨g', cap, cur, rfl, _⟩
  · exact absurd h5 (by omega)
  · obtain ⟨g2, e, _, hE⟩ := owns_els h1 (fun _ _ => rfl) h0
    injection e with e
    injection e with e
    subst e
    exact ⟨g', cap, rfl, hE, h3 g' rfl, h2⟩

set_option maxRecDepth 100000 in
set_option maxHeartbeats 1000000 in
theorem nodes_any (t : Nat) (D : List Nd) (O : List Nat) (w : World) (h : TreeR w t D O) (h0 : 0 < D.length) (hD : D.length ≤ 4000) : Calls Try.prog 7 #[.pointer (some ⟨t, 0, none⟩)] w fun e w' => ∃ g' c', e = .returned (.slice (some ⟨g', 0, none⟩) D.length c') ∧ Els w' g' 0 D.length 10 (nds D) ∧ w.heap.size ≤ g' ∧ Cl w w' := by
  obtain ⟨gN, cn, ao, co, hB, hE, hO⟩ := h
  have kT := hB.cell
  have HN := hid (nclone_any gN cn D w hE h0 hD)
  clear hE hO hB
  go_enter Try.func7, Try.ntmps7
  go_wp2_with fail
  refine Calls.mono HN.out ?_
  rintro e w1 ⟨g', c', rfl, h⟩
  go_wp2_with fail
  go_ret
  exact ⟨g', c', rfl, h⟩

set_option maxRecDepth 100000 in
set_option maxHeartbeats 1000000 in
theorem nodes_nil (w : World) : Calls Try.prog 7 #[.pointer none] w fun e w' => e = .returned (.slice none 0 0) ∧ Cl w w' := by
  go_enter Try.func7, Try.ntmps7
  go_wp2_with fail
  go_ret
  exact ⟨rfl, Below.refl _ _⟩

theorem oclone_any {ao : Option Addr} {c : Nat} {l : List Nat} {w : World} (hL : Sl w ao l.length 1 (lvs l)) (h5 : l.length ≤ 1000) :
    Calls Try.prog 14 #[.slice ao l.length c] w fun e w' => ∃ a' c', e = .returned (.slice a' l.length c') ∧ Sl w' a' l.length 1 (lvs l) ∧ (∀ g o, a' = some ⟨g, o, none⟩ → w.heap.size ≤ g) ∧ Cl w w' := by
  rcases Nat.eq_zero_or_pos l.length with h0 | h0
  · rw [h0]
    cases ao with
    | none =>
      refine Calls.mono (Try.slices_Clone_int_nil 0 c w) ?_
      rintro e w' ⟨rfl, rfl⟩
      exact ⟨none, 0, rfl, .inl rfl, (fun g o h => by cases h), Below.refl _ _⟩
    | some a =>
      refine Calls.mono (Try.slices_Clone_int_zero a c w) ?_
      rintro e w' ⟨v, rfl, hown, hne, hb⟩
      rcases hown.2 with ⟨h2, _⟩ | ⟨g', cap, cur, rfl, hg, _⟩
      · exact absurd h2 hne
      · exact ⟨_, cap, rfl, .inl rfl, (fun g o h => by cases h; exact hg), hb⟩
  · refine Calls.mono (iclone_any hL h0 h5) ?_
    rintro e w' ⟨g, c', rfl, _, hg, hg2, hc, hb⟩
    refine ⟨_, c', rfl, .inr ⟨g, 0, rfl, hg2, fun i hi j hj => ?_⟩, (fun g o h => by cases h; exact hg), hb⟩
    obtain rfl : j = 0 := by omega
    rw [show 0 + (i * 1 + 0) = i by omega]
    exact (hc i hi).1

set_option maxRecDepth 100000 in
set_option maxHeartbeats 1000000 in
theorem order_any (t : Nat) (D : List Nd) (O : List Nat) (w : World) (h : TreeR w t D O) (h5 : O.length ≤ 1000) : Calls Try.prog 8 #[.pointer (some ⟨t, 0, none⟩)] w fun e w' => ∃ a' c', e = .returned (.slice a' O.length c') ∧ Sl w' a' O.length 1 (lvs O) ∧ (∀ g o, a' = some ⟨g, o, none⟩ → w.heap.size ≤ g) ∧ Cl w w' := by
  obtain ⟨gN, cn, ao, co, hB, hE, hO⟩ := h
  have kT := hB.cell
  have HN := hid (oclone_any (c := co) hO h5)
  clear hE hO hB
  go_enter Try.func8, Try.ntmps8
  go_wp2_with fail
  refine Calls.mono HN.out ?_
  rintro e w1 ⟨g', c', rfl, h⟩
  go_wp2_with fail
  go_ret
  exact ⟨g', c', rfl, h⟩

set_option maxRecDepth 100000 in
set_option maxHeartbeats 1000000 in
theorem order_nil (w : World) : Calls Try.prog 8 #[.pointer none] w fun e w' => e = .returned (.slice none 0 0) ∧ Cl w w' := by
  go_enter Try.func8, Try.ntmps8
  go_wp2_with fail
  go_ret
  exact ⟨rfl, Below.refl _ _⟩

set_option maxRecDepth 100000 in
set_option maxHeartbeats 1000000 in
theorem tri_any (t : Nat) (D : List Nd) (O : List Nat) (p : Int) (w : World) (h : TreeR w t D O) : Calls Try.prog 10 #[.pointer (some ⟨t, 0, none⟩), .int .i64 p] w fun e w' => e = .returned (.int .i64 (if p < 0 ∨ (O.length : Int) ≤ p then -1 else (O.getD p.toNat 0 : Nat))) ∧ Cl w w' := by
  obtain ⟨gN, cn, ao, co, hB, hE, hO⟩ := h
  have kT := hB.cell
  clear hE hB
  by_cases h0 : p < 0
  · rw [if_pos (.inl h0)]
    have hc : (p < 0) = True := eq_true h0
    go_enter Try.func10, Try.ntmps10
    go_wp2_with fail
    go_ret
    exact ⟨rfl, Below.refl _ _⟩
  · by_cases h1 : (O.length : Int) ≤ p
    · rw [if_pos (.inr h1)]
      have hc : (p < 0) = False := eq_false h0
      have hc1 : ((O.length : Int) ≤ p) = True := eq_true h1
      go_enter Try.func10, Try.ntmps10
      go_wp2_with fail
      go_ret
      exact ⟨rfl, Below.refl _ _⟩
    · rw [if_neg (by omega)]
      obtain ⟨i, rfl⟩ : ∃ i : Nat, p = i := ⟨p.toNat, by omega⟩
      have hi : i < O.length := by omega
      obtain ⟨g, o, rfl, E⟩ := hO.get hi
      have k1 := E.num hi
      clear E hO h1
      have hc1 : ((O.length : Int) ≤ (i : Int)) = False := eq_false (by omega)
      have hc2 : ((i : Int) < (O.length : Int)) = True := eq_true (by omega)
      simp only [Int.toNat_natCast]
      go_enter Try.func10, Try.ntmps10
      go_wp2_with fail
      go_ret
      exact ⟨rfl, Below.refl _ _⟩

set_option maxRecDepth 100000 in
set_option maxHeartbeats 1000000 in
theorem tri_nil (p : Int) (w : World) : Calls Try.prog 10 #[.pointer none, .int .i64 p] w fun e w' => e = .returned (.int .i64 (-1)) ∧ Cl w w' := by
  go_enter Try.func10, Try.ntmps10
  go_wp2_with fail
  go_ret
  exact ⟨rfl, Below.refl _ _⟩

end Go.Proofs.Ytijoaklknpkdoaa

namespace Go.Proofs.Ytijoaklknpkdoaa
open Go.RowKit Fl Lm

abbrev outD (D : List Nd) (i : Int) : Prop := i < 0 ∨ (D.length : Int) ≤ i
def ndAt (D : List Nd) (i : Int) : Nd := if outD D i then nd0 else D.getD i.toNat nd0
def isAt (D : List Nd) (i : Int) : Bool := !decide (outD D i)
theorem dat0 {w : World} {g : Nat} {D : List Nd} (h : Els w g 0 D.length 10 (nds D)) {i : Nat} (hi : i < D.length) : w.cell? ⟨g, i * 10, none⟩ = some (.float .f64 (D.getD i nd0).box.a0) ∧ w.cell? ⟨g, i * 10 + 1, none⟩ = some (.float .f64 (D.getD i nd0).box.a1) ∧ w.cell? ⟨g, i * 10 + 2, none⟩ = some (.float .f64 (D.getD i nd0).box.a2) ∧ w.cell? ⟨g, i * 10 + 3, none⟩ = some (.float .f64 (D.getD i nd0).box.a3) ∧ w.cell? ⟨g, i * 10 + 4, none⟩ = some (.float .f64 (D.getD i nd0).box.a4) ∧ w.cell? ⟨g, i * 10 + 5, none⟩ = some (.float .f64 (D.getD i nd0).box.a5) ∧ w.cell? ⟨g, i * 10 + 6, none⟩ = some (.int .i64 ((D.getD i nd0).left : Nat)) ∧ w.cell? ⟨g, i * 10 + 7, none⟩ = some (.int .i64 ((D.getD i nd0).right : Nat)) ∧ w.cell? ⟨g, i * 10 + 8, none⟩ = some (.int .i64 ((D.getD i nd0).lo : Nat)) ∧ w.cell? ⟨g, i * 10 + 9, none⟩ = some (.int .i64 ((D.getD i nd0).hi : Nat)) := by
  have := dat (f := fun i => D.getD i nd0) h hi
  simp only [Nat.zero_add] at this
  exact this

set_option maxRecDepth 100000 in
set_option maxHeartbeats 1000000 in
theorem node_any (t : Nat) (D : List Nd) (O : List Nat) (p : Int) (w : World) (h : TreeR w t D O) : Ret Try.prog 4 #[.pointer (some ⟨t, 0, none⟩), .int .i64 p] w (fun v => v = .tuple #[dxv (ndAt D p), .bool (isAt D p)]) := by
  unfold Ret
  obtain ⟨gN, cn, ao, co, hB, hE, hO⟩ := h
  have kT := hB.cell
  have htw := hB.lt
  have hne : (t = w.heap.size) = False := eq_false (by omega)
  clear hO hB
  by_cases h0 : p < 0
  · have e1 : ndAt D p = nd0 := if_pos (.inl h0)
    have e2 : isAt D p = false := by unfold isAt; rw [decide_eq_true (show outD D p from .inl h0)]; rfl
    rw [e1, e2]
    have hc : (p < 0) = True := eq_true h0
    clear hE
    go_enter Try.func4, Try.ntmps4
    go_wp2_with fail
    refine bodyPost_ret (v := .tuple #[.agg #[.float .f64 0, .float .f64 0, .float .f64 0, .float .f64 0, .float .f64 0, .float .f64 0, .int .i64 0, .int .i64 0, .int .i64 0, .int .i64 0], .bool false]) (by simp [results, go_sem]) rfl ⟨_, rfl, rfl, ?_⟩
    exact (Below.refl _ _).alloc (Nat.le_refl _) _
  · by_cases h1 : (D.length : Int) ≤ p
    · have e1 : ndAt D p = nd0 := if_pos (.inr h1)
      have e2 : isAt D p = false := by unfold isAt; rw [decide_eq_true (show outD D p from .inr h1)]; rfl
      rw [e1, e2]
      have hc : (p < 0) = False := eq_false h0
      have hc1 : ((D.length : Int) ≤ p) = True := eq_true h1
      clear hE
      go_enter Try.func4, Try.ntmps4
      go_wp2_with fail
      refine bodyPost_ret (v := .tuple #[.agg #[.float .f64 0, .float .f64 0, .float .f64 0, .float .f64 0, .float .f64 0, .float .f64 0, .int .i64 0, .int .i64 0, .int .i64 0, .int .i64 0], .bool false]) (by simp [results, go_sem]) rfl ⟨_, rfl, rfl, ?_⟩
      exact (Below.refl _ _).alloc (Nat.le_refl _) _
    · have hno : ¬ outD D p := fun h => by rcases h with h | h; exact h0 h; exact h1 h
      have e1 : ndAt D p = D.getD p.toNat nd0 := if_neg hno
      have e2 : isAt D p = true := by unfold isAt; rw [decide_eq_false hno]; rfl
      rw [e1, e2]
      clear e1 e2 hno
      obtain ⟨i, rfl⟩ : ∃ i : Nat, p = i := ⟨p.toNat, by omega⟩
      have hi : i < D.length := by omega
      obtain ⟨k0, k1, k2, k3, k4, k5, k6, k7, k8, k9⟩ := dat0 hE hi
      have hgl := hE.lt
      have hgn : (gN = w.heap.size) = False := eq_false (by omega)
      simp only [Int.toNat_natCast]
      generalize D.getD i nd0 = x at *
      clear hE h1
      have hc1 : ((D.length : Int) ≤ (i : Int)) = False := eq_false (by omega)
      have hc2 : ((i : Int) < (D.length : Int)) = True := eq_true (by omega)
      unfold dxv
      go_enter Try.func4, Try.ntmps4
      go_wp2_with fail
      refine bodyPost_ret (v := .tuple #[.agg #[.float .f64 x.box.a0, .float .f64 x.box.a1, .float .f64 x.box.a2, .float .f64 x.box.a3, .float .f64 x.box.a4, .float .f64 x.box.a5, .int .i64 (x.left : Nat), .int .i64 (x.right : Nat), .int .i64 (x.lo : Nat), .int .i64 (x.hi : Nat)], .bool true]) (by simp [results, go_sem]) rfl ⟨_, rfl, rfl, ?_⟩
      exact (Below.refl _ _).alloc (Nat.le_refl _) _

set_option maxRecDepth 100000 in
set_option maxHeartbeats 1000000 in
theorem node_nil (p : Int) (w : World) : Ret Try.prog 4 #[.pointer none, .int .i64 p] w (fun v => v = .tuple #[dxv nd0, .bool false]) := by
  unfold Ret
  go_enter Try.func4, Try.ntmps4
  go_wp2_with fail
  refine bodyPost_ret (v := .tuple #[.agg #[.float .f64 0, .float .f64 0, .float .f64 0, .float .f64 0, .float .f64 0, .float .f64 0, .int .i64 0, .int .i64 0, .int .i64 0, .int .i64 0], .bool false]) (by simp [results, go_sem]) rfl ⟨_, rfl, rfl, ?_⟩
  exact (Below.refl _ _).alloc (Nat.le_refl _) _

set_option maxRecDepth 100000 in
set_option maxHeartbeats 1000000 in
theorem root_of (q : Value) (x : Nd) (b : Bool) (w : World) (h : ∀ w', Below w.heap.size w w' → Ret Try.prog 4 #[q, .int .i64 0] w' (fun v => v = .tuple #[dxv x, .bool b])) : Ret Try.prog 5 #[q] w (fun v => v = .tuple #[dxv x, .bool b]) := by
  unfold Ret
  have HN := hid h
  clear h
  unfold dxv at *
  go_enter Try.func5, Try.ntmps5
  go_wp2_with fail
  refine Calls.mono (HN.out _ ((Below.refl _ _).alloc (Nat.le_refl _) _)) ?_
  rintro e w1 ⟨v, rfl, rfl, hm⟩
  have hb : Cl w w1 := ((Below.refl _ _).alloc (Nat.le_refl _) _).trans (hm.mono (by simp))
  have BR := (Lp.Bk.al w #[.float .f64 0, .float .f64 0, .float .f64 0, .float .f64 0, .float .f64 0, .float .f64 0, .int .i64 0, .int .i64 0, .int .i64 0, .int .i64 0] 29).keep hm
  have kR := BR.cell
  have zR := BR.frz
  clear hm HN
  go_wp2_with fail
  have B2 := ((((((((((BR.set 0 (.float .f64 x.box.a0)).set 1 (.float .f64 x.box.a1)).set 2 (.float .f64 x.box.a2)).set 3 (.float .f64 x.box.a3)).set 4 (.float .f64 x.box.a4)).set 5 (.float .f64 x.box.a5)).set 6 (.int .i64 (x.left : Nat))).set 7 (.int .i64 (x.right : Nat))).set 8 (.int .i64 (x.lo : Nat))).set 9 (.int .i64 (x.hi : Nat)))
  have k2 := B2.cell
  refine bodyPost_ret (v := .tuple #[.agg #[.float .f64 x.box.a0, .float .f64 x.box.a1, .float .f64 x.box.a2, .float .f64 x.box.a3, .float .f64 x.box.a4, .float .f64 x.box.a5, .int .i64 (x.left : Nat), .int .i64 (x.right : Nat), .int .i64 (x.lo : Nat), .int .i64 (x.hi : Nat)], .bool b]) (by simp [results, go_sem, kR]) rfl ⟨_, rfl, rfl, ?_⟩
  (repeat (refine Below.setCell ?_ (by show w.heap.size ≤ w.heap.size; omega) _)); exact hb

end Go.Proofs.Ytijoaklknpkdoaa
