/- Package bvh: lay. Package bvh: lay, where there is nothing. Package bvh: what build knows in each round. Package bvh: measured: of each triangle its box, and that box's middle; numbers. -/
import Derived.Deep.LoopGhost
import Derived.Test.YtijoaklknpkdoaaG12
import Derived.Test.YtijoaklknpkdoaaG10
import Derived.Test.YtijoaklknpkdoaaG9
import Derived.Test.YtijoaklknpkdoaaG7
namespace Go.Proofs.Ytijoaklknpkdoaa
open Go.RowKit Fl Lm

def leafOfB (b : Bx) (p : Nat) (l : List Nat) : Nd := ⟨b, 0, 0, p, p + l.length⟩
theorem own_holds {N : Nat} {w : World} {g cap : Nat} {O l : List Nat} (h : Own N w 3 1 (.slice (some ⟨g, 0, none⟩) (O.length + l.length) cap) (O ++ l).length (lvs (O ++ l))) : Sort.Holds (Value.int .i64) w g O.length (l.map fun i : Nat => (i : Int)).toArray := by
  obtain ⟨h1, h2⟩ := h.row
  rw [flat_nums] at h1 h2
  rcases h2 with ⟨h2, _⟩ | ⟨g', cap', cur, hv, hg, hh, hc1, hc2, hc3, hc4⟩
  · cases h2
  · injection hv with e1 e2 e3
    injection e1 with e1
    injection e1 with e1
    subst e1
    intro j hj
    have hj' : j < l.length := by simpa using hj
    have hcj : cur.toList[O.length + j]? = ((O ++ l).map numV)[O.length + j]? := by rw [← hc4, List.getElem?_take_of_lt (by simp; omega)]
    refine ⟨?_, by simp [World.frozen?, hh]⟩
    simp only [World.cell?, hh]
    simp only [Option.isSome_none, Bool.false_eq_true, if_false]
    rw [← Array.getElem?_toList, hcj, List.getElem?_map, List.getElem?_append_right (by omega), show O.length + j - O.length = j by omega, List.getElem?_eq_getElem hj']
    simp [numV, hj']

theorem lay_end {N t : Nat} {w v7 w9 : World} {nv ov0 ov v' : Value} {D : List Nd} {O : List Nat} (x : Nd) (BT : Lp.Bk v7 t #[nv, ov] 42) (ON : Own N v7 29 10 nv D.length (nds D)) (OO : Own N v7 3 1 ov O.length (lvs O)) (FR : Fr (fun k => k = t ∨ Value.ownBlock nv = some k ∨ Value.ownBlock ov0 = some k) w v7) (AP : Apart2 nv ov) (ht : t < N) (hN : N ≤ w.heap.size) (NM : ∀ g, nv.ownBlock = some g → N ≤ g)
    (hown : w9.ownsRow 0 29 10 v' (D.length + 1) (flat D.length (nds D) ++ dcs x)) (hg : v7.grownBy w9 nv.ownBlock) (hb : Newer v7 nv v') :
    Lp.Bk w9 t #[nv, ov] 42 ∧ Own N w9 29 10 v' (D ++ [x]).length (nds (D ++ [x])) ∧ Own N w9 3 1 ov O.length (lvs O) ∧ Apart2 v' ov ∧ Fr (fun k => k = t ∨ Value.ownBlock nv = some k ∨ Value.ownBlock ov0 = some k) w w9 ∧ Newer w nv v' := by
  have hs := FR.size
  have ON2 := ON.push (e' := nds (D ++ [x])) hown hb (Nat.le_trans hN hs) (fun i hi => nds_snoc hi) (nds_last D _)
  rw [show D.length + 1 = (D ++ [x]).length by simp] at ON2
  exact ⟨grown_keep hg BT (fun e => by have := NM _ e; omega), ON2, OO.other hg (fun g e e2 => AP g e2 e), AP.push OO hb, FR.trans (Fr.grown hg) (fun i _ e => .inr (.inl e)), hb.back hs⟩

set_option maxRecDepth 100000 in
set_option maxHeartbeats 1000000 in
theorem lay_node (N t cl g off : Nat) (nv ov : Value) (D : List Nd) (O l : List Nat) (b : Bx) (w : World) (h : TreeS N w t nv ov D O) (ht : t < N) (hN : N ≤ w.heap.size) (hD : D.length ≤ 4000) (h4 : 4 < l.length) :
    Calls Try.prog 24 #[.pointer (some ⟨t, 0, none⟩), .slice (some ⟨g, off, none⟩) l.length cl, bxv b] w fun e w' => e = .returned (.int .i64 (D.length : Int)) ∧ ∃ nv' ov', TreeS N w' t nv' ov' (D ++ [⟨b, 0, 0, 0, 0⟩]) O ∧ Fr (fun k => k = t ∨ Value.ownBlock nv = some k ∨ Value.ownBlock ov = some k) w w' ∧ Newer w nv nv' ∧ Newer w ov ov' := by
  obtain ⟨iI, hI0, hI1, hI2, hI3⟩ := info_int
  obtain ⟨iN, hJ0, hJ1, hJ2, hJ3⟩ := info_node
  obtain ⟨an, cn, rfl⟩ := h.on.slice
  obtain ⟨ao, co, rfl⟩ := h.oo.slice
  have hlt : t < w.heap.size := h.bT.lt
  have hne1 : (t = w.heap.size) = False := eq_false (by omega)
  have hne2 : (t = w.heap.size + 1) = False := eq_false (by omega)
  have NL := aside (fun g e => h.on.lt g e : ∀ g, (Value.slice an D.length cn).ownBlock = some g → g < w.heap.size)
  have OL := aside (fun g e => h.oo.lt g e : ∀ g, (Value.slice ao O.length co).ownBlock = some g → g < w.heap.size)
  have NM := aside (fun g e => h.on.lo g e : ∀ g, (Value.slice an D.length cn).ownBlock = some g → N ≤ g)
  have OM := aside (fun g e => h.oo.lo g e : ∀ g, (Value.slice ao O.length co).ownBlock = some g → N ≤ g)
  have kT := h.bT.cell
  have zT := h.bT.frz
  have HT := hid h
  clear h
  unfold bxv
  have hc4 : ((l.length : Int) ≤ 4) = False := eq_false (by omega)
  go_enter Try.func24, Try.ntmps24
  go_wp2_with fail
  refine Lp.settle (fun w' => Lp.Bk w' t #[.slice an D.length cn, .slice ao O.length co] 42 ∧ Lp.Bk w' (w.heap.size + 1) #[.float .f64 b.a0, .float .f64 b.a1, .float .f64 b.a2, .float .f64 b.a3, .float .f64 b.a4, .float .f64 b.a5, .int .i64 0, .int .i64 0, .int .i64 0, .int .i64 0] 29 ∧ Own N w' 29 10 (.slice an D.length cn) D.length (nds D) ∧ Own N w' 3 1 (.slice ao O.length co) O.length (lvs O) ∧ Fr (fun k => k = t ∨ Value.ownBlock (.slice an D.length cn) = some k ∨ Value.ownBlock (.slice ao O.length co) = some k) w w') ⟨(HT.out.bT.alo _).alo _, Lp.Bk.al1 _ _ _ _, (HT.out.on.alo _).alo _, (HT.out.oo.alo _).alo _, Fr.of (((Below.refl _ _).alloc (Nat.le_refl _) _).alloc (by simp) _)⟩ ?_
  clear kT zT
  rintro v7 ⟨BT, BN, ON, OO, FR⟩
  have AP := aside HT.out.ap
  have OVN : Newer w (.slice ao O.length co) (.slice ao O.length co) := Newer.refl _ _
  clear HT hne1 hne2
  have kT := BT.cell
  have kN := BN.cell
  have hltv : t < v7.heap.size := BT.lt
  have hltn : w.heap.size + 1 < v7.heap.size := BN.lt
  have HBT := hid BT
  have HON := hid ON
  have HOO := hid OO
  have HFR := hid FR
  clear BT BN ON OO FR
  go_region_law ((refine step_push _ rfl _ _ 34 rfl 29 iN (.agg #[.float .f64 0, .float .f64 0, .float .f64 0, .float .f64 0, .float .f64 0, .float .f64 0, .int .i64 0, .int .i64 0, .int .i64 0, .int .i64 0]) 10 80 under_nodes hJ0 hJ1 hJ2 hJ3 rfl (by decide) (.slice an D.length cn) D.length (flat D.length (nds D)) rfl (HON.out.alo (.cells #[.float .f64 b.a0, .float .f64 b.a1, .float .f64 b.a2, .float .f64 b.a3, .float .f64 b.a4, .float .f64 b.a5, .int .i64 0, .int .i64 0, .int .i64 0, .int .i64 0] 29)).row ⟨v7.heap.size, 0, none⟩ 1 1 (dcs (⟨b, 0, 0, 0, 0⟩ : Nd)) rfl rfl (cells_at0 (xs := dcs (⟨b, 0, 0, 0, 0⟩ : Nd)) (Lp.Bk.al v7 _ _)) (dcs_one _) (max_small (by omega)) (by omega) ?_; intro v' w9 hown hg hb; have hg : (v7.alloc (.cells #[.float .f64 b.a0, .float .f64 b.a1, .float .f64 b.a2, .float .f64 b.a3, .float .f64 b.a4, .float .f64 b.a5, .int .i64 0, .int .i64 0, .int .i64 0, .int .i64 0] 29)).grownBy w9 (Value.ownBlock (.slice an D.length cn)) := grown_drew hg; have hb : Newer (v7.alloc (.cells #[.float .f64 b.a0, .float .f64 b.a1, .float .f64 b.a2, .float .f64 b.a3, .float .f64 b.a4, .float .f64 b.a5, .int .i64 0, .int .i64 0, .int .i64 0, .int .i64 0] 29)) (.slice an D.length cn) v' := hb; have HS2 := hid (lay_end (⟨b, 0, 0, 0, 0⟩ : Nd) (HBT.out.alo _) (HON.out.alo _) (HOO.out.alo _) (HFR.out.trans (Fr.of (S := fun _ => False) ((Below.refl _ _).alloc (Nat.le_refl _) _)) (fun _ _ h => h.elim)) AP.out ht hN NM.out hown hg hb); have kT2 := HS2.out.1.cell; have zT2 := HS2.out.1.frz; obtain ⟨an2, cn2, rfl, -⟩ := owns_slice hown; clear hown hg hb kT kN))
  all_goals
    have HW2 := hid OVN
    clear OVN AP
    go_wp2_with fail
    obtain ⟨h1, h2, h3, h4', h5, h6⟩ := HS2.out
    refine bodyPost_ret (v := .int .i64 (D.length : Int)) (by simp [results, go_sem] <;> omega) rfl ⟨rfl, .slice an2 (D.length + 1) cn2, .slice ao O.length co, ⟨h1.set 0 _, h2.setc (by exact ht) _, h3.setc (by exact ht) _, h4'⟩, h5.trans (Fr.set _ _ _) (fun i _ e => .inl e), h6, HW2.out⟩

set_option maxRecDepth 100000 in
set_option maxHeartbeats 1000000 in
theorem lay_leaf (N t cl g off : Nat) (nv ov : Value) (D : List Nd) (O l : List Nat) (b : Bx) (w : World) (h : TreeS N w t nv ov D O) (ht : t < N) (hN : N ≤ w.heap.size) (hL : Sl w (some ⟨g, off, none⟩) l.length 1 (lvs l)) (hO : O.length ≤ 4000) (hD : D.length ≤ 4000) (h0 : 0 < l.length) (h4 : l.length ≤ 4) :
    Calls Try.prog 24 #[.pointer (some ⟨t, 0, none⟩), .slice (some ⟨g, off, none⟩) l.length cl, bxv b] w fun e w' => e = .returned (.int .i64 (D.length : Int)) ∧ ∃ nv' ov', TreeS N w' t nv' ov' (D ++ [(leafOfB b O.length l)]) (O ++ riseF l) ∧ Fr (fun k => k = t ∨ Value.ownBlock nv = some k ∨ Value.ownBlock ov = some k) w w' ∧ Newer w nv nv' ∧ Newer w ov ov' := by
  obtain ⟨iI, hI0, hI1, hI2, hI3⟩ := info_int
  obtain ⟨iN, hJ0, hJ1, hJ2, hJ3⟩ := info_node
  obtain ⟨an, cn, rfl⟩ := h.on.slice
  obtain ⟨ao, co, rfl⟩ := h.oo.slice
  have hlt : t < w.heap.size := h.bT.lt
  have hne1 : (t = w.heap.size) = False := eq_false (by omega)
  have hne2 : (t = w.heap.size + 1) = False := eq_false (by omega)
  have NL := aside (fun g e => h.on.lt g e : ∀ g, (Value.slice an D.length cn).ownBlock = some g → g < w.heap.size)
  have OL := aside (fun g e => h.oo.lt g e : ∀ g, (Value.slice ao O.length co).ownBlock = some g → g < w.heap.size)
  have NM := aside (fun g e => h.on.lo g e : ∀ g, (Value.slice an D.length cn).ownBlock = some g → N ≤ g)
  have OM := aside (fun g e => h.oo.lo g e : ∀ g, (Value.slice ao O.length co).ownBlock = some g → N ≤ g)
  have kT := h.bT.cell
  have zT := h.bT.frz
  have HT := hid h
  clear h
  unfold bxv
  have HE := hid (hL.get (i := 0) h0)
  have hc4 : ((l.length : Int) ≤ 4) = True := eq_true (by omega)
  have hL1 : Els w g off l.length 1 (lvs l) := by
    obtain ⟨g', o', e, hE⟩ := HE.out
    injection e with e
    injection e with e1 e2
    subst e1 e2
    exact hE
  clear HE hL
  have HEL := hid hL1
  clear hL1
  go_enter Try.func24, Try.ntmps24
  go_wp2_with (
    (at_builtin; refine wpList_push _ rfl _ _ 36 rfl 3 iI (.int .i64 0) 1 8 under_ints hI0 hI1 hI2 hI3 rfl (by decide) (.slice ao O.length co) O.length (flat O.length (lvs O)) rfl ((HT.out.oo.alo _).alo (.cells #[.float .f64 b.a0, .float .f64 b.a1, .float .f64 b.a2, .float .f64 b.a3, .float .f64 b.a4, .float .f64 b.a5, .int .i64 0, .int .i64 0, .int .i64 (O.length : Int), .int .i64 0] 29)).row ⟨g, off, none⟩ l.length cl (l.map numV) rfl (by simp) ((HEL.out.alo _).alo (.cells #[.float .f64 b.a0, .float .f64 b.a1, .float .f64 b.a2, .float .f64 b.a3, .float .f64 b.a4, .float .f64 b.a5, .int .i64 0, .int .i64 0, .int .i64 (O.length : Int), .int .i64 0] 29)).news (nums_one _) (max_small (by omega)) (by omega) ?_))
  intro v' w4 hown hg hb
  clear kT zT
  have hgs := hg.size
  simp at hgs
  have hb : Newer ((w.alloc (.cells #[.float .f64 b.a0, .float .f64 b.a1, .float .f64 b.a2, .float .f64 b.a3, .float .f64 b.a4, .float .f64 b.a5] 27)).alloc (.cells #[.float .f64 b.a0, .float .f64 b.a1, .float .f64 b.a2, .float .f64 b.a3, .float .f64 b.a4, .float .f64 b.a5, .int .i64 0, .int .i64 0, .int .i64 (O.length : Int), .int .i64 0] 29)) (.slice ao O.length co) v' := hb.imp id fun h k e => by have := h k e; simp; omega
  have BT := grown_keep hg ((HT.out.bT.alo _).alo _) (fun e => by have := OM.out _ e; omega)
  have BN := grown_keep hg (Lp.Bk.al1 w (.cells #[.float .f64 b.a0, .float .f64 b.a1, .float .f64 b.a2, .float .f64 b.a3, .float .f64 b.a4, .float .f64 b.a5] 27) #[.float .f64 b.a0, .float .f64 b.a1, .float .f64 b.a2, .float .f64 b.a3, .float .f64 b.a4, .float .f64 b.a5, .int .i64 0, .int .i64 0, .int .i64 (O.length : Int), .int .i64 0] 29) (fun e => by have := OL.out _ e; omega)
  have ON := ((HT.out.on.alo _).alo _).other hg (fun g e e2 => HT.out.ap g e e2)
  have OO := ((HT.out.oo.alo (.cells #[.float .f64 b.a0, .float .f64 b.a1, .float .f64 b.a2, .float .f64 b.a3, .float .f64 b.a4, .float .f64 b.a5] 27)).alo (.cells #[.float .f64 b.a0, .float .f64 b.a1, .float .f64 b.a2, .float .f64 b.a3, .float .f64 b.a4, .float .f64 b.a5, .int .i64 0, .int .i64 0, .int .i64 (O.length : Int), .int .i64 0] 29)).more hown hb (by simp; omega)
  have AP := (HT.out.ap.symm.push ((HT.out.on.alo (.cells #[.float .f64 b.a0, .float .f64 b.a1, .float .f64 b.a2, .float .f64 b.a3, .float .f64 b.a4, .float .f64 b.a5] 27)).alo (.cells #[.float .f64 b.a0, .float .f64 b.a1, .float .f64 b.a2, .float .f64 b.a3, .float .f64 b.a4, .float .f64 b.a5, .int .i64 0, .int .i64 0, .int .i64 (O.length : Int), .int .i64 0] 29)) hb).symm
  have OVN : Newer w (.slice ao O.length co) v' := Newer.back hb (by simp; omega)
  have FR : Fr (fun k => k = t ∨ Value.ownBlock (.slice an D.length cn) = some k ∨ Value.ownBlock (.slice ao O.length co) = some k) w w4 := (Fr.of (S := (fun k => k = t ∨ Value.ownBlock (.slice an D.length cn) = some k ∨ Value.ownBlock (.slice ao O.length co) = some k)) (((Below.refl w.heap.size w).alloc (Nat.le_refl _) _).alloc (by simp) _)).trans (Fr.grown hg) (fun i _ e => .inr (.inr e))
  clear HT HEL
  rcases hown.2 with ⟨_, hz⟩ | ⟨gO, cO, _, rfl, _, _, hcap, _, _, _⟩
  · exact absurd hz (by omega)
  clear hown hg
  have hgN := hid (OO.lo gO rfl)
  have hgW : gO ≠ w.heap.size + 1 := by
    rcases hb with e | e
    · have := OL.out gO e.symm
      omega
    · have := e gO rfl
      simp at this
      omega
  have HG := aside (fun i hi (e : i = gO) => (by
    rcases hb with e2 | e2
    · rw [e]; exact e2.symm
    · have := e2 gO rfl
      simp at this
      omega) : ∀ i, i < w.heap.size → i = gO → (Value.slice ao O.length co).ownBlock = some i)
  have HW := aside hgW
  clear hgW hb
  have kT := BT.cell
  have zT := BT.frz
  have kN := BN.cell
  have zN := BN.frz
  have hne3 : (w.heap.size + 1 = t) = False := eq_false (by omega)
  have hlt4 : w.heap.size + 1 < w4.heap.size := by omega
  have HBT := hid BT
  have HBN := hid BN
  have HON := hid ON
  have HOO := hid OO
  have HFR := hid FR
  clear BT BN ON OO FR
  go_wp2_with fail
  refine Lp.settle (fun w' => Lp.Bk w' t #[.slice an D.length cn, .slice (some ⟨gO, 0, none⟩) (O.length + l.length) cO] 42 ∧ Lp.Bk w' (w.heap.size + 1) #[.float .f64 b.a0, .float .f64 b.a1, .float .f64 b.a2, .float .f64 b.a3, .float .f64 b.a4, .float .f64 b.a5, .int .i64 0, .int .i64 0, .int .i64 (O.length : Int), .int .i64 ((O.length + l.length : Nat) : Int)] 29 ∧ Own N w' 29 10 (.slice an D.length cn) D.length (nds D) ∧ Own N w' 3 1 (.slice (some ⟨gO, 0, none⟩) (O.length + l.length) cO) (O ++ l).length (lvs (O ++ l)) ∧ Fr (fun k => k = t ∨ Value.ownBlock (.slice an D.length cn) = some k ∨ Value.ownBlock (.slice ao O.length co) = some k) w w') ⟨(HBT.out.set 1 _).seto (by show t ≠ w.heap.size + 1; omega) _, (HBN.out.seto (by show w.heap.size + 1 ≠ t; omega) _).set 9 _, (HON.out.setc (by exact ht) _).sete (fun g e => by have := NL.out g e; show g ≠ w.heap.size + 1; omega) _, (HOO.out.setc (by exact ht) _).sete (fun g e => by cases e; exact HW.out) _, (HFR.out.trans (Fr.set _ _ _) (fun i _ e => .inl e)).trans (Fr.set _ _ _) (S := (fun k => k = t ∨ Value.ownBlock (.slice an D.length cn) = some k ∨ Value.ownBlock (.slice ao O.length co) = some k)) (fun i hi e => by have e2 : i = w.heap.size + 1 := e; omega)⟩ ?_
  clear kT zT kN zN hne3 hlt4 HBT HBN HON HOO HFR
  rintro v5 ⟨BT, BN, ON, OO, FR⟩
  have hO1 : (0 : Int) ≤ (O.length : Int) := by omega
  have hO2 : (O.length : Int) ≤ (O.length : Int) + (l.length : Int) := by omega
  have hO3 : O.length ≤ O.length + l.length := by omega
  have hO4 : O.length ≤ cO := by omega
  have hO5 : (cO = O.length) = False := eq_false (by omega)
  have hO6 : (O.length = cO) = False := eq_false (by omega)
  apply Lw.region _ _ 7 (by kernel_rfl) (by kernel_rfl) (by kernel_rfl) (Below.refl _ _)
  apply Lw.facts
  · intro w1 hw
    exact And.intro (BT.cl hw).cell (BN.cl hw).cell
  intro HF
  iterate 7 (
    apply Lw.one ?_ rfl
    · intro w hw
      obtain ⟨k0, k1⟩ := HF.out _ hw
      go_simp
      exact rfl
    intro K hK
    go_simp
    refine hK.out _ ?_
    clear hK K)
  rotate_left
  exact []
  refine Lw.fin ?_
  intro v6 hm
  replace BT := BT.keep hm
  replace BN := BN.keep hm
  replace ON := ON.keep hm
  replace OO := OO.keep hm
  replace FR := FR.trans (Fr.of (S := fun _ => False) hm) (S := (fun k => k = t ∨ Value.ownBlock (.slice an D.length cn) = some k ∨ Value.ownBlock (.slice ao O.length co) = some k)) (fun _ _ h => h.elim)
  clear hm HF
  go_wp2_with fail
  have hcon := Try.slices_Sort_int gO O.length (cO - O.length) (l.map fun i : Nat => (i : Int)) v6 (own_holds OO) (OO.lt gO rfl) (by rw [List.length_map]; omega)
  rw [List.length_map, sort_nums] at hcon
  refine Calls.mono hcon ?_
  clear hcon
  rintro e w7 ⟨rfl, nn, os, hw⟩
  have hfr := fr_sort v6 gO O.length nn ((riseF l).map fun i : Nat => (i : Int)).toArray os
  have hos := own_sort nn os OO
  rw [← hw] at hfr hos
  clear hw
  have hnt : ¬ t = gO := by have := hgN.out; omega
  have hnw : ¬ w.heap.size + 1 = gO := fun e => HW.out e.symm
  replace BT := hfr.bk BT hnt
  replace BN := hfr.bk BN hnw
  replace ON := hfr.own ON (fun g e e2 => AP g e (by rw [e2]; rfl))
  replace FR := FR.trans hfr (fun i hi e => .inr (.inr (HG.out i hi e)))
  replace OO := hos
  clear hos hfr hnt hnw hO1 hO2 hO3 hO4 hO5 hO6 HG HW hgN hgs hcap
  replace AP := aside AP
  rw [show (Value.slice (some ⟨gO, 0, none⟩) (O.length + l.length) cO) = .slice (some ⟨gO, 0, none⟩) (O ++ riseF l).length cO by rw [List.length_append, rise_len]] at BT OO AP OVN
  go_wp2_with fail
  refine Lp.settle (fun w' => Lp.Bk w' t #[.slice an D.length cn, .slice (some ⟨gO, 0, none⟩) (O ++ riseF l).length cO] 42 ∧ Lp.Bk w' (w.heap.size + 1) #[.float .f64 b.a0, .float .f64 b.a1, .float .f64 b.a2, .float .f64 b.a3, .float .f64 b.a4, .float .f64 b.a5, .int .i64 0, .int .i64 0, .int .i64 (O.length : Int), .int .i64 ((O.length + l.length : Nat) : Int)] 29 ∧ Own N w' 29 10 (.slice an D.length cn) D.length (nds D) ∧ Own N w' 3 1 (.slice (some ⟨gO, 0, none⟩) (O ++ riseF l).length cO) (O ++ riseF l).length (lvs (O ++ riseF l)) ∧ Fr (fun k => k = t ∨ Value.ownBlock (.slice an D.length cn) = some k ∨ Value.ownBlock (.slice ao O.length co) = some k) w w') ⟨BT, BN, ON, OO, FR⟩ ?_
  clear BT BN ON OO FR
  rintro v7 ⟨BT, BN, ON, OO, FR⟩
  have kT := BT.cell
  have kN := BN.cell
  have hltv : t < v7.heap.size := BT.lt
  have hltn : w.heap.size + 1 < v7.heap.size := BN.lt
  have HBT := hid BT
  have HON := hid ON
  have HOO := hid OO
  have HFR := hid FR
  clear BT BN ON OO FR
  go_region_law ((refine step_push _ rfl _ _ 34 rfl 29 iN (.agg #[.float .f64 0, .float .f64 0, .float .f64 0, .float .f64 0, .float .f64 0, .float .f64 0, .int .i64 0, .int .i64 0, .int .i64 0, .int .i64 0]) 10 80 under_nodes hJ0 hJ1 hJ2 hJ3 rfl (by decide) (.slice an D.length cn) D.length (flat D.length (nds D)) rfl (HON.out.alo (.cells #[.float .f64 b.a0, .float .f64 b.a1, .float .f64 b.a2, .float .f64 b.a3, .float .f64 b.a4, .float .f64 b.a5, .int .i64 0, .int .i64 0, .int .i64 (O.length : Int), .int .i64 ((O.length + l.length : Nat) : Int)] 29)).row ⟨v7.heap.size, 0, none⟩ 1 1 (dcs (leafOfB b O.length l)) rfl rfl (cells_at0 (xs := dcs (leafOfB b O.length l)) (Lp.Bk.al v7 _ _)) (dcs_one _) (max_small (by omega)) (by omega) ?_; intro v' w9 hown hg hb; have hg : (v7.alloc (.cells #[.float .f64 b.a0, .float .f64 b.a1, .float .f64 b.a2, .float .f64 b.a3, .float .f64 b.a4, .float .f64 b.a5, .int .i64 0, .int .i64 0, .int .i64 (O.length : Int), .int .i64 ((O.length + l.length : Nat) : Int)] 29)).grownBy w9 (Value.ownBlock (.slice an D.length cn)) := grown_drew hg; have hb : Newer (v7.alloc (.cells #[.float .f64 b.a0, .float .f64 b.a1, .float .f64 b.a2, .float .f64 b.a3, .float .f64 b.a4, .float .f64 b.a5, .int .i64 0, .int .i64 0, .int .i64 (O.length : Int), .int .i64 ((O.length + l.length : Nat) : Int)] 29)) (.slice an D.length cn) v' := hb; have HS2 := hid (lay_end (leafOfB b O.length l) (HBT.out.alo _) (HON.out.alo _) (HOO.out.alo _) (HFR.out.trans (Fr.of (S := fun _ => False) ((Below.refl _ _).alloc (Nat.le_refl _) _)) (fun _ _ h => h.elim)) AP.out ht hN NM.out hown hg hb); have kT2 := HS2.out.1.cell; have zT2 := HS2.out.1.frz; obtain ⟨an2, cn2, rfl, -⟩ := owns_slice hown; clear hown hg hb kT kN))
  all_goals
    have HW2 := hid OVN
    clear OVN AP
    go_wp2_with fail
    obtain ⟨h1, h2, h3, h4', h5, h6⟩ := HS2.out
    refine bodyPost_ret (v := .int .i64 (D.length : Int)) (by simp [results, go_sem] <;> omega) rfl ⟨rfl, .slice an2 (D.length + 1) cn2, .slice (some ⟨gO, 0, none⟩) (O ++ riseF l).length cO, ⟨h1.set 0 _, h2.setc (by exact ht) _, h3.setc (by exact ht) _, h4'⟩, h5.trans (Fr.set _ _ _) (fun i _ e => .inl e), h6, HW2.out⟩

end Go.Proofs.Ytijoaklknpkdoaa

namespace Go.Proofs.Ytijoaklknpkdoaa
open Go.RowKit Fl Lm

set_option maxRecDepth 100000 in
set_option maxHeartbeats 1000000 in
theorem lay_empty (N t cl g : Nat) (b : Bx) (w : World) (h : TreeS N w t (.slice none 0 0) (.slice none 0 0) [] []) (ht : t < N) (hN : N ≤ w.heap.size) :
    Calls Try.prog 24 #[.pointer (some ⟨t, 0, none⟩), .slice (some ⟨g, 0, none⟩) 0 cl, bxv b] w fun e w' => e = .returned (.int .i64 0) ∧ ∃ nv' ov', TreeS N w' t nv' ov' [leafOfB b 0 []] [] ∧ Fr (fun k => k = t) w w' ∧ Newer w (.slice none 0 0) nv' ∧ Newer w (.slice none 0 0) ov' := by
  obtain ⟨iI, hI0, hI1, hI2, hI3⟩ := info_int
  obtain ⟨iN, hJ0, hJ1, hJ2, hJ3⟩ := info_node
  have hlt : t < w.heap.size := h.bT.lt
  have hne1 : (t = w.heap.size) = False := eq_false (by omega)
  have hne2 : (t = w.heap.size + 1) = False := eq_false (by omega)
  have kT := h.bT.cell
  have zT := h.bT.frz
  have HT := hid h
  have hne3 : (w.heap.size + 1 = t) = False := eq_false (by omega)
  clear h
  unfold bxv
  go_enter Try.func24, Try.ntmps24
  go_wp2_with fail
  refine Lp.settle (fun w' => Lp.Bk w' t #[.slice none 0 0, .slice none 0 0] 42 ∧ Lp.Bk w' (w.heap.size + 1) #[.float .f64 b.a0, .float .f64 b.a1, .float .f64 b.a2, .float .f64 b.a3, .float .f64 b.a4, .float .f64 b.a5, .int .i64 0, .int .i64 0, .int .i64 0, .int .i64 0] 29 ∧ Own N w' 29 10 (.slice none 0 0) ([] : List Nd).length (nds []) ∧ Own N w' 3 1 (.slice none 0 0) ([] : List Nat).length (lvs []) ∧ Fr (fun k => k = t ∨ Value.ownBlock (.slice none 0 0) = some k ∨ Value.ownBlock (.slice none 0 0) = some k) w w') ⟨((HT.out.bT.set 1 _).alo _).alo _, by have := Lp.Bk.al1 (w.setCell ⟨t, 1, none⟩ (.slice none 0 0)) (.cells #[.float .f64 b.a0, .float .f64 b.a1, .float .f64 b.a2, .float .f64 b.a3, .float .f64 b.a4, .float .f64 b.a5] 27) #[.float .f64 b.a0, .float .f64 b.a1, .float .f64 b.a2, .float .f64 b.a3, .float .f64 b.a4, .float .f64 b.a5, .int .i64 0, .int .i64 0, .int .i64 0, .int .i64 0] 29; simpa [World.setCell] using this, Own.nil _ _ _ _ _, Own.nil _ _ _ _ _, (Fr.set _ _ _).trans (Fr.of (S := fun _ => False) (((Below.refl _ _).alloc (Nat.le_refl _) _).alloc (by simp) _)) (fun _ _ h => h.elim) |>.weak (fun i e => .inl e)⟩ ?_
  clear kT zT hne1 hne2 hne3
  rintro v5 ⟨BT, BN, ON, OO, FR⟩
  apply Lw.region _ _ 7 (by kernel_rfl) (by kernel_rfl) (by kernel_rfl) (Below.refl _ _)
  apply Lw.facts
  · intro w1 hw
    exact And.intro (BT.cl hw).cell (BN.cl hw).cell
  intro HF
  iterate 7 (
    apply Lw.one ?_ rfl
    · intro w hw
      obtain ⟨k0, k1⟩ := HF.out _ hw
      go_simp
      exact rfl
    intro K hK
    go_simp
    refine hK.out _ ?_
    clear hK K)
  rotate_left
  exact []
  refine Lw.fin ?_
  intro v6 hm
  replace BT := BT.keep hm
  replace BN := BN.keep hm
  replace ON := ON.keep hm
  replace OO := OO.keep hm
  replace FR := FR.trans (Fr.of (S := fun _ => False) hm) (S := (fun k => k = t ∨ Value.ownBlock (.slice none 0 0) = some k ∨ Value.ownBlock (.slice none 0 0) = some k)) (fun _ _ h => h.elim)
  clear hm HF
  go_wp2_with fail
  refine Calls.mono (Try.slices_Sort_int_none _ _ _) ?_
  rintro e w7 ⟨rfl, hw⟩
  obtain rfl := hw.symm
  clear hw
  have AP : Aside (Apart2 (.slice none 0 0) (.slice none 0 0)) := aside (fun g h => by cases h)
  have NM : Aside (∀ g, (Value.slice none 0 0).ownBlock = some g → N ≤ g) := aside (fun g h => by cases h)
  have OVN : Newer w (.slice none 0 0) (.slice none 0 0) := Newer.refl _ _
  go_wp2_with fail
  generalize v6 = v7 at *
  have kT := BT.cell
  have kN := BN.cell
  have hltv : t < v7.heap.size := BT.lt
  have hltn : w.heap.size + 1 < v7.heap.size := BN.lt
  have HBT := hid BT
  have HON := hid ON
  have HOO := hid OO
  have HFR := hid FR
  clear BT BN ON OO FR
  go_region_law ((refine step_push _ rfl _ _ 34 rfl 29 iN (.agg #[.float .f64 0, .float .f64 0, .float .f64 0, .float .f64 0, .float .f64 0, .float .f64 0, .int .i64 0, .int .i64 0, .int .i64 0, .int .i64 0]) 10 80 under_nodes hJ0 hJ1 hJ2 hJ3 rfl (by decide) (.slice none 0 0) ([] : List Nd).length (flat ([] : List Nd).length (nds [])) rfl (HON.out.alo (.cells #[.float .f64 b.a0, .float .f64 b.a1, .float .f64 b.a2, .float .f64 b.a3, .float .f64 b.a4, .float .f64 b.a5, .int .i64 0, .int .i64 0, .int .i64 0, .int .i64 0] 29)).row ⟨v7.heap.size, 0, none⟩ 1 1 (dcs (leafOfB b 0 [])) rfl rfl (cells_at0 (xs := dcs (leafOfB b 0 [])) (Lp.Bk.al v7 _ _)) (dcs_one _) (max_small (by decide)) (by decide) ?_; intro v' w9 hown hg hb; have hg : (v7.alloc (.cells #[.float .f64 b.a0, .float .f64 b.a1, .float .f64 b.a2, .float .f64 b.a3, .float .f64 b.a4, .float .f64 b.a5, .int .i64 0, .int .i64 0, .int .i64 0, .int .i64 0] 29)).grownBy w9 (Value.ownBlock (.slice none 0 0)) := grown_drew hg; have hb : Newer (v7.alloc (.cells #[.float .f64 b.a0, .float .f64 b.a1, .float .f64 b.a2, .float .f64 b.a3, .float .f64 b.a4, .float .f64 b.a5, .int .i64 0, .int .i64 0, .int .i64 0, .int .i64 0] 29)) (.slice none 0 0) v' := hb; have HS2 := hid (lay_end (leafOfB b 0 []) (HBT.out.alo _) (HON.out.alo _) (HOO.out.alo _) (HFR.out.trans (Fr.of (S := fun _ => False) ((Below.refl _ _).alloc (Nat.le_refl _) _)) (fun _ _ h => h.elim)) AP.out ht hN NM.out hown hg hb); have kT2 := HS2.out.1.cell; have zT2 := HS2.out.1.frz; obtain ⟨an2, cn2, rfl, -⟩ := owns_slice hown; clear hown hg hb kT kN))
  all_goals
    have HW2 := hid OVN
    clear OVN AP
    go_wp2_with fail
    obtain ⟨h1, h2, h3, h4', h5, h6⟩ := HS2.out
    have h5b := (h5.trans (Fr.set w9 ⟨t, 0, none⟩ (.slice an2 1 cn2)) (fun i _ e => .inl e)).weak (S := fun k => k = t) (fun i e => by rcases e with e | e | e; exact e; cases e; cases e)
    refine bodyPost_ret (v := .int .i64 0) (by simp [results, go_sem] <;> omega) rfl ⟨rfl, .slice an2 1 cn2, .slice none 0 0, ⟨h1.set 0 _, h2.setc (by exact ht) _, h3.setc (by exact ht) _, h4'⟩, h5b, h6, HW2.out⟩

end Go.Proofs.Ytijoaklknpkdoaa

namespace Go.Proofs.Ytijoaklknpkdoaa
open Go.RowKit Fl Lm

/-- A list that waits. -/
structure Pd where
  ao : Option Addr
  cap : Nat
  l : List Nat
  a : Nat

def pd0 : Pd := ⟨none, 0, [], 0⟩
def pcl (p : Pd) : List Value := [.slice p.ao p.l.length p.cap, .int .i64 (p.a : Int)]
def pds (P : List Pd) (i : Nat) : List Value := pcl (P.getD i pd0)
theorem pds_snoc {P : List Pd} {x : Pd} {i : Nat} (h : i < P.length) : pds P i = pds (P ++ [x]) i := by
  unfold pds
  rw [List.getD_eq_getElem?_getD, List.getD_eq_getElem?_getD, List.getElem?_append_left h]
theorem pds_last (P : List Pd) (x : Pd) : pds (P ++ [x]) P.length = pcl x := by
  unfold pds
  rw [List.getD_eq_getElem?_getD, List.getElem?_append_right (Nat.le_refl _), Nat.sub_self]
  rfl
theorem pcl_one (p : Pd) : ∀ u ∈ pcl p, u.oneCell' = true := by
  intro u hu
  simp only [pcl, List.mem_cons, List.not_mem_nil, or_false] at hu
  rcases hu with rfl | rfl <;> rfl
def stk (P : List Pd) : List (List Nat) := P.reverse.map (·.l)
theorem stk_snoc (P : List Pd) (x : Pd) : stk (P ++ [x]) = x.l :: stk P := by simp [stk]
section
variable (S : Parts)
def Rts (D : List Nd) : Nat → List Pd → Prop
  | _, [] => True
  | k, p :: st => (∃ x, D[p.a]? = some x ∧ x.right = k) ∧ Rts D (k + szL S p.l) st
theorem Rts.more {D : List Nd} (x : Nd) : ∀ (st : List Pd) (k : Nat), Rts S D k st → Rts S (D ++ [x]) k st
  | [], _, _ => trivial
  | p :: st, k, h => by
    obtain ⟨⟨y, hy, hr⟩, h2⟩ := h
    exact ⟨⟨y, by rw [List.getElem?_append_left (List.getElem?_eq_some_iff.1 hy).1]; exact hy, hr⟩, Rts.more x st _ h2⟩
/-- What is told of the lists. -/
structure BuP (n : Nat) (FN : List Nd) (FO : List Nat) (D : List Nd) (O l : List Nat) (P : List Pd) : Prop where
  fin : FN = D ++ ndS S D.length O.length (l :: stk P)
  ofin : FO = O ++ orS S (l :: stk P)
  rts : Rts S D (D.length + szL S l) P.reverse
  li : ∀ i, i ∈ l → i < n
  pi : ∀ p, p ∈ P → ∀ i, i ∈ p.l → i < n
section
variable {S : Parts} {n : Nat} {FN : List Nd} {FO : List Nat} {D : List Nd} {O l : List Nat} {P : List Pd}
theorem BuP.start (n : Nat) : BuP S n (ndL S 0 0 (List.range n)) (orL S (List.range n)) [] [] (List.range n) [] := by
  refine ⟨by simp [stk, ndS], by simp [stk, orS], trivial, fun i hi => List.mem_range.1 hi, fun p hp => by cases hp⟩
theorem BuP.node (h : BuP S n FN FO D O l P) (h4 : 4 < l.length) (a2 : Option Addr) (c2 : Nat) : BuP S n FN FO (D ++ [⟨S.box l, D.length + 1, D.length + 1 + szL S (S.part l).1, 0, 0⟩]) O (S.part l).1 (P ++ [⟨a2, c2, (S.part l).2, D.length⟩]) := by
  have hp := S.perm l h4
  refine ⟨?_, ?_, ?_, fun i hi => h.li i (hp.mem_iff.1 (List.mem_append_left _ hi)), fun p hp' i hi => ?_⟩
  · rw [h.fin, ndS_node S _ _ h4, stk_snoc, List.length_append, List.append_assoc]
    rfl
  · rw [h.ofin, orS_node S h4, stk_snoc]
  · rw [List.reverse_append]
    refine ⟨⟨_, List.getElem?_concat_length, ?_⟩, ?_⟩
    · simp
    · have := Rts.more S ⟨S.box l, D.length + 1, D.length + 1 + szL S (S.part l).1, 0, 0⟩ _ _ h.rts
      rw [sz_node S h4] at this
      simp only [List.length_append, List.length_singleton]
      rw [show D.length + 1 + szL S (S.part l).1 + szL S (S.part l).2 = D.length + (szL S (S.part l).1 + szL S (S.part l).2 + 1) by omega]
      exact this
  · rcases List.mem_append.1 hp' with e | e
    · exact h.pi p e i hi
    · rcases List.mem_singleton.1 e with rfl
      exact h.li i (hp.mem_iff.1 (List.mem_append_right _ hi))
theorem BuP.leaf {p : Pd} (h : BuP S n FN FO D O l (P ++ [p])) (h4 : l.length ≤ 4) : BuP S n FN FO (D ++ [leafOf S O.length l]) (O ++ riseF l) p.l P ∧ ∃ x, (D ++ [leafOf S O.length l])[p.a]? = some x ∧ x.right = D.length + 1 := by
  have hr := Rts.more S (leafOf S O.length l) _ _ h.rts
  rw [List.reverse_append, sz_leaf S h4] at hr
  obtain ⟨h1, h2⟩ := hr
  refine ⟨⟨?_, ?_, ?_, h.pi p (List.mem_append_right _ (List.mem_singleton.2 rfl)), fun q hq => h.pi q (List.mem_append_left _ hq)⟩, h1⟩
  · rw [h.fin, ndS_leaf S _ _ h4, stk_snoc, List.length_append, List.length_append, rise_len, List.append_assoc]
    rfl
  · rw [h.ofin, orS_leaf S h4, stk_snoc, List.append_assoc]
  · rw [List.length_append]
    exact h2
theorem BuP.done (h : BuP S n FN FO D O l []) (h4 : l.length ≤ 4) : FN = D ++ [leafOf S O.length l] ∧ FO = O ++ riseF l := by
  refine ⟨?_, ?_⟩
  · rw [h.fin, ndS_leaf S _ _ h4]; rfl
  · rw [h.ofin, orS_leaf S h4]; simp [stk, orS]
theorem BuP.big (h : BuP S n FN FO D O l P) : D.length < FN.length ∧ O.length ≤ FO.length := by
  have := ndS_pos S (l := l) D.length O.length (s := l :: stk P) (List.mem_cons_self ..)
  rw [h.fin, h.ofin, List.length_append, List.length_append]
  omega
theorem BuP.wait (h : BuP S n FN FO D O l P) : P.length < FN.length - D.length := by
  have : ∀ (s : List (List Nat)) (k p : Nat), s.length ≤ (ndS S k p s).length := by
    intro s
    induction s with
    | nil => intro k p; simp
    | cons a s ih =>
      intro k p
      rw [ndS, List.length_append, nd_len, List.length_cons]
      have := ih (k + szL S a) (p + a.length)
      have := sz_pos S a
      omega
  have h1 := this (l :: stk P) D.length O.length
  have h2 : (l :: stk P).length = P.length + 1 := by simp [stk]
  rw [h.fin, List.length_append]
  omega
end
end

/-- What the memory has of the nodes: the right part of some is not told yet. -/
def Mem (D' D : List Nd) (P : List Pd) : Prop := D'.length = D.length ∧ ∀ i x, D[i]? = some x → ∃ r, D'[i]? = some { x with right := r } ∧ (r = x.right ∨ ∃ p, p ∈ P ∧ p.a = i)
theorem Mem.done {D' D : List Nd} (h : Mem D' D []) : D' = D := by
  apply List.ext_getElem? 
  intro i
  by_cases hi : i < D.length
  · obtain ⟨r, h1, h2⟩ := h.2 i D[i] (List.getElem?_eq_getElem hi)
    rcases h2 with rfl | ⟨p, hp, _⟩
    · rw [h1, List.getElem?_eq_getElem hi]
    · cases hp
  · rw [List.getElem?_eq_none (by have := h.1; omega), List.getElem?_eq_none (by omega)]
theorem Mem.leaf {D' D : List Nd} {P : List Pd} (h : Mem D' D P) (x : Nd) : Mem (D' ++ [x]) (D ++ [x]) P := by
  refine ⟨by simp [h.1], fun i y hy => ?_⟩
  by_cases hi : i < D.length
  · rw [List.getElem?_append_left hi] at hy
    obtain ⟨r, h1, h2⟩ := h.2 i y hy
    exact ⟨r, by rw [List.getElem?_append_left (by rw [h.1]; exact hi)]; exact h1, h2⟩
  · rw [List.getElem?_append_right (by omega)] at hy
    refine ⟨y.right, ?_, .inl rfl⟩
    rw [List.getElem?_append_right (by rw [h.1]; omega), h.1]
    exact hy
theorem Mem.node {D' D : List Nd} {P : List Pd} (h : Mem D' D P) (x : Nd) (p : Pd) (hp : p.a = D.length) : Mem (D' ++ [{ x with right := 0 }]) (D ++ [x]) (P ++ [p]) := by
  refine ⟨by simp [h.1], fun i y hy => ?_⟩
  by_cases hi : i < D.length
  · rw [List.getElem?_append_left hi] at hy
    obtain ⟨r, h1, h2⟩ := h.2 i y hy
    exact ⟨r, by rw [List.getElem?_append_left (by rw [h.1]; exact hi)]; exact h1, h2.imp id fun ⟨q, hq, e⟩ => ⟨q, List.mem_append_left _ hq, e⟩⟩
  · rw [List.getElem?_append_right (by omega)] at hy
    have hi2 : i = D.length := by
      have := (List.getElem?_eq_some_iff.1 hy).1
      simp at this
      omega
    subst hi2
    rw [Nat.sub_self] at hy
    injection hy with hy
    subst hy
    refine ⟨0, ?_, .inr ⟨p, List.mem_append_right _ (List.mem_singleton.2 rfl), hp⟩⟩
    rw [← h.1, List.getElem?_concat_length]
theorem Mem.pop {D' D : List Nd} {P : List Pd} {p : Pd} (h : Mem D' D (P ++ [p])) {x y : Nd} (hx : D[p.a]? = some x) (hy : D'[p.a]? = some y) : Mem (D'.set p.a { y with right := x.right }) D P := by
  refine ⟨by simp [h.1], fun i z hz => ?_⟩
  by_cases e : p.a = i
  · subst e
    rw [hx] at hz
    injection hz with hz
    subst hz
    obtain ⟨r, h1, _⟩ := h.2 _ _ hx
    rw [hy] at h1
    injection h1 with h1
    subst h1
    refine ⟨x.right, ?_, .inl rfl⟩
    rw [List.getElem?_set_self (List.getElem?_eq_some_iff.1 hy).1]
  · obtain ⟨r, h1, h2⟩ := h.2 i z hz
    refine ⟨r, by rw [List.getElem?_set_ne e]; exact h1, h2.imp id ?_⟩
    rintro ⟨q, hq, hqa⟩
    rcases List.mem_append.1 hq with hq | hq
    · exact ⟨q, hq, hqa⟩
    · rcases List.mem_singleton.1 hq with rfl
      exact absurd hqa e

/-- A store into an element of a row of the call's own. -/
theorem Own.put {N : Nat} {w : World} {ty : TypeId} {k n cap g i j : Nat} {e e' : Nat → List Value} {u : Value} (h : Own N w ty k (.slice (some ⟨g, 0, none⟩) n cap) n e) (he : ∀ i, i < n → (e i).length = k) (hi : i < n) (hj : j < k) (h1 : e' i = (e i).set j u) (h2 : ∀ i', i' < n → i' ≠ i → e' i' = e i') :
    Own N (w.setCell ⟨g, i * k + j, none⟩ u) ty k (.slice (some ⟨g, 0, none⟩) n cap) n e' := by
  refine ⟨?_, h.lo⟩
  have he' : ∀ i', i' < n → (e' i').length = k := fun i' hi' => by
    by_cases e0 : i' = i
    · subst e0; rw [h1, List.length_set]; exact he _ hi
    · rw [h2 i' hi' e0]; exact he i' hi'
  obtain ⟨h3, h4⟩ := h.row
  rcases h4 with ⟨h4, _⟩ | ⟨g', cap', cur, hv, hg, hh, hc1, hc2, hc3, hc4⟩
  · cases h4
  · injection hv with e1 e2 e3
    injection e1 with e1
    injection e1 with e1
    subst e1
    subst e3
    have hb : Lp.Bk w g cur ty := hh
    refine ⟨by rw [flat_len he'], .inr ⟨g, cap, cur.setIfInBounds (i * k + j) u, rfl, hg, hb.set _ _, hc1, hc2, by simp [hc3], ?_⟩⟩
    have hik : i * k + j < n * k := by
      have : (i + 1) * k ≤ n * k := Nat.mul_le_mul_right k hi
      rw [Nat.succ_mul] at this
      omega
    apply List.ext_getElem?
    intro q
    by_cases hq : q < n * k
    · have hk : 0 < k := by omega
      have hq1 : q / k < n := (Nat.div_lt_iff_lt_mul hk).2 hq
      have hq2 : q % k < k := Nat.mod_lt _ hk
      have hqe : q = q / k * k + q % k := by have := Nat.div_add_mod q k; rw [Nat.mul_comm] at this; omega
      have hold : cur.toList[q]? = (e (q / k))[q % k]? := by
        have := congrArg (fun z : List Value => z[q]?) hc4
        simp only [List.getElem?_take_of_lt hq] at this
        rw [this]
        conv => lhs; rw [hqe]
        exact flat_at he hq1 hq2
      have hnew : (flat n e')[q]? = (e' (q / k))[q % k]? := by
        conv => lhs; rw [hqe]
        exact flat_at he' hq1 hq2
      rw [List.getElem?_take_of_lt hq, hnew, Array.getElem?_toList]
      by_cases e0 : q / k = i
      · rw [e0, h1]
        by_cases e3 : q % k = j
        · have : i * k + j = q := by rw [hqe, e0, e3]
          rw [this, e3, Array.getElem?_setIfInBounds_self_of_lt (by rw [hc3]; have : n * k ≤ cap * k := Nat.mul_le_mul_right k hc1; omega), List.getElem?_set_self (by rw [he i hi]; exact hj)]
        · have : i * k + j ≠ q := fun e4 => e3 (by rw [hqe, e0] at e4; omega)
          rw [Array.getElem?_setIfInBounds_ne this, List.getElem?_set_ne (fun e4 => e3 e4.symm), ← Array.getElem?_toList, hold, e0]
      · have : i * k + j ≠ q := fun e4 => e0 (by rw [← e4]; exact Nat.div_eq_of_lt_le (by omega) (by rw [Nat.succ_mul]; omega))
        rw [Array.getElem?_setIfInBounds_ne this, h2 _ hq1 e0, ← Array.getElem?_toList, hold]
    · rw [List.getElem?_take_eq_none (by omega), List.getElem?_eq_none (by rw [flat_len he']; omega)]
theorem nds_len (D : List Nd) (i : Nat) : (nds D i).length = 10 := rfl
theorem nds_set {D : List Nd} {i i' : Nat} {y : Nd} (hi : i' ≠ i) : nds (D.set i y) i' = nds D i' := by
  unfold nds
  rw [List.getD_eq_getElem?_getD, List.getD_eq_getElem?_getD, List.getElem?_set_ne (Ne.symm hi)]
theorem nds_self {D : List Nd} {i : Nat} {y : Nd} (hi : i < D.length) : nds (D.set i y) i = dcs y := by
  unfold nds
  rw [List.getD_eq_getElem?_getD, List.getElem?_set_self hi]
  rfl
theorem nds_of {D : List Nd} {i : Nat} {y : Nd} (h : D[i]? = some y) : nds D i = dcs y := by
  unfold nds
  rw [List.getD_eq_getElem?_getD, h]
  rfl

/-- A list's memory, apart from all that build changes. -/
def LstOk (w : World) (t : Nat) (nv ov wv : Value) (ao : Option Addr) (l : List Nat) : Prop :=
  ∃ g off, ao = some ⟨g, off, none⟩ ∧ Els w g off l.length 1 (lvs l) ∧ g ≠ t ∧ nv.ownBlock ≠ some g ∧ ov.ownBlock ≠ some g ∧ wv.ownBlock ≠ some g
theorem LstOk.sl {w : World} {t : Nat} {nv ov wv : Value} {ao : Option Addr} {l : List Nat} (h : LstOk w t nv ov wv ao l) : Sl w ao l.length 1 (lvs l) := by
  obtain ⟨g, off, e, h, _⟩ := h
  exact .inr ⟨g, off, e, h⟩
theorem newer_ne {w : World} {v v' : Value} {g : Nat} (h : Newer w v v') (hg : g < w.heap.size) (hn : v.ownBlock ≠ some g) : v'.ownBlock ≠ some g := by
  rcases h with h | h
  · rw [h]; exact hn
  · intro e
    have := h g e
    omega
theorem LstOk.step {S : Nat → Prop} {w w' : World} {t : Nat} {nv ov wv nv' ov' wv' : Value} {ao : Option Addr} {l : List Nat} (h : LstOk w t nv ov wv ao l) (hf : Fr S w w') (hS : ∀ k, S k → k = t ∨ nv.ownBlock = some k ∨ ov.ownBlock = some k ∨ wv.ownBlock = some k)
    (hn : Newer w nv nv') (ho : Newer w ov ov') (hw : Newer w wv wv') : LstOk w' t nv' ov' wv' ao l := by
  obtain ⟨g, off, e, h1, h2, h3, h4, h5⟩ := h
  exact ⟨g, off, e, hf.els h1 fun hs => by rcases hS g hs with e | e | e | e; exact h2 e; exact h3 e; exact h4 e; exact h5 e, h2, newer_ne hn h1.lt h3, newer_ne ho h1.lt h4, newer_ne hw h1.lt h5⟩
/-- What build's memory is. -/
structure BuC (t : Nat) (w1 wr : World) (P : List Pd) (nv ov wv : Value) (D : List Nd) (O : List Nat) : Prop where
  ts : TreeS w1.heap.size wr t nv ov D O
  wa : Own w1.heap.size wr 70 2 wv P.length (pds P)
  an : Apart2 nv wv
  ao : Apart2 ov wv
  fr : Fr (fun k => k = t) w1 wr
  ps : ∀ p, p ∈ P → LstOk wr t nv ov wv p.ao p.l
section
variable {t : Nat} {w1 wr w' : World} {P : List Pd} {nv ov wv nv' ov' : Value} {D D2 : List Nd} {O O2 : List Nat}
theorem BuC.keep (h : BuC t w1 wr P nv ov wv D O) (hb : Below wr.heap.size wr w') : BuC t w1 w' P nv ov wv D O :=
  ⟨h.ts.keep hb, h.wa.keep hb, h.an, h.ao, h.fr.trans (Fr.of (S := fun _ => False) hb) (fun _ _ h => h.elim), fun p hp => (h.ps p hp).step (Fr.of (S := fun _ => False) hb) (fun _ h => h.elim) (Newer.refl _ _) (Newer.refl _ _) (Newer.refl _ _)⟩
theorem apart_newer {N : Nat} {w : World} {ty : TypeId} {k n : Nat} {e : Nat → List Value} {v v' u : Value} (h : Apart2 v u) (hn : Newer w v v') (hu : Own N w ty k u n e) : Apart2 v' u := fun g hg hug => by
  rcases hn with hn | hn
  · exact h g (hn ▸ hg) hug
  · have := hn g hg
    have := hu.lt g hug
    omega
theorem BuC.lay (h : BuC t w1 wr P nv ov wv D O) (ht : t < w1.heap.size) (ts : TreeS w1.heap.size w' t nv' ov' D2 O2) (hf : Fr (fun k => k = t ∨ nv.ownBlock = some k ∨ ov.ownBlock = some k) wr w') (hn : Newer wr nv nv') (ho : Newer wr ov ov') : BuC t w1 w' P nv' ov' wv D2 O2 := by
  refine ⟨ts, hf.own h.wa (fun g hg e => ?_), apart_newer h.an hn h.wa, apart_newer h.ao ho h.wa, h.fr.trans hf (fun i hi e => ?_), fun p hp => (h.ps p hp).step hf (fun k e => ?_) hn ho (Newer.refl _ _)⟩
  · rcases e with e | e | e
    · have := h.wa.lo g hg
      omega
    · exact h.an g e hg
    · exact h.ao g e hg
  · rcases e with e | e | e
    · exact e
    · have := h.ts.on.lo i e
      omega
    · have := h.ts.oo.lo i e
      omega
  · rcases e with e | e | e
    · exact .inl e
    · exact .inr (.inl e)
    · exact .inr (.inr (.inl e))
/-- A store into a node. -/
theorem BuC.put {gN cN i j : Nat} {u : Value} {y : Nd} (h : BuC t w1 wr P (.slice (some ⟨gN, 0, none⟩) D.length cN) ov wv D O) (ht : t < w1.heap.size) (hi : i < D.length) (hj : j < 10) (hy : dcs y = (nds D i).set j u) : BuC t w1 (wr.setCell ⟨gN, i * 10 + j, none⟩ u) P (.slice (some ⟨gN, 0, none⟩) D.length cN) ov wv (D.set i y) O := by
  have hf := Fr.set wr ⟨gN, i * 10 + j, none⟩ u
  have hlo := h.ts.on.lo gN rfl
  have hN := h.ts.on.put (e' := nds (D.set i y)) (fun _ _ => rfl) hi hj ((nds_self hi).trans hy) (fun i' _ hne => nds_set hne)
  refine ⟨⟨hf.bk h.ts.bT (by show ¬ t = gN; omega), by rw [List.length_set]; exact hN, hf.own h.ts.oo (fun g hg e => h.ts.ap gN rfl (by rw [hg]; exact congrArg some e)), h.ts.ap⟩, hf.own h.wa (fun g hg e => h.an gN rfl (by rw [hg]; exact congrArg some e)), h.an, h.ao, h.fr.trans hf (fun k hk e => ?_), fun p hp => (h.ps p hp).step hf (fun k e => .inr (.inl (congrArg some e.symm))) (Newer.refl _ _) (Newer.refl _ _) (Newer.refl _ _)⟩
  have e2 : k = gN := e
  omega
/-- A list waits. -/
theorem BuC.push {wv' : Value} {p : Pd} (h : BuC t w1 wr P nv ov wv D O) (hN : w1.heap.size ≤ wr.heap.size) (ht : t < w1.heap.size) (h1 : w'.ownsRow 0 70 2 wv' (P.length + 1) (flat P.length (pds P) ++ pcl p)) (hg : wr.grownBy w' wv.ownBlock) (hb : Newer wr wv wv') (hp : LstOk wr t nv ov wv p.ao p.l) : BuC t w1 w' (P ++ [p]) nv ov wv' D O := by
  have hf := Fr.grown hg
  have hw := h.wa.push (e' := pds (P ++ [p])) h1 hb hN (fun i hi => pds_snoc hi) (pds_last P p)
  rw [show P.length + 1 = (P ++ [p]).length by simp] at hw
  refine ⟨⟨grown_keep hg h.ts.bT (fun e => by have := h.wa.lo t e; omega), hf.own h.ts.on (fun g hg e => h.an g hg e), hf.own h.ts.oo (fun g hg e => h.ao g hg e), h.ts.ap⟩, hw, (apart_newer h.an.symm hb h.ts.on).symm, (apart_newer h.ao.symm hb h.ts.oo).symm, h.fr.trans hf (fun k hk e => ?_), fun q hq => ?_⟩
  · have := h.wa.lo k e
    omega
  · have key : LstOk wr t nv ov wv q.ao q.l := by
      rcases List.mem_append.1 hq with hq | hq
      · exact h.ps q hq
      · rcases List.mem_singleton.1 hq with rfl
        exact hp
    exact key.step hf (fun k e => .inr (.inr (.inr e))) (Newer.refl _ _) (Newer.refl _ _) hb
theorem BuC.cut {aw : Option Addr} {cw : Nat} {p : Pd} (h : BuC t w1 wr (P ++ [p]) nv ov (.slice aw (P.length + 1) cw) D O) : BuC t w1 wr P nv ov (.slice aw P.length cw) D O := by
  have hb : (Value.slice aw P.length cw).ownBlock = (Value.slice aw (P.length + 1) cw).ownBlock := by cases aw <;> rfl
  have hw := h.wa
  rw [show (P ++ [p]).length = P.length + 1 by simp] at hw
  have h2 := (hw.cut (fun _ _ => rfl) (Nat.le_succ _)).congr (e' := pds P) (fun i hi => (pds_snoc hi).symm)
  refine ⟨h.ts, h2, fun g hg e => h.an g hg (hb ▸ e), fun g hg e => h.ao g hg (hb ▸ e), h.fr, fun q hq => ?_⟩
  obtain ⟨g, off, e, h1, h2, h3, h4, h5⟩ := h.ps q (List.mem_append_left _ hq)
  exact ⟨g, off, e, h1, h2, h3, h4, fun e => h5 (hb ▸ e)⟩
end

end Go.Proofs.Ytijoaklknpkdoaa

namespace Go.Proofs.Ytijoaklknpkdoaa
open Go.RowKit Fl Lm

theorem of_c (t : Tr) (w : World) : Ret Try.prog 26 #[.agg #[.float .f64 t.t0, .float .f64 t.t1, .float .f64 t.t2, .float .f64 t.t3, .float .f64 t.t4, .float .f64 t.t5, .float .f64 t.t6, .float .f64 t.t7, .float .f64 t.t8]] w (fun v => v = bxv t.box) := of_any _ _ _ _ _ _ _ _ _ w
theorem mid_c {b : Bx} (h : b.Mo) (w : World) : Ret Try.prog 27 #[.agg #[.float .f64 b.a0, .float .f64 b.a1, .float .f64 b.a2, .float .f64 b.a3, .float .f64 b.a4, .float .f64 b.a5]] w (fun v => v = pxv b.mid) :=
  (mid_any _ _ _ _ _ _ w).mono fun v ⟨x, y, z, e, hx, hy, hz⟩ => by
    have e0 := hx.sm.symm.eq (mid_mo h.h0 h.h3).nan
    have e1 := hy.sm.symm.eq (mid_mo h.h1 h.h4).nan
    have e2 := hz.sm.symm.eq (mid_mo h.h2 h.h5).nan
    rw [e, ← e0, ← e1, ← e2]
    rfl

/-- What is known while triangles are measured. -/
structure MeaS (T : Nat → Tr) (w0 w : World) (sb sm : Value) (jb jm : Nat) : Prop where
  bR : Lp.Bk w w0.heap.size #[.slice none 0 0, .slice none 0 0] 58
  bS : Lp.Bk w (w0.heap.size + 1) #[sb, sm] 58
  ob : Own (w0.heap.size + 2) w 27 6 sb jb fun i => bcs (T i).box
  om : Own (w0.heap.size + 2) w 25 3 sm jm fun i => pcs (T i).box.mid
  ap : Apart2 sb sm
  cl : Cl w0 w
section
variable {T : Nat → Tr} {w0 w w' : World} {sb sm v' : Value} {jb jm : Nat}
theorem MeaS.keep (h : MeaS T w0 w sb sm jb jm) (hb : Below w.heap.size w w') : MeaS T w0 w' sb sm jb jm :=
  ⟨h.bR.keep hb, h.bS.keep hb, h.ob.keep hb, h.om.keep hb, h.ap, h.cl.call hb⟩
theorem MeaS.alo (h : MeaS T w0 w sb sm jb jm) (o : Obj) : MeaS T w0 (w.alloc o) sb sm jb jm := h.keep ((Below.refl _ _).alloc (Nat.le_refl _) _)
theorem MeaS.size (h : MeaS T w0 w sb sm jb jm) : w0.heap.size + 2 ≤ w.heap.size := h.bS.lt
theorem MeaS.midB (h : MeaS T w0 w sb sm jb jm) (hg : w.grownBy w' sb.ownBlock) : Lp.Bk w' (w0.heap.size + 1) #[sb, sm] 58 :=
  Bk_grown h.bS hg fun g e => by have := h.ob.lo g e; omega
theorem MeaS.midM (h : MeaS T w0 w sb sm jb jm) (hg : w.grownBy w' sm.ownBlock) : Lp.Bk w' (w0.heap.size + 1) #[sb, sm] 58 :=
  Bk_grown h.bS hg fun g e => by have := h.om.lo g e; omega
theorem MeaS.pushB (h : MeaS T w0 w sb sm jb jm) (h1 : w'.ownsRow 0 27 6 v' (jb + 1) (flat jb (fun i => bcs (T i).box) ++ bcs (T jb).box)) (hg : w.grownBy w' sb.ownBlock)
    (hb : v'.ownBlock = sb.ownBlock ∨ ∀ g, v'.ownBlock = some g → w.heap.size ≤ g) : MeaS T w0 (w'.setCell ⟨w0.heap.size + 1, 0, none⟩ v') v' sm (jb + 1) jm := by
  have hs := h.size
  have l : ∀ g, sb.ownBlock = some g → w0.heap.size + 2 ≤ g := h.ob.lo
  refine ⟨?_, (h.midB hg).set 0 v', ?_, ?_, h.ap.push h.om hb, ?_⟩
  · exact (Bk_grown h.bR hg fun g e => by have := l g e; omega).seto (by show w0.heap.size ≠ w0.heap.size + 1; omega) _
  · exact (h.ob.push h1 hb hs (fun _ _ => rfl) rfl).setc (by show w0.heap.size + 1 < _; omega) _
  · exact (h.om.other hg fun g e => fun e2 => h.ap g e2 e).setc (by show w0.heap.size + 1 < _; omega) _
  · exact (Cl_grown h.cl hg fun g e => by have := l g e; omega).setCell (by show w0.heap.size ≤ w0.heap.size + 1; omega) _
theorem MeaS.pushM (h : MeaS T w0 w sb sm jb jm) (h1 : w'.ownsRow 0 25 3 v' (jm + 1) (flat jm (fun i => pcs (T i).box.mid) ++ pcs (T jm).box.mid)) (hg : w.grownBy w' sm.ownBlock)
    (hb : v'.ownBlock = sm.ownBlock ∨ ∀ g, v'.ownBlock = some g → w.heap.size ≤ g) : MeaS T w0 (w'.setCell ⟨w0.heap.size + 1, 1, none⟩ v') sb v' jb (jm + 1) := by
  have hs := h.size
  have l : ∀ g, sm.ownBlock = some g → w0.heap.size + 2 ≤ g := h.om.lo
  refine ⟨?_, (h.midM hg).set 1 v', ?_, ?_, (h.ap.symm.push h.ob hb).symm, ?_⟩
  · exact (Bk_grown h.bR hg fun g e => by have := l g e; omega).seto (by show w0.heap.size ≠ w0.heap.size + 1; omega) _
  · exact (h.ob.other hg fun g e => fun e2 => h.ap g e e2).setc (by show w0.heap.size + 1 < _; omega) _
  · exact (h.om.push h1 hb hs (fun _ _ => rfl) rfl).setc (by show w0.heap.size + 1 < _; omega) _
  · exact (Cl_grown h.cl hg fun g e => by have := l g e; omega).setCell (by show w0.heap.size ≤ w0.heap.size + 1; omega) _
end

set_option maxRecDepth 100000 in
set_option maxHeartbeats 1000000 in
theorem measured_any (T : Nat → Tr) (hT : ∀ i, (T i).Mo) (n c : Nat) (ao : Option Addr) (w : World) (h : Sl w ao n 9 fun i => tcs (T i)) (hn : n ≤ 512) :
    Calls Try.prog 19 #[.slice ao n c] w fun e w' => ∃ ab cb am cm, e = .returned (.agg #[.slice ab n cb, .slice am n cm]) ∧ Shp T w' n ab am ∧ (∀ g o, ab = some ⟨g, o, none⟩ → w.heap.size ≤ g) ∧ (∀ g o, am = some ⟨g, o, none⟩ → w.heap.size ≤ g) ∧ Cl w w' := by
  obtain ⟨iB, hB0, hB1, hB2, hB3⟩ := info_box
  obtain ⟨iV, hV0, hV1, hV2, hV3⟩ := info_vec
  have HF := hid h
  have HN := aside hn
  have HTT := aside hT
  clear h hn hT
  go_enter Try.func19, Try.ntmps19
  go_wp2_with fail
  go_loopg [10] n (fun k i wr => ∃ (j : Nat) (sb sm : Value), k + j = n ∧ i = .int .i64 (j : Int) ∧ MeaS T w wr sb sm j j)
  case atStart =>
    refine ⟨0, _, _, Nat.add_zero _, rfl, Lp.Bk.alo (Lp.Bk.al _ _ _) _, Lp.Bk.al1 _ _ _ _, Own.nil _ _ _ _ _, Own.nil _ _ _ _ _, fun g h => (by cases h), ?_⟩
    exact ((Below.refl _ _).alloc (by simp <;> omega) _).alloc (by simp <;> omega) _
  case round =>
    obtain ⟨g0, hg0⟩ : ∃ g0, g0 = gk := ⟨_, rfl⟩
    subst hg0
    obtain ⟨j, sb, sm, hk, rfl, hS⟩ := hrel
    have HK := aside hk
    clear hk
    by_cases hj : j < n
    · have hd : ((j : Int) < (n : Int)) = True := eq_true (by omega)
      have hj5 : j < 512 := by have := HN.out; omega
      obtain ⟨g, o, rfl, E⟩ := (HF.out.keep hS.cl).get hj
      obtain ⟨k0, k1, k2, k3, k4, k5, k6, k7, k8⟩ := tat E hj
      obtain ⟨at0, ct0, rfl⟩ := hS.ob.slice
      obtain ⟨aa0, ca0, rfl⟩ := hS.om.slice
      have HMO := aside (HTT.out j).box
      have HOF := hid (fun w => of_c (T j) w)
      have hjl := aside hj
      clear E hj
      have HS := hid hS
      clear hS
      go_wp2_with fail
      clear k0 k1 k2 k3 k4 k5 k6 k7 k8
      refine Calls.mono (HOF.out _) ?_
      rintro e v1 ⟨v, rfl, rfl, hm⟩
      have hm1 : Below wr.heap.size wr v1 := ((Below.refl _ _).alloc (Nat.le_refl _) _).trans (Below.mono hm (by simp))
      replace HS := hid (HS.out.keep hm1)
      clear hm hm1 HOF
      unfold bxv
      have kS := HS.out.bS.cell
      have hne : (w.heap.size + 1 = v1.heap.size) = False := eq_false (by have := HS.out.bS.lt; omega)
      have hlt : w.heap.size + 1 < v1.heap.size := HS.out.bS.lt
      go_wp2_with (first
        | (at_builtin; refine wpList_push _ rfl _ _ 55 rfl 27 iB (.agg #[.float .f64 0, .float .f64 0, .float .f64 0, .float .f64 0, .float .f64 0, .float .f64 0]) 6 48 under_boxes hB0 hB1 hB2 hB3 rfl (by decide) (.slice at0 j ct0) j (flat j fun i => bcs (T i).box) rfl ((HS.out.ob.row.alloc _).alloc _) ⟨v1.heap.size + 1, 0, none⟩ 1 1 (bcs (T j).box) rfl rfl (cells_at0 (Lp.Bk.al1 _ _ _ _)) (bcs_one _) (max_small (by omega)) (by omega) ?_)
        | fail)
      intro v' w1 hown hg hb
      have hM := ((HS.out.alo _).alo _).midB hg
      have hX := grown_keep hg ((Lp.Bk.al v1 #[.float .f64 (T j).box.a0, .float .f64 (T j).box.a1, .float .f64 (T j).box.a2, .float .f64 (T j).box.a3, .float .f64 (T j).box.a4, .float .f64 (T j).box.a5] 27).alo _) (fun e => by have := HS.out.ob.lt _ e; omega)
      have HS2 := hid (((HS.out.alo _).alo _).pushB hown hg (hb.imp id fun h k hk => by have := h k hk; simp; omega))
      obtain ⟨at1, ct1, rfl⟩ := HS2.out.ob.slice
      have hX2 := hX.seto (p := ⟨w.heap.size + 1, 0, none⟩) (by show v1.heap.size ≠ w.heap.size + 1; omega) (.slice at1 (j + 1) ct1)
      clear kS hown hg hb HS
      have kS := hM.cell
      have zS := hM.frz
      go_wp2_with fail
      refine Lp.settle (fun w' => MeaS T w w' (.slice at1 (j + 1) ct1) (.slice aa0 j ca0) (j + 1) j ∧ Lp.Bk w' v1.heap.size #[.float .f64 (T j).box.a0, .float .f64 (T j).box.a1, .float .f64 (T j).box.a2, .float .f64 (T j).box.a3, .float .f64 (T j).box.a4, .float .f64 (T j).box.a5] 27) ⟨HS2.out, hX2⟩ ?_
      clear kS zS hM hX hX2 HS2 hne hlt
      rintro v2 ⟨hS2, hX⟩
      have HS2 := hid hS2
      have HMID := hid (fun w => mid_c HMO.out w)
      have HLE := aside hX.lt
      clear hS2
      apply Lw.region _ _ 5 (by kernel_rfl) (by kernel_rfl) (by kernel_rfl) (Below.refl _ _)
      apply Lw.facts
      · intro w1 hw
        exact And.intro (HS2.out.bS.cl hw).cell (hX.cl hw).cell
      intro HF2
      iterate 3 (
        apply Lw.one ?_ rfl
        · intro w hw
          obtain ⟨k0, k1⟩ := HF2.out _ hw
          go_simp
          exact rfl
        intro K hK
        go_simp
        refine hK.out _ ?_
        clear hK K)
      apply Lw.any rfl
      · intro w hw
        go_simp
        exact Lw.ret (HMID.out _)
      intro K hK
      rintro v rfl
      unfold pxv
      go_simp
      refine hK.out _ ?_
      clear hK K
      apply Lw.anyW (V := fun v w' => ∃ b, v = .slice (some ⟨b, 0, none⟩) 1 1 ∧ Lp.Bk w' b #[.float .f64 (T j).box.mid.x, .float .f64 (T j).box.mid.y, .float .f64 (T j).box.mid.z] 25) rfl
      · exact fun v x y hb ⟨b, e, h⟩ => ⟨b, e, Lp.Bk.keep h hb⟩
      · intro w hw _
        go_simp
        exact ⟨⟨_, rfl, Lp.Bk.al _ _ _⟩, (Below.refl _ _).alloc (Nat.le_refl _) _⟩
      intro K hK v hv
      obtain ⟨_, _, b0, rfl, _⟩ := hv
      go_simp
      refine hK.out _ _ ?_
      clear hK K
      rotate_left
      exact []
      refine Lw.finE ?_
      intro v3 hm hE
      obtain ⟨b1, hb1, hV1⟩ := (hE 4).2 rfl
      simp only [Value.slice.injEq, Option.some.injEq, Addr.mk.injEq, and_true] at hb1
      subst hb1
      have HS3 := hid (HS2.out.keep hm)
      clear hm hE HS2 HF2 hX
      have kS := HS3.out.bS.cell
      have hnews : ∀ i u, (pcs (T j).box.mid)[i]? = some u → v3.cell? ((⟨b0, 0, none⟩ : Addr).add i) = some u := cells_at0 (xs := pcs (T j).box.mid) hV1
      clear hV1
      have hj6 : j ≤ 1000 := by omega
      go_wp2_with (
        (at_builtin; refine wpList_push _ rfl _ _ 56 rfl 25 iV (.agg #[.float .f64 0, .float .f64 0, .float .f64 0]) 3 24 under_vecs hV0 hV1 hV2 hV3 rfl (by decide) (.slice aa0 j ca0) j (flat j fun i => pcs (T i).box.mid) rfl HS3.out.om.row ⟨b0, 0, none⟩ 1 1 (pcs (T j).box.mid) rfl rfl hnews (pcs_one _) (max_small (by omega)) (by omega) ?_))
      intro v' w2 hown hg hb
      have hM := HS3.out.midM hg
      have HS4 := hid (HS3.out.pushM hown hg hb)
      obtain ⟨aa1, ca1, rfl⟩ := HS4.out.om.slice
      clear kS hown hg hb HS3
      have kS := hM.cell
      have zS := hM.frz
      go_wp2_with fail
      go_roundg (g0 - 1)
      case measure => have := HK.out; have := hjl.out; omega
      case rel => exact ⟨j + 1, _, _, by have := HK.out; have := hjl.out; omega, by go_num, HS4.out⟩
    · have hd : ((j : Int) < (n : Int)) = False := eq_false (by omega)
      have hjn : j = n := by have := HK.out; omega
      subst hjn
      clear hj
      obtain ⟨at0, ct0, rfl⟩ := hS.ob.slice
      obtain ⟨aa0, ca0, rfl⟩ := hS.om.slice
      have kS := hS.bS.cell
      have kR := hS.bR.cell
      have zR := hS.bR.frz
      have HS := hid hS
      clear hS
      go_wp2_with fail
      have hb2 : Below wr.heap.size wr wr := Below.refl _ _
      have hS2 : Shp T ((wr.setCell ⟨w.heap.size, 0, none⟩ (.slice at0 j ct0)).setCell ⟨w.heap.size, 1, none⟩ (.slice aa0 j ca0)) j at0 aa0 :=
        ⟨((HS.out.ob.setc (p := ⟨w.heap.size, 0, none⟩) (by show w.heap.size < _; omega) _).setc (p := ⟨w.heap.size, 1, none⟩) (by show w.heap.size < _; omega) _).sl (fun _ _ => rfl), ((HS.out.om.setc (p := ⟨w.heap.size, 0, none⟩) (by show w.heap.size < _; omega) _).setc (p := ⟨w.heap.size, 1, none⟩) (by show w.heap.size < _; omega) _).sl (fun _ _ => rfl)⟩
      refine bodyPost_ret (v := .agg #[.slice at0 j ct0, .slice aa0 j ca0]) (by simp [results, go_sem, kR]) rfl ⟨at0, ct0, aa0, ca0, rfl, hS2, fun g o e => ?_, fun g o e => ?_, ?_⟩
      · subst e
        have := HS.out.ob.lo g rfl
        omega
      · subst e
        have := HS.out.om.lo g rfl
        omega
      · exact (HS.out.cl.setCell (by show w.heap.size ≤ w.heap.size; omega) _).setCell (by show w.heap.size ≤ w.heap.size; omega) _

end Go.Proofs.Ytijoaklknpkdoaa
