/- Package bvh: below, Depth. The law: Ints, awake. The law: awake. The law: BvhNone. -/
import Derived.Test.YtijoaklknpkdoaaG14
namespace Go.Proofs.Ytijoaklknpkdoaa
open Go.RowKit Fl Lm

/-- A node that is no leaf stands ahead of its parts. -/
def WfD (D : List Nd) : Prop := ∀ (i : Nat) (x : Nd), D[i]? = some x → x.right = 0 ∨ (i < x.left ∧ x.left < D.length ∧ i < x.right ∧ x.right < D.length)
def depF (D : List Nd) : Nat → Nat → Nat
  | 0, _ => 0
  | m + 1, i => if (D.getD i nd0).right = 0 then 1 else 1 + max (depF D m (D.getD i nd0).left) (depF D m (D.getD i nd0).right)
theorem dep_in {D : List Nd} (hW : WfD D) : ∀ (m i : Nat), i < D.length → D.length - i ≤ m → 1 ≤ depF D m i ∧ depF D m i ≤ D.length - i
  | 0, i, hi, hm => by omega
  | m + 1, i, hi, hm => by
    unfold depF
    split
    · omega
    · rename_i hr
      have hw := hW i (D.getD i nd0) (by rw [List.getD_eq_getElem?_getD, List.getElem?_eq_getElem hi]; rfl)
      generalize D.getD i nd0 = x at *
      rcases hw with h | ⟨h1, h2, h3, h4⟩
      · exact absurd h hr
      · have a := dep_in hW m x.left h2 (by omega)
        have b := dep_in hW m x.right h4 (by omega)
        omega

set_option maxRecDepth 100000 in
set_option maxHeartbeats 1000000 in
theorem below_any (t : Nat) (D : List Nd) (O : List Nat) (hW : WfD D) (hD : D.length ≤ 4000) : ∀ (m i : Nat), i < D.length → D.length - i ≤ m → ∀ w, TreeR w t D O → Ret Try.prog 15 #[.pointer (some ⟨t, 0, none⟩), .int .i64 (i : Int)] w (fun v => v = .int .i64 (depF D m i : Nat)) := by
  intro m
  induction m with
  | zero => intro i hi hm; omega
  | succ m ih =>
    intro i hi hm w hT
    unfold Ret
    have HN := hid (node_any t D O i w hT)
    have HT := hid hT
    have hno : ¬ outD D (i : Int) := fun h => by rcases h with h | h <;> omega
    have e1 : ndAt D i = D.getD i nd0 := if_neg hno
    have e2 : isAt D i = true := by unfold isAt; rw [decide_eq_false hno]; rfl
    rw [e1, e2] at HN
    have hw := hW i (D.getD i nd0) (by rw [List.getD_eq_getElem?_getD, List.getElem?_eq_getElem hi]; rfl)
    have hdep : depF D (m + 1) i = if (D.getD i nd0).right = 0 then 1 else 1 + max (depF D m (D.getD i nd0).left) (depF D m (D.getD i nd0).right) := rfl
    generalize D.getD i nd0 = x at *
    have HDE := aside hdep
    clear hdep
    have HIH := hid ih
    clear ih hno e1 e2 hT
    unfold dxv at *
    go_enter Try.func15, Try.ntmps15
    go_wp2_with fail
    refine Calls.mono HN.out ?_
    rintro e w1 ⟨v, rfl, rfl, hm1⟩
    have hcl : Cl w w1 := hm1
    clear hm1 HN
    rcases hw with hr | ⟨hw1, hw2, hw3, hw4⟩
    · have hr0 : ((x.right : Int) = 0) = True := eq_true (by omega)
      go_wp2_with fail
      refine bodyPost_ret (v := .int .i64 1) (by simp [results, go_sem]) rfl ⟨_, rfl, by rw [HDE.out, if_pos hr]; rfl, hcl.trans (Below.alloc (Below.refl _ _) hcl.size _)⟩
    · have hr0 : ((x.right : Int) = 0) = False := eq_false (by omega)
      have hr1 : (x.right = 0) = False := eq_false (by omega)
      go_wp2_with fail
      have BN := Lp.Bk.al w1 #[.float .f64 x.box.a0, .float .f64 x.box.a1, .float .f64 x.box.a2, .float .f64 x.box.a3, .float .f64 x.box.a4, .float .f64 x.box.a5, .int .i64 (x.left : Nat), .int .i64 (x.right : Nat), .int .i64 (x.lo : Nat), .int .i64 (x.hi : Nat)] 29
      have hcl2 : Cl w (w1.alloc (.cells #[.float .f64 x.box.a0, .float .f64 x.box.a1, .float .f64 x.box.a2, .float .f64 x.box.a3, .float .f64 x.box.a4, .float .f64 x.box.a5, .int .i64 (x.left : Nat), .int .i64 (x.right : Nat), .int .i64 (x.lo : Nat), .int .i64 (x.hi : Nat)] 29)) := hcl.alloc _
      have HCL := hid hcl2
      have HBN := hid BN
      clear BN hcl hcl2
      apply Lw.region _ _ 11 (by kernel_rfl) (by kernel_rfl) (by kernel_rfl) (Below.refl _ _)
      apply Lw.facts
      · intro w3 hw
        exact (HBN.out.cl hw).cell
      intro HF
      iterate 3 (
        apply Lw.one ?_ rfl
        · intro w hw
          have k0 := HF.out _ hw
          go_simp
          exact rfl
        intro K hK
        go_simp
        refine hK.out _ ?_
        clear hK K)
      apply Lw.any (V := fun v => v = .int .i64 (depF D m x.left : Nat)) rfl
      · intro w4 hw
        go_simp
        exact Lw.ret (HIH.out x.left hw2 (by omega) w4 (HT.out.keep (HCL.out.call hw)))
      intro K hK
      rintro v rfl
      go_simp
      refine hK.out _ ?_
      clear hK K
      iterate 3 (
        apply Lw.one ?_ rfl
        · intro w hw
          have k0 := HF.out _ hw
          go_simp
          exact rfl
        intro K hK
        go_simp
        refine hK.out _ ?_
        clear hK K)
      apply Lw.any (V := fun v => v = .int .i64 (depF D m x.right : Nat)) rfl
      · intro w4 hw
        go_simp
        exact Lw.ret (HIH.out x.right hw4 (by omega) w4 (HT.out.keep (HCL.out.call hw)))
      intro K hK
      rintro v rfl
      go_simp
      refine hK.out _ ?_
      clear hK K
      obtain ⟨d, hmx, hdl, hdu, hde⟩ : ∃ d : Nat, max ((depF D m x.left : Nat) : Int) ((depF D m x.right : Nat) : Int) = (d : Int) ∧ 1 ≤ d ∧ d ≤ D.length - (i + 1) ∧ depF D (m + 1) i = 1 + d := by
        have ha := dep_in hW m x.left hw2 (by omega)
        have hb := dep_in hW m x.right hw4 (by omega)
        refine ⟨max (depF D m x.left) (depF D m x.right), by omega, by omega, by omega, ?_⟩
        rw [HDE.out, if_neg (by omega)]
      have hdm : d ≤ 4000 := by omega
      have hwr : IntKind.i64.wrap (1 + (d : Int)) = 1 + (d : Int) := by rw [IntKind.wrap_i64]; omega
      iterate 3 (
        apply Lw.one ?_ rfl
        · intro w hw
          go_simp
          exact rfl
        intro K hK
        go_simp
        refine hK.out _ ?_
        clear hK K)
      rotate_left
      exact []
      refine Lw.fin ?_
      intro v9 hm9
      go_wp2_with fail
      refine bodyPost_ret (v := .int .i64 (1 + (d : Int))) (by simp [results, go_sem]) rfl ⟨_, rfl, by rw [hde, Int.natCast_add]; rfl, HCL.out.call hm9⟩

set_option maxRecDepth 100000 in
set_option maxHeartbeats 1000000 in
theorem below_nil (p : Int) (w : World) : Ret Try.prog 15 #[.pointer none, .int .i64 p] w (fun v => v = .int .i64 0) := by
  unfold Ret
  have HN := hid (node_nil p w)
  unfold dxv at *
  go_enter Try.func15, Try.ntmps15
  go_wp2_with fail
  refine Calls.mono HN.out ?_
  rintro e w1 ⟨v, rfl, rfl, hm1⟩
  clear HN
  go_wp2_with fail
  refine bodyPost_ret (v := _) (by simp [results, go_sem]) rfl ⟨_, rfl, rfl, Below.alloc hm1 (Below.size hm1) _⟩

set_option maxRecDepth 100000 in
set_option maxHeartbeats 1000000 in
theorem depth_any (t : Nat) (D : List Nd) (O : List Nat) (hW : WfD D) (hD : D.length ≤ 4000) (h0 : 0 < D.length) (w : World) (h : TreeR w t D O) : Ret Try.prog 9 #[.pointer (some ⟨t, 0, none⟩)] w (fun v => v = .int .i64 (depF D D.length 0 : Nat)) := by
  unfold Ret
  have HN := hid (below_any t D O hW hD D.length 0 h0 (Nat.le_refl _) w h)
  clear h
  go_enter Try.func9, Try.ntmps9
  go_wp2_with fail
  refine Calls.mono HN.out ?_
  rintro e w1 ⟨v, rfl, rfl, hm1⟩
  clear HN
  go_wp2_with fail
  refine bodyPost_ret (v := _) (by simp [results, go_sem]) rfl ⟨_, rfl, rfl, hm1⟩

set_option maxRecDepth 100000 in
set_option maxHeartbeats 1000000 in
theorem depth_nil (w : World) : Ret Try.prog 9 #[.pointer none] w (fun v => v = .int .i64 0) := by
  unfold Ret
  have HN := hid (below_nil 0 w)
  go_enter Try.func9, Try.ntmps9
  go_wp2_with fail
  refine Calls.mono HN.out ?_
  rintro e w1 ⟨v, rfl, rfl, hm1⟩
  clear HN
  go_wp2_with fail
  refine bodyPost_ret (v := _) (by simp [results, go_sem]) rfl ⟨_, rfl, rfl, hm1⟩

end Go.Proofs.Ytijoaklknpkdoaa

namespace Go.Proofs.Ytijoaklknpkdoaa
open Go.RowKit Fl Lm

set_option maxRecDepth 100000 in
set_option maxHeartbeats 1000000 in
theorem ints_any (l m : List Nat) (c d : Nat) (ao bo : Option Addr) (w : World) (hL : Sl w ao l.length 1 (lvs l)) (hM : Sl w bo m.length 1 (lvs m)) (h5 : l.length ≤ 100000) :
    Ret Try.prog 12 #[.slice ao l.length c, .slice bo m.length d] w (fun v => v = .bool (decide (l = m))) := by
  unfold Ret
  by_cases hlen : l.length = m.length
  · have HL := hid hL
    have HM := hid hM
    have hcl : ((l.length : Int) = (m.length : Int)) = True := eq_true (by omega)
    have HLE := aside hlen
    clear hL hM
    rw [hlen] at hcl
    rw [hlen]
    have hcl2 : l.length = m.length := hlen
    clear hlen
    go_enter Try.func12, Try.ntmps12
    go_wp2_with fail
    go_loopg [5] l.length (fun k i wr => ∃ (j : Nat), k + j = l.length ∧ i = .int .i64 (j : Int) ∧ l.take j = m.take j ∧ Cl w wr)
    case atStart => exact ⟨0, Nat.add_zero _, rfl, rfl, Below.refl _ _⟩
    case round =>
      obtain ⟨g0, hg0⟩ : ∃ g0, g0 = gk := ⟨_, rfl⟩
      subst hg0
      obtain ⟨j, hk, rfl, he, HB⟩ := hrel
      have HK := aside hk
      have HE := aside he
      clear hk he
      by_cases hj : j < m.length
      · have hd : ((j : Int) < (m.length : Int)) = True := eq_true (by omega)
        have hjl : j < l.length := by omega
        have hj5 : j < 100000 := by omega
        obtain ⟨g1, o1, rfl, E1⟩ := (HL.out.keep HB).get hjl
        obtain ⟨g2, o2, rfl, E2⟩ := (HM.out.keep HB).get hj
        have k1 := E1.num hjl
        have k2 := E2.num hj
        have HF1 := hid E1
        have HF2 := hid E2
        clear E1 E2
        have HT1 := aside (take_more hjl)
        have HT2 := aside (take_more hj)
        have hne1 : l = m → l.getD j 0 = m.getD j 0 := fun e => by rw [e]
        generalize hx : l.getD j 0 = x at *
        generalize hy : m.getD j 0 = y at *
        have HX := aside hx
        have HY := aside hy
        clear hx hy
        have HNE := aside hne1
        clear hne1
        by_cases hxy : x = y
        · subst hxy
          go_wp2_with fail
          apply Lw.region _ _ 9 (by kernel_rfl) (by kernel_rfl) (by kernel_rfl) (Below.refl _ _)
          iterate 9 (
            apply Lw.one ?_ rfl
            · intro w3 hw
              have k1 := (HF1.out.keep hw).num hjl
              have k2 := (HF2.out.keep hw).num hj
              rw [HX.out] at k1
              rw [HY.out] at k2
              go_simp
              exact rfl
            intro K hK
            go_simp
            refine hK.out _ ?_
            clear hK K)
          rotate_left
          exact []
          refine Lw.fin ?_
          intro v3 hm
          replace HB := HB.call hm
          clear hm k1 k2
          have HBB := hid HB
          clear HB
          go_wp2_with fail
          go_roundg (g0 - 1)
          case measure => have := HK.out; omega
          case rel => exact ⟨j + 1, by have := HK.out; omega, by go_num, by rw [HT1.out, HT2.out, HE.out], HBB.out⟩
        · have hxi : ((x : Int) != (y : Int)) = true := by simp; omega
          go_wp2_with fail
          apply Lw.region _ _ 9 (by kernel_rfl) (by kernel_rfl) (by kernel_rfl) (Below.refl _ _)
          iterate 9 (
            apply Lw.one ?_ rfl
            · intro w3 hw
              have k1 := (HF1.out.keep hw).num hjl
              have k2 := (HF2.out.keep hw).num hj
              rw [HX.out] at k1
              rw [HY.out] at k2
              go_simp
              exact rfl
            intro K hK
            go_simp
            refine hK.out _ ?_
            clear hK K)
          rotate_left
          exact []
          refine Lw.fin ?_
          intro v3 hm
          replace HB := HB.call hm
          clear hm k1 k2
          go_wp2_with fail
          have hno : decide (l = m) = false := decide_eq_false (fun e => hxy (HNE.out e))
          refine bodyPost_ret (v := .bool false) (by simp [results, go_sem]) rfl ⟨_, rfl, by rw [hno], HB⟩
      · have hd : ((j : Int) < (m.length : Int)) = False := eq_false (by omega)
        have hyes : decide (l = m) = true := by
          refine decide_eq_true ?_
          have h1 := HE.out
          have h2 := HLE.out
          have h3 : j = m.length := by have := HK.out; omega
          rwa [List.take_of_length_le (by omega), List.take_of_length_le (by omega)] at h1
        go_wp2_with fail
        refine bodyPost_ret (v := .bool true) (by simp [results, go_sem]) rfl ⟨_, rfl, by rw [hyes], HB⟩
  · have hno : decide (l = m) = false := decide_eq_false (fun e => hlen (by rw [e]))
    have hcl : ((l.length : Int) != (m.length : Int)) = true := by simp; omega
    rw [hno]
    clear hL hM
    clear hlen
    go_enter Try.func12, Try.ntmps12
    go_wp2_with fail
    refine bodyPost_ret (v := .bool false) (by simp [results, go_sem]) rfl ⟨_, rfl, rfl, Below.refl _ _⟩


end Go.Proofs.Ytijoaklknpkdoaa

namespace Go.Proofs.Ytijoaklknpkdoaa
open Go.RowKit Fl Lm

section
variable (S : Parts)
theorem nd_wf (l : List Nat) : ∀ (k p j : Nat) (x : Nd), (ndL S k p l)[j]? = some x → (x.left = 0 ∧ x.right = 0) ∨ (x.left = k + j + 1 ∧ x.left < x.right ∧ x.right < k + szL S l) := by
  refine by_parts S (C := fun l => ∀ (k p j : Nat) (x : Nd), (ndL S k p l)[j]? = some x → (x.left = 0 ∧ x.right = 0) ∨ (x.left = k + j + 1 ∧ x.left < x.right ∧ x.right < k + szL S l)) (fun l h k p j x hx => ?_) (fun l h h1 h2 k p j x hx => ?_) l
  · rw [nd_leaf S k p h] at hx
    cases j with
    | zero => injection hx with hx; subst hx; exact .inl ⟨rfl, rfl⟩
    | succ j => cases hx
  · rw [nd_node S k p h] at hx
    have hs := sz_node S h
    have hp1 := sz_pos S (S.part l).1
    have hp2 := sz_pos S (S.part l).2
    cases j with
    | zero =>
      rw [List.getElem?_cons_zero] at hx
      injection hx with hx
      subst hx
      refine .inr ⟨rfl, ?_, ?_⟩
      · show k + 1 < k + 1 + szL S (S.part l).1
        omega
      · show k + 1 + szL S (S.part l).1 < k + szL S l
        omega
    | succ j =>
      rw [List.getElem?_cons_succ] at hx
      by_cases hj : j < szL S (S.part l).1
      · rw [List.getElem?_append_left (by rw [nd_len]; exact hj)] at hx
        rcases h1 _ _ _ _ hx with h | ⟨a, b, c⟩
        · exact .inl h
        · exact .inr ⟨by omega, b, by omega⟩
      · rw [List.getElem?_append_right (by rw [nd_len]; omega), nd_len] at hx
        rcases h2 _ _ _ _ hx with h | ⟨a, b, c⟩
        · exact .inl h
        · exact .inr ⟨by omega, b, by omega⟩
theorem nd_wfD (l : List Nat) : WfD (ndL S 0 0 l) := by
  intro i x hx
  rw [nd_len]
  rcases nd_wf S l 0 0 i x hx with ⟨_, h⟩ | ⟨a, b, c⟩
  · exact .inl h
  · exact .inr ⟨by omega, by omega, by omega, by omega⟩
end
def f5 (i : Nat) : Nat := [0, 4607182418800017408, 4611686018427387904, 4613937818241073152, 4616189618054758400, 4617315517961601024].getD i 0
def T5 (i : Nat) : Tr := if i < 5 then ⟨f5 i, 0, 0, f5 (i + 1), 0, 0, f5 i, 4607182418800017408, 0⟩ else ⟨0, 0, 0, 0, 0, 0, 0, 0, 0⟩
theorem t5_med : medT T5 (List.range 5) = [0, 1, 2, 3, 4] := by decide +kernel
theorem t5_may (i : Nat) : (T5 i).mayB = true := by
  by_cases h : i < 5
  · have : ∀ i, i < 5 → (T5 i).mayB = true := by decide +kernel
    exact this i h
  · unfold T5
    rw [if_neg h]
    decide +kernel
theorem f5_int : ∀ j : Nat, j < 5 → floatOfInt .f64 (j : Int) = f5 j := by decide +kernel
theorem f5_add : ∀ j : Nat, j < 5 → fadd (f5 j) 4607182418800017408 = f5 (j + 1) := by decide +kernel
theorem f5_num : ∀ j : Nat, j < 5 → moB (f5 j) = true := by decide +kernel
theorem t5_is {j : Nat} (h : j < 5) : T5 j = ⟨f5 j, 0, 0, f5 (j + 1), 0, 0, f5 j, 4607182418800017408, 0⟩ := if_pos h
def D5 : List Nd := ndL (treeT T5 false) 0 0 (List.range 5)
def O5 : List Nat := orL (treeT T5 false) (List.range 5)
theorem part5 : (treeT T5 false).part (List.range 5) = ([0, 1], [2, 3, 4]) := by
  show partT T5 false (List.range 5) = _
  rw [part_med (.inl rfl), t5_med]
  rfl
theorem d5_is : D5 = [⟨bxs T5 (List.range 5), 1, 2, 0, 0⟩, leafOf (treeT T5 false) 0 [0, 1], leafOf (treeT T5 false) 2 [2, 3, 4]] := by
  unfold D5
  rw [nd_node _ _ _ (by decide), part5, nd_leaf _ _ _ (by decide), nd_leaf _ _ _ (by decide), sz_leaf _ (by decide)]
  rfl
theorem o5_is : O5 = [0, 1, 2, 3, 4] := by
  unfold O5
  rw [or_node _ (by decide), part5, or_leaf _ (by decide), or_leaf _ (by decide)]
  rfl
theorem info_tri : ∃ i, Try.prog.info? 45 = some i ∧ i.zero = some (.agg #[.float .f64 0, .float .f64 0, .float .f64 0, .float .f64 0, .float .f64 0, .float .f64 0, .float .f64 0, .float .f64 0, .float .f64 0]) ∧ i.size = 9 ∧ i.bytes = 72 := by
  have h : (Try.prog.info? 45).map (fun i => (i.zero, i.size, i.bytes)) = some (some (.agg #[.float .f64 0, .float .f64 0, .float .f64 0, .float .f64 0, .float .f64 0, .float .f64 0, .float .f64 0, .float .f64 0, .float .f64 0]), 9, 72) := by kernel_rfl
  obtain ⟨i, hi, hz⟩ := Option.map_eq_some_iff.1 h
  simp only [Prod.mk.injEq] at hz
  exact ⟨i, hi, hz⟩

theorem under_tris : Try.prog.underlying 43 = some (.slice 45) := by kernel_rfl

set_option maxRecDepth 100000 in
set_option maxHeartbeats 1000000 in
theorem awake_any (w : World) : Ret Try.prog 6 #[] w (fun v => v = .bool true) := by
  unfold Ret
  obtain ⟨iT, hT0, hT1, hT2, hT3⟩ := info_tri
  go_enter Try.func6, Try.ntmps6
  go_wp2_with fail
  go_loopg [1, 2] 5 (fun k sl i wr => ∃ (j : Nat), k + j = 5 ∧ i = .int .i64 (j : Int) ∧ Own w.heap.size wr 45 9 sl j (fun i => tcs (T5 i)) ∧ Cl w wr)
  case atStart => exact ⟨0, rfl, rfl, Own.nil _ _ _ _ _, Below.refl _ _⟩
  case round =>
    obtain ⟨g0, hg0⟩ : ∃ g0, g0 = gk := ⟨_, rfl⟩
    subst hg0
    obtain ⟨j, hk, rfl, hO, HB⟩ := hrel
    have HK := aside hk
    clear hk
    obtain ⟨ao, co, rfl⟩ := hO.slice
    by_cases hj : j < 5
    · have hd : ((j : Int) < 5) = True := eq_true (by omega)
      have HO := hid hO
      clear hO
      have hcv := f5_int j hj
      have had : ∀ W, (binOp .add 23 (.float .f64 (f5 j)) (.float .f64 4607182418800017408)).run Try.prog W = .ok (.float .f64 (f5 (j + 1))) W := fun W => by
        rw [← f5_add j hj]
        exact run_add_num W 23 (mo_of (f5_num j hj)).num (mo_of (x := 4607182418800017408) (by decide +kernel)).num
      have ht5 := t5_is hj
      generalize f5 j = x0 at *
      generalize f5 (j + 1) = x1 at *
      have HT5 := aside ht5
      have hj5 : j < 1000 := by omega
      clear ht5
      go_wp2_with ((at_builtin; refine wpList_push _ rfl _ _ 43 rfl 45 iT (.agg #[.float .f64 0, .float .f64 0, .float .f64 0, .float .f64 0, .float .f64 0, .float .f64 0, .float .f64 0, .float .f64 0, .float .f64 0]) 9 72 under_tris hT0 hT1 hT2 hT3 rfl (by decide) (.slice ao j co) j (flat j fun i => tcs (T5 i)) rfl (HO.out.alo (.cells #[.float .f64 x0, .float .f64 0, .float .f64 0, .float .f64 x1, .float .f64 0, .float .f64 0, .float .f64 x0, .float .f64 4607182418800017408, .float .f64 0] 45)).row ⟨wr.heap.size, 0, none⟩ 1 1 (tcs ⟨x0, 0, 0, x1, 0, 0, x0, 4607182418800017408, 0⟩) rfl rfl (cells_at0 (xs := tcs ⟨x0, 0, 0, x1, 0, 0, x0, 4607182418800017408, 0⟩) (Lp.Bk.al wr _ _)) (tcs_one _) (max_small (by omega)) (by omega) ?_))
      intro v' w1 hown hg hb
      have hcl : Cl w w1 := Cl_grown (HB.alloc _) hg (fun g e => HO.out.lo g e)
      have hO2 := (HO.out.alo (.cells #[.float .f64 x0, .float .f64 0, .float .f64 0, .float .f64 x1, .float .f64 0, .float .f64 0, .float .f64 x0, .float .f64 4607182418800017408, .float .f64 0] 45)).push (e' := fun i => tcs (T5 i)) hown (hb.imp id fun h g e => by have := h g e; simp at this ⊢; omega) (by have := HB.size; simp; omega) (fun _ _ => rfl) (by rw [HT5.out])
      have HO2 := hid hO2
      have HC2 := hid hcl
      clear hown hg hb hcl hO2 HB HO hcv had
      go_wp2_with fail
      go_roundg (g0 - 1)
      case measure => have := HK.out; omega
      case rel => exact ⟨j + 1, by have := HK.out; omega, by go_num, HO2.out, HC2.out⟩
    · have hd : ((j : Int) < 5) = False := eq_false (by omega)
      have hj5 : j = 5 := by have := HK.out; omega
      subst hj5
      have HNE := hid (new_any T5 (fun i => Tr.may (t5_may i)) false 5 co ao wr (hO.sl (fun _ _ => rfl)) (by decide) (fun i _ => t5_may i))
      clear hO
      go_wp2_with fail
      refine Calls.mono HNE.out ?_
      rintro e w1 ⟨t, rfl, hT, _, hm⟩
      have HB1 := hid (HB.call hm)
      have hT' : TreeR w1 t D5 O5 := hT
      have HTR := hid hT'
      have hD3 : D5.length = 3 := by rw [d5_is]; rfl
      have hO5 : O5.length = 5 := by rw [o5_is]; rfl
      have HNO := hid (fun w' (hw : Below w1.heap.size w1 w') => nodes_any t D5 O5 w' (HTR.out.keep hw) (by omega) (by omega))
      have HOR := hid (fun w' (hw : Below w1.heap.size w1 w') => order_any t D5 O5 w' (HTR.out.keep hw) (by omega))
      have HDE := hid (fun w' (hw : Below w1.heap.size w1 w') => depth_any t D5 O5 (nd_wfD _ _) (by omega) (by omega) w' (HTR.out.keep hw))
      have HTI := hid (fun p w' (hw : Below w1.heap.size w1 w') => tri_any t D5 O5 p w' (HTR.out.keep hw))
      have hdep : depF D5 D5.length 0 = 2 := by rw [d5_is]; rfl
      rw [hdep] at HDE
      have hlo : nds D5 1 = dcs (leafOf (treeT T5 false) 0 [0, 1]) := by rw [d5_is]; rfl
      have HLO := aside hlo
      rw [hD3] at HNO
      rw [hO5] at HOR
      clear hm hT hT' HB HNE HTR hdep hlo
      go_wp2_with fail
      refine Calls.mono (HNO.out _ (Below.refl _ _)) ?_
      rintro e w2 ⟨g', c', rfl, hE, _, hm⟩
      have k9 : w2.cell? ⟨g', 19, none⟩ = some (.int .i64 2) := by
        have := hE.atj (i := 1) (j := 9) (by decide) (by decide)
        rw [HLO.out] at this
        exact this
      have HM2 := hid hm
      clear hE hm HNO
      go_wp2_with fail
      refine Calls.mono (HOR.out _ HM2.out) ?_
      rintro e w3 ⟨ao2, co2, rfl, hS, _, hm⟩
      have HM3 := hid (Below.trans HM2.out (hm.mono HM2.out.size))
      have HS3 := hid hS
      clear hS hm k9 HM2
      go_wp2_with fail
      have hS5 : Sl (w3.alloc (.cells #[.int .i64 0, .int .i64 1, .int .i64 2, .int .i64 3, .int .i64 4] 3)) (some ⟨w3.heap.size, 0, none⟩) [0, 1, 2, 3, 4].length 1 (lvs [0, 1, 2, 3, 4]) := by
        refine .inr ⟨w3.heap.size, 0, rfl, by simp, fun i hi j hj => ?_⟩
        obtain rfl : j = 0 := by omega
        have hb := (Lp.Bk.al w3 #[.int .i64 0, .int .i64 1, .int .i64 2, .int .i64 3, .int .i64 4] 3).cell i
        rw [show 0 + (i * 1 + 0) = i by omega, hb]
        have hi5 : i < 5 := hi
        match i, hi5 with
        | 0, _ => rfl
        | 1, _ => rfl
        | 2, _ => rfl
        | 3, _ => rfl
        | 4, _ => rfl
      have hS4 : Sl (w3.alloc (.cells #[.int .i64 0, .int .i64 1, .int .i64 2, .int .i64 3, .int .i64 4] 3)) ao2 [0, 1, 2, 3, 4].length 1 (lvs [0, 1, 2, 3, 4]) := by
        have := HS3.out.keep ((Below.refl _ _).alloc (Nat.le_refl _) (.cells #[.int .i64 0, .int .i64 1, .int .i64 2, .int .i64 3, .int .i64 4] 3))
        rw [o5_is] at this
        exact this
      have HIN := hid (ints_any [0, 1, 2, 3, 4] [0, 1, 2, 3, 4] co2 5 ao2 (some ⟨w3.heap.size, 0, none⟩) _ hS4 hS5 (by decide))
      have HM4 := hid (HM3.out.trans (((Below.refl _ _).alloc (Nat.le_refl _) (.cells #[.int .i64 0, .int .i64 1, .int .i64 2, .int .i64 3, .int .i64 4] 3)).mono HM3.out.size))
      clear hS5 hS4 HS3 HM3
      refine Calls.mono HIN.out ?_
      rintro e w4 ⟨v, rfl, rfl, hm⟩
      rw [decide_eq_true (rfl : [0, 1, 2, 3, 4] = [0, 1, 2, 3, 4])]
      have HM5 := hid (Below.trans HM4.out (hm.mono HM4.out.size))
      clear hm HIN HM4
      go_wp2_with fail
      refine Calls.mono (HDE.out _ HM5.out) ?_
      rintro e w5 ⟨v, rfl, rfl, hm⟩
      have HM6 := hid (Below.trans HM5.out (hm.mono HM5.out.size))
      clear hm HDE HM5
      go_wp2_with fail
      refine Calls.mono (HTI.out 4 _ HM6.out) ?_
      rintro e w6 ⟨rfl, hm⟩
      have HM7 := hid (Below.trans HM6.out (hm.mono HM6.out.size))
      have e4 : (if (4 : Int) < 0 ∨ (O5.length : Int) ≤ 4 then -1 else ((O5.getD (4 : Int).toNat 0 : Nat) : Int)) = 4 := by rw [o5_is]; rfl
      rw [e4]
      clear hm HM6 e4
      go_wp2_with fail
      refine Calls.mono (HTI.out 5 _ HM7.out) ?_
      rintro e w7 ⟨rfl, hm⟩
      have HM8 := hid (Below.trans HM7.out (hm.mono HM7.out.size))
      have e5 : (if (5 : Int) < 0 ∨ (O5.length : Int) ≤ 5 then -1 else ((O5.getD (5 : Int).toNat 0 : Nat) : Int)) = -1 := by rw [o5_is]; rfl
      rw [e5]
      clear hm HM7 e5 HTI
      go_wp2_with fail
      refine bodyPost_ret (v := .bool true) (by simp [results, go_sem]) rfl ⟨_, rfl, rfl, HB1.out.call HM8.out⟩

end Go.Proofs.Ytijoaklknpkdoaa

namespace Go.Proofs.Ytijoaklknpkdoaa
open Go.RowKit Fl Lm

theorem eql_zero (W : World) : (binOp .eql 29 (.agg #[.float .f64 0, .float .f64 0, .float .f64 0, .float .f64 0, .float .f64 0, .float .f64 0, .int .i64 0, .int .i64 0, .int .i64 0, .int .i64 0]) (.agg #[.float .f64 0, .float .f64 0, .float .f64 0, .float .f64 0, .float .f64 0, .float .f64 0, .int .i64 0, .int .i64 0, .int .i64 0, .int .i64 0])).run Try.prog W = .ok (.bool true) W := by kernel_rfl

set_option maxRecDepth 100000 in
set_option maxHeartbeats 1000000 in
theorem none_any (p : Int) (w : World) : Ret Try.prog 3 #[.int .i64 p] w (fun v => v = .bool true) := by
  unfold Ret
  have HE := eql_zero
  have HN : Hid (∀ w', Ret Try.prog 4 #[.pointer none, .int .i64 p] w' (fun v => v = .tuple #[.agg #[.float .f64 0, .float .f64 0, .float .f64 0, .float .f64 0, .float .f64 0, .float .f64 0, .int .i64 0, .int .i64 0, .int .i64 0, .int .i64 0], .bool false])) := hid (fun w' => node_nil p w')
  have HR : Hid (∀ w', Ret Try.prog 5 #[.pointer none] w' (fun v => v = .tuple #[.agg #[.float .f64 0, .float .f64 0, .float .f64 0, .float .f64 0, .float .f64 0, .float .f64 0, .int .i64 0, .int .i64 0, .int .i64 0, .int .i64 0], .bool false])) := hid (fun w' => root_of _ nd0 false w' fun w2 _ => node_nil 0 w2)
  go_enter Try.func3, Try.ntmps3
  go_wp2_with fail
  refine Calls.mono (HN.out _) ?_
  rintro e w1 ⟨v, rfl, rfl, hm⟩
  have HB : Cl w w1 := hm
  clear hm HN
  go_wp2_with fail
  refine Calls.mono (HR.out _) ?_
  rintro e w2 ⟨v, rfl, rfl, hm⟩
  have B4 := (Lp.Bk.al w1 #[.float .f64 0, .float .f64 0, .float .f64 0, .float .f64 0, .float .f64 0, .float .f64 0, .int .i64 0, .int .i64 0, .int .i64 0, .int .i64 0] 29).keep hm
  replace HB : Cl w w2 := (HB.alloc (.cells #[.float .f64 0, .float .f64 0, .float .f64 0, .float .f64 0, .float .f64 0, .float .f64 0, .int .i64 0, .int .i64 0, .int .i64 0, .int .i64 0] 29)).call hm
  clear hm HR
  go_wp2_with fail
  have B5 := (Lp.Bk.al w2 #[.float .f64 0, .float .f64 0, .float .f64 0, .float .f64 0, .float .f64 0, .float .f64 0, .int .i64 0, .int .i64 0, .int .i64 0, .int .i64 0] 29)
  replace B4 := B4.alo (.cells #[.float .f64 0, .float .f64 0, .float .f64 0, .float .f64 0, .float .f64 0, .float .f64 0, .int .i64 0, .int .i64 0, .int .i64 0, .int .i64 0] 29)
  replace HB : Cl w (w2.alloc (.cells #[.float .f64 0, .float .f64 0, .float .f64 0, .float .f64 0, .float .f64 0, .float .f64 0, .int .i64 0, .int .i64 0, .int .i64 0, .int .i64 0] 29)) := HB.alloc _
  refine Calls.mono (awake_any _) ?_
  rintro e w3 ⟨v, rfl, rfl, hm⟩
  replace B4 := B4.keep hm
  replace B5 := B5.keep hm
  replace HB := HB.call hm
  clear hm
  go_wp2_with fail
  refine Calls.mono (nodes_nil _) ?_
  rintro e w4 ⟨rfl, hm⟩
  replace B4 := B4.keep hm
  replace B5 := B5.keep hm
  replace HB := HB.call hm
  clear hm
  go_wp2_with fail
  refine Calls.mono (order_nil _) ?_
  rintro e w5 ⟨rfl, hm⟩
  replace B4 := B4.keep hm
  replace B5 := B5.keep hm
  replace HB := HB.call hm
  clear hm
  go_wp2_with fail
  refine Calls.mono (depth_nil _) ?_
  rintro e w6 ⟨v, rfl, rfl, hm⟩
  replace B4 := B4.keep hm
  replace B5 := B5.keep hm
  replace HB := HB.call hm
  clear hm
  go_wp2_with fail
  refine Calls.mono (tri_nil _ _) ?_
  rintro e w7 ⟨rfl, hm⟩
  replace B4 := B4.keep hm
  replace B5 := B5.keep hm
  replace HB := HB.call hm
  clear hm
  have k4 := B4.cell
  have k5 := B5.cell
  go_wp2_with fail
  refine bodyPost_ret (v := .bool true) (by simp [results, go_sem]) rfl ⟨_, rfl, rfl, HB⟩

end Go.Proofs.Ytijoaklknpkdoaa
