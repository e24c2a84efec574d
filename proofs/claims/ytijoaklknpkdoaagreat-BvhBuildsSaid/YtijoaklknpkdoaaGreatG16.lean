/- The law: few, all, rise. The law: rise. What the law asks of the nodes, by lists alone: what is told up to a node; leaves have their numbers in the order; boxes hold boxes. The reference: May. The reference's Join. The reference's Of. -/
import Derived.Test.YtijoaklknpkdoaaGreatG15
import Derived.Test.YtijoaklknpkdoaaGreatRows
import Derived.Test.YtijoaklknpkdoaaGreatG7
import Derived.Test.YtijoaklknpkdoaaGreatG2
namespace Go.Proofs.YtijoaklknpkdoaaGreat
open Go.RowKit Fl Lm

theorem own_new (w : World) : (w.alloc (.cells #[] 3)).ownsRow 0 3 1 (.slice (some ⟨w.heap.size, 0, none⟩) 0 0) 0 [] := ⟨rfl, .inr ⟨w.heap.size, 0, #[], rfl, Nat.zero_le _, Lp.Bk.al w #[] 3, Nat.le_refl _, by decide, rfl, rfl⟩⟩
/-- x at its place. -/
theorem putIn_at {x : Nat} : ∀ (O : List Nat) (k : Nat), (∀ i, i < k → O.getD i 0 < x) → k ≤ O.length → (k = O.length ∨ ¬ O.getD k 0 < x) → putIn x O = O.take k ++ x :: O.drop k
  | [], k, h, hk, _ => by
    obtain rfl : k = 0 := by simpa using hk
    rfl
  | y :: O, 0, h, hk, hs => by
    unfold putIn
    rcases hs with e | e
    · simp at e
    · rw [if_neg (by simpa using e)]
      rfl
  | y :: O, k + 1, h, hk, hs => by
    unfold putIn
    have h0 := h 0 (Nat.succ_pos _)
    rw [if_pos (by simpa using h0), putIn_at O k (fun i hi => by have := h (i + 1) (by omega); simpa using this) (by simpa using hk) (hs.imp (fun e => by simpa using e) (fun e => by simpa using e))]
    rfl
theorem lvs_map (l : List Nat) : (l.map numV) = flat l.length (lvs l) := (flat_nums l).symm
theorem Own.of_row {N : Nat} {w : World} {v : Value} {L : List Nat} {n : Nat} (h : w.ownsRow 0 3 1 v n (L.map numV)) (hn : n = L.length) (hlo : ∀ g, v.ownBlock = some g → N ≤ g) : Own N w 3 1 v L.length (lvs L) := by
  subst hn
  rw [← flat_nums] at h
  exact ⟨h, hlo⟩
theorem Els.cut {w : World} {g off : Nat} {L : List Nat} (h : Els w g off L.length 1 (lvs L)) {k m : Nat} (hk : k + m ≤ L.length) : Els w g (off + k) ((L.drop k).take m).length 1 (lvs ((L.drop k).take m)) := by
  have hl : ((L.drop k).take m).length = m := by rw [List.length_take, List.length_drop]; omega
  rw [hl]
  have := (h.part (m := k) (l := m) hk).congr (e' := lvs ((L.drop k).take m)) fun i hi => by rw [lvs_take hi, lvs_drop]
  rwa [Nat.mul_one] at this

set_option maxRecDepth 100000 in
set_option maxHeartbeats 1000000 in
theorem few_any (n c m : Nat) (ao : Option Addr) (w : World) (hn : n ≤ c) : Calls Tryz.prog 17 #[.slice ao n c, .int .i64 (m : Int)] w fun e w' => e = .returned (.slice ao (min n m) c) ∧ w' = w := by
  by_cases h : m < n
  · have hc : ((m : Int) < (n : Int)) = True := eq_true (by omega)
    rw [Nat.min_eq_right (Nat.le_of_lt h)]
    have h1 : (m : Int) ≤ (c : Int) := by omega
    have h2 : m ≤ c := by omega
    go_enter Tryz.func17, Tryz.ntmps17
    go_wp2_with fail
    go_ret
    exact ⟨rfl, rfl⟩
  · have hc : ((m : Int) < (n : Int)) = False := eq_false (by omega)
    rw [Nat.min_eq_left (by omega)]
    go_enter Tryz.func17, Tryz.ntmps17
    go_wp2_with fail
    go_ret
    exact ⟨rfl, rfl⟩

set_option maxRecDepth 100000 in
set_option maxHeartbeats 1000000 in
theorem all_any (n : Nat) (w : World) (hn : n ≤ 1000) : Calls Tryz.prog 8 #[.int .i64 (n : Int)] w fun e w' => ∃ v, e = .returned v ∧ Own w.heap.size w' 3 1 v (List.range n).length (lvs (List.range n)) ∧ Cl w w' := by
  obtain ⟨iI, hI0, hI1, hI2, hI3⟩ := info_int
  go_enter Tryz.func8, Tryz.ntmps8
  go_wp2_with fail
  go_loopg [3, 4] n (fun k sl i wr => ∃ (j : Nat), k + j = n ∧ i = .int .i64 (j : Int) ∧ Own w.heap.size wr 3 1 sl (List.range j).length (lvs (List.range j)) ∧ Cl w wr)
  case atStart => exact ⟨0, Nat.add_zero _, rfl, Own.nil _ _ _ _ _, Below.refl _ _⟩
  case round =>
    obtain ⟨g0, hg0⟩ : ∃ g0, g0 = gk := ⟨_, rfl⟩
    subst hg0
    obtain ⟨j, hk, rfl, hO, HB⟩ := hrel
    have HK := aside hk
    clear hk
    obtain ⟨ao, co, rfl⟩ := hO.slice
    by_cases hj : j < n
    · have hd : ((j : Int) < (n : Int)) = True := eq_true (by omega)
      have HO := hid hO
      have hj5 : j < 1000 := by omega
      clear hO
      have hrj : (List.range j).length = j := List.length_range
      simp only [hrj] at HO ⊢
      go_wp2_with ((at_builtin; refine wpList_push _ rfl _ _ 34 rfl 3 iI (.int .i64 0) 1 8 under_ints hI0 hI1 hI2 hI3 rfl (by decide) (.slice ao j co) j (flat j (lvs (List.range j))) rfl (HO.out.alo (.cells #[.int .i64 (j : Int)] 3)).row ⟨wr.heap.size, 0, none⟩ 1 1 [.int .i64 (j : Int)] rfl rfl (cells_at0 (Lp.Bk.al wr _ _)) (by simp [Value.oneCell']) (max_small (by omega)) (by omega) ?_))
      intro v' w1 hown hg hb
      have hcl : Cl w w1 := Cl_grown (HB.alloc _) hg (fun g e => HO.out.lo g e)
      have hO1 := (HO.out.alo (.cells #[.int .i64 (j : Int)] 3))
      have hO2 : Own w.heap.size w1 3 1 v' (List.range (j + 1)).length (lvs (List.range (j + 1))) := by
        have hL : Own w.heap.size (wr.alloc (.cells #[.int .i64 (j : Int)] 3)) 3 1 (.slice ao j co) (List.range j).length (lvs (List.range j)) := by rw [hrj]; exact hO1
        have hR : w1.ownsRow 0 3 1 v' ((List.range j).length + 1) (flat (List.range j).length (lvs (List.range j)) ++ [.int .i64 (j : Int)]) := by rw [hrj]; exact hown
        have := hL.snoc (x := j) hR (hb.imp id fun h g e => by have := h g e; simp at this ⊢; omega) (by have := HB.size; simp; omega)
        rwa [← List.range_succ] at this
      have HO2 := hid hO2
      have HC2 := hid hcl
      clear hown hg hb hcl hO2 hO1 HB HO
      go_wp2_with fail
      go_roundg (g0 - 1)
      case measure => have := HK.out; omega
      case rel => exact ⟨j + 1, by have := HK.out; omega, by go_num, HO2.out, HC2.out⟩
    · have hd : ((j : Int) < (n : Int)) = False := eq_false (by omega)
      have hjn : j = n := by have := HK.out; omega
      subst hjn
      have HO := hid hO
      clear hO
      go_wp2_with fail
      exact bodyPost_ret (v := _) (by simp [results, go_sem]) rfl ⟨_, rfl, HO.out, HB⟩

end Go.Proofs.YtijoaklknpkdoaaGreat

namespace Go.Proofs.YtijoaklknpkdoaaGreat
open Go.RowKit Fl Lm

theorem Els.first {w : World} {g off : Nat} {L : List Nat} (h : Els w g off L.length 1 (lvs L)) {m : Nat} (hm : m ≤ L.length) : Els w g off (L.take m).length 1 (lvs (L.take m)) := by
  rw [List.length_take, Nat.min_eq_left hm]
  exact (h.less hm).congr fun i hi => (lvs_take hi).symm
theorem Els.last {w : World} {g off : Nat} {L : List Nat} (h : Els w g off L.length 1 (lvs L)) {m : Nat} (hm : m ≤ L.length) : Els w g (off + m) (L.drop m).length 1 (lvs (L.drop m)) := by
  rw [List.length_drop]
  have := (h.part (m := m) (l := L.length - m) (by omega)).congr (e' := lvs (L.drop m)) fun i hi => (lvs_drop _ _ _).symm
  rwa [Nat.mul_one] at this

set_option maxRecDepth 100000 in
set_option maxHeartbeats 1000000 in
theorem rise_any (l : List Nat) (cl : Nat) (ao : Option Addr) (w : World) (hL : Sl w ao l.length 1 (lvs l)) (h5 : l.length ≤ 1000) : Calls Tryz.prog 13 #[.slice ao l.length cl] w fun e w' => ∃ v, e = .returned v ∧ Own w.heap.size w' 3 1 v (riseF l).length (lvs (riseF l)) ∧ Cl w w' := by
  obtain ⟨iI, hI0, hI1, hI2, hI3⟩ := info_int
  have HL := hid hL
  clear hL
  go_enter Tryz.func13, Tryz.ntmps13
  go_wp2_with fail
  go_loopg [3, 4] l.length (fun k sl i wr => ∃ (j : Nat) (O : List Nat), k + j = l.length ∧ i = .int .i64 (j : Int) ∧ O = (l.take j).foldl (fun o x => putIn x o) [] ∧ O.length = j ∧ Own w.heap.size wr 3 1 sl O.length (lvs O) ∧ (j = 0 → sl = .slice none 0 0) ∧ Cl w wr)
  case atStart => exact ⟨0, [], Nat.add_zero _, rfl, rfl, rfl, Own.nil _ _ _ _ _, fun _ => rfl, Below.refl _ _⟩
  case round =>
    obtain ⟨g0, hg0⟩ : ∃ g0, g0 = gk := ⟨_, rfl⟩
    subst hg0
    obtain ⟨wo, hwo⟩ : ∃ wo, wo = wr := ⟨_, rfl⟩
    subst hwo
    obtain ⟨j, O, hk, rfl, hOF, hOl, hO, hnil, HB⟩ := hrel
    have HK := aside hk
    clear hk
    by_cases hj : j < l.length
    · have hd : ((j : Int) < (l.length : Int)) = True := eq_true (by omega)
      obtain ⟨gl, ol, rfl, EL⟩ := (HL.out.keep HB).get hj
      have HTK := aside (show (l.take (j + 1)).foldl (fun o x => putIn x o) [] = putIn (l.getD j 0) O by rw [take_more hj, List.foldl_append, ← hOF]; rfl)
      generalize hx : l.getD j 0 = x at *
      have HXV := aside hx
      have HLN := aside hOl
      have hjl := aside hj
      clear hOF hx
      rcases Nat.eq_zero_or_pos j with hj0 | hj0
      · subst hj0
        obtain rfl : O = [] := List.eq_nil_of_length_eq_zero hOl
        obtain rfl := hnil rfl
        have hglt : gl < wo.heap.size := EL.lt
        have k0 := EL.num hj
        rw [HXV.out, Nat.add_zero] at k0
        have HBB := hid HB
        clear hO EL HB hOl hnil
        go_wp2_with fail
        go_loopg [5] 0 (fun kk k wi => kk = 0 ∧ k = .int .i64 0 ∧ Cl wo wi)
        case atStart => exact ⟨rfl, rfl, Below.refl _ _⟩
        case round =>
          obtain ⟨wi, hwi⟩ : ∃ wi, wi = wr := ⟨_, rfl⟩
          subst hwi
          obtain ⟨_, rfl, hcl⟩ := hrel
          have hgw : gl < wi.heap.size := Nat.lt_of_lt_of_le hglt hcl.size
          go_wp2_with fail
          apply Lw.region _ _ 15 (by kernel_rfl) (by kernel_rfl) (by kernel_rfl) (Below.refl _ _)
          iterate 5 (
            apply Lw.one ?_ rfl
            · intro w3 hw
              go_simp
              exact rfl
            intro K hK
            go_simp
            refine hK.out _ ?_
            clear hK K)
          iterate 9 (
            apply Lw.skip (kd := none) rfl
            intro K hK
            go_simp
            refine hK.out _ ?_
            clear hK K)
          iterate 1 (
            apply Lw.one ?_ rfl
            · intro w3 hw
              go_simp
              exact rfl
            intro K hK
            go_simp
            refine hK.out _ ?_
            clear hK K)
          rotate_left
          exact []
          refine Lw.fin ?_
          intro v3 hm
          replace hcl := hcl.call hm
          clear hm
          have hgw : gl < v3.heap.size := Nat.lt_of_lt_of_le hglt hcl.size
          have k1 := (hcl.cell (p := ⟨gl, ol, none⟩) hglt).trans k0
          have HRN := hid ((own_new v3).alloc (.cells #[.int .i64 (x : Int)] 3))
          go_wp2_with ((at_builtin; refine wpList_push _ rfl _ _ 34 rfl 3 iI (.int .i64 0) 1 8 under_ints hI0 hI1 hI2 hI3 rfl (by decide) (.slice (some ⟨v3.heap.size, 0, none⟩) 0 0) 0 [] rfl HRN.out ⟨v3.heap.size + 1, 0, none⟩ 1 1 [.int .i64 (x : Int)] rfl rfl (cells_at0 (Lp.Bk.al1 v3 _ _ _)) (by simp [Value.oneCell']) (max_small (by omega)) (by omega) ?_))
          intro v1 w4 hown hg hb
          have hcl4 : Cl w w4 := Cl_grown (((HBB.out.call hcl).alloc (.cells #[] 3)).alloc (.cells #[.int .i64 (x : Int)] 3)) hg (fun k e => by have e2 : v3.heap.size = k := Option.some.inj e; have := HBB.out.size; have := hcl.size; omega)
          have hO2 : Own w.heap.size w4 3 1 v1 [x].length (lvs [x]) := Own.of_row (L := [x]) hown rfl (fun k e => by
            have hs1 := HBB.out.size
            have hs2 := hcl.size
            rcases hb with h | h
            · rw [h] at e
              have e2 : v3.heap.size = k := Option.some.inj e
              omega
            · have := h k e
              omega)
          have HCF := hid hcl4
          have HOF := hid hO2
          rcases hown.2 with ⟨_, hz⟩ | ⟨g1, c1, _, rfl, _, _, hc1, _⟩
          · cases hz
          have hc2 : (1 : Int) ≤ (c1 : Int) := by omega
          have hc3 : 1 ≤ c1 := hc1
          clear hown hg hb hcl4 hO2 hcl hgw HRN k1 hc1
          go_wp2_with fail
          go_roundg (g0 - 1)
          case measure => have := HK.out; have := hjl.out; omega
          case rel => exact ⟨1, [x], by have := HK.out; have := hjl.out; omega, by go_num, by rw [HTK.out]; rfl, rfl, HOF.out, fun e => absurd e (Nat.succ_ne_zero _), HCF.out⟩
      · have hOp : 0 < O.length := by omega
        have hO1k : O.length ≤ 1000 := by omega
        clear hOl
        obtain ⟨a0, c, hsl⟩ := hO.slice
        subst hsl
        obtain ⟨g, hg0, _, hE0⟩ := owns_els hO.row (fun _ _ => rfl) hOp
        subst hg0
        have HO0 := hid hO
        have HE0 := hid hE0
        have HEL0 := hid EL
        have HBB := hid HB
        clear hO hE0 EL HB hnil
        go_wp2_with fail
        go_loopg [5] O.length (fun kk k wi => ∃ m : Nat, kk + m = O.length ∧ k = .int .i64 (m : Int) ∧ (∀ i, i < m → O.getD i 0 < x) ∧ Cl wo wi)
        case atStart => exact ⟨0, Nat.add_zero _, rfl, fun i hi => absurd hi (Nat.not_lt_zero i), Below.refl _ _⟩
        case round =>
          obtain ⟨g1, hg1⟩ : ∃ g1, g1 = gk := ⟨_, rfl⟩
          subst hg1
          obtain ⟨wi, hwi⟩ : ∃ wi, wi = wr := ⟨_, rfl⟩
          subst hwi
          obtain ⟨m, hkm, rfl, hpre, hcl⟩ := hrel
          have HKM := aside hkm
          have hm : m ≤ O.length := by omega
          clear hkm
          by_cases hmO : m < O.length
          · have hdm : ((m : Int) < (O.length : Int)) = True := eq_true (by omega)
            have hm5 : m < 1000 := by omega
            have hj5 : j < 1000 := by omega
            have HE := hid (HE0.out.keep hcl)
            have HEL := hid (HEL0.out.keep hcl)
            have hSP := aside (show ¬ O.getD m 0 < x → putIn x O = O.take m ++ x :: O.drop m from fun h => putIn_at O m hpre hm (.inr h))
            have hST := aside (show O.getD m 0 < x → ∀ i, i < m + 1 → O.getD i 0 < x from fun h i hi => by
              rcases Nat.lt_or_ge i m with h2 | h2
              · exact hpre i h2
              · have : i = m := by omega
                rw [this]; exact h)
            generalize hy : O.getD m 0 = y at *
            have HYV := aside hy
            clear hy hpre
            by_cases hyx : y < x
            · have hc : ((y : Int) < (x : Int)) = True := eq_true (by omega)
              have HST := aside (hST.out hyx)
              clear hST hSP hyx
              have HCL := hid hcl
              clear hcl
              go_wp2_with fail
              apply Lw.region _ _ 15 (by kernel_rfl) (by kernel_rfl) (by kernel_rfl) (Below.refl _ _)
              iterate 15 (
                apply Lw.one ?_ rfl
                · intro w3 hw
                  have q1 := (HE.out.keep hw).num hmO
                  have q2 := (HEL.out.keep hw).num hj
                  rw [HYV.out, Nat.zero_add] at q1
                  rw [HXV.out] at q2
                  go_simp
                  exact rfl
                intro K hK
                go_simp
                refine hK.out _ ?_
                clear hK K)
              rotate_left
              exact []
              refine Lw.fin ?_
              intro v3 hm3
              have HCL3 := hid (HCL.out.call hm3)
              clear hm3 HCL HE HEL
              go_wp2_with fail
              go_roundg (g1 - 1)
              case measure => have := HKM.out; omega
              case rel => exact ⟨m + 1, by have := HKM.out; omega, by go_num, HST.out, HCL3.out⟩
            · have hc : ((y : Int) < (x : Int)) = False := eq_false (by omega)
              have HPI := aside (hSP.out hyx)
              clear hST hSP hyx
              have HCL := hid hcl
              clear hcl
              go_wp2_with fail
              apply Lw.region _ _ 15 (by kernel_rfl) (by kernel_rfl) (by kernel_rfl) (Below.refl _ _)
              iterate 15 (
                apply Lw.one ?_ rfl
                · intro w3 hw
                  have q1 := (HE.out.keep hw).num hmO
                  have q2 := (HEL.out.keep hw).num hj
                  rw [HYV.out, Nat.zero_add] at q1
                  rw [HXV.out] at q2
                  go_simp
                  exact rfl
                intro K hK
                go_simp
                refine hK.out _ ?_
                clear hK K)
              rotate_left
              exact []
              refine Lw.fin ?_
              intro v3 hm3
              have HO := hid ((HO0.out.keep HCL.out).keep hm3)
              have HEO := hid (HE.out.keep hm3)
              have HEL2 := hid (HEL.out.keep hm3)
              have HB := hid (HBB.out.call (HCL.out.call hm3))
              have hgl3 : gl < v3.heap.size := HEL2.out.lt
              have k1 := HEL2.out.num hj
              rw [HXV.out] at k1
              clear hm3 HCL HE HEL
              have hcc := owns_cap HO.out.row
              have hgi : g < v3.heap.size := HEO.out.lt
              have hglo : w.heap.size ≤ v3.heap.size := HB.out.size
              have i1 : (0 : Int) ≤ (m : Int) := by omega
              have i2 : (m : Int) ≤ (c : Int) := by omega
              have i3 : m ≤ c := by omega
              have i4 : (m : Int) ≤ (O.length : Int) := by omega
              have i5 : (O.length : Int) ≤ (c : Int) := by omega
              have HRN := hid (own_new v3)
              go_wp2_with ((at_builtin; refine wpList_push _ rfl _ _ 34 rfl 3 iI (.int .i64 0) 1 8 under_ints hI0 hI1 hI2 hI3 rfl (by decide) (.slice (some ⟨v3.heap.size, 0, none⟩) 0 0) 0 [] rfl HRN.out ⟨g, 0, none⟩ m c ((O.take m).map numV) rfl (by simp; omega) ((HEO.out.alo (.cells #[] 3)).first hm).news (nums_one _) (max_small (by omega)) (by omega) ?_))
              intro v1 w4 hown1 hg1 hb1
              have hown1' : w4.ownsRow 0 3 1 v1 m ((O.take m).map numV) := by simpa using hown1
              have hn1 : ∀ k, v1.ownBlock = some k → v3.heap.size ≤ k := fun k e => by
                rcases hb1 with h | h
                · rw [h] at e
                  have e2 : v3.heap.size = k := Option.some.inj e
                  omega
                · have := h k e
                  omega
              have hcl4 : Cl w w4 := Cl_grown (HB.out.alloc (.cells #[] 3)) hg1 (fun k e => by have e2 : v3.heap.size = k := Option.some.inj e; omega)
              have hE4 := Els_grown (HEO.out.alo (.cells #[] 3)) hg1 (fun e => by have e2 : v3.heap.size = g := Option.some.inj e; omega)
              have hL4 := Els_grown (HEL2.out.alo (.cells #[] 3)) hg1 (fun e => by have e2 : v3.heap.size = gl := Option.some.inj e; have := HEL2.out.lt; omega)
              have hs4 : v3.heap.size < w4.heap.size := by have := hg1.size; simp at this; omega
              have k4 := hL4.num hj
              rw [HXV.out] at k4
              obtain ⟨a1, c1, rfl, -⟩ := owns_slice hown1'
              have HO1 := hid hown1'
              have HN1 := aside hn1
              have HE4 := hid hE4
              have HC4 := hid hcl4
              have hgl4 : gl < w4.heap.size := hL4.lt
              clear hown1 hown1' hg1 hb1 hn1 hE4 hL4 hcl4 HRN
              go_wp2_with ((at_builtin; refine wpList_push _ rfl _ _ 34 rfl 3 iI (.int .i64 0) 1 8 under_ints hI0 hI1 hI2 hI3 rfl (by decide) (.slice a1 m c1) m ((O.take m).map numV) rfl (HO1.out.alloc (.cells #[.int .i64 (x : Int)] 3)) ⟨w4.heap.size, 0, none⟩ 1 1 [.int .i64 (x : Int)] rfl rfl (cells_at0 (Lp.Bk.al w4 _ _)) (by simp [Value.oneCell']) (max_small (by omega)) (by omega) ?_))
              intro v2 w5 hown2 hg2 hb2
              have hn2 : ∀ k, v2.ownBlock = some k → v3.heap.size ≤ k := fun k e => by
                rcases hb2 with h | h
                · exact HN1.out k (h ▸ e)
                · have := h k e
                  omega
              have hcl5 : Cl w w5 := Cl_grown (HC4.out.alloc (.cells #[.int .i64 (x : Int)] 3)) hg2 (fun k e => by have := HN1.out k e; omega)
              have hE5 := Els_grown (HE4.out.alo (.cells #[.int .i64 (x : Int)] 3)) hg2 (fun e => by have := HN1.out g e; omega)
              obtain ⟨a2, c2, rfl, -⟩ := owns_slice hown2
              have hown2' : w5.ownsRow 0 3 1 (.slice a2 (m + 1) c2) (m + 1) ((O.take m).map numV ++ [.int .i64 (x : Int)]) := by simpa using hown2
              have HO2 := hid hown2'
              have HN2 := aside hn2
              have HE5 := hid hE5
              have HC5 := hid hcl5
              clear hown2 hown2' hg2 hb2 hn2 hE5 hcl5 HO1 HN1 HE4 HC4 k4 hgl4
              have i8 : (m = c) = False := eq_false (by omega)
              have i9 : (c = m) = False := eq_false (by omega)
              go_wp2_with ((at_builtin; refine wpList_push _ rfl _ _ 34 rfl 3 iI (.int .i64 0) 1 8 under_ints hI0 hI1 hI2 hI3 rfl (by decide) (.slice a2 (m + 1) c2) (m + 1) ((O.take m).map numV ++ [.int .i64 (x : Int)]) rfl HO2.out ⟨g, m, none⟩ (O.length - m) (c - m) ((O.drop m).map numV) rfl (by simp) (by have := HE5.out.last hm; rw [Nat.zero_add] at this; exact this.news) (nums_one _) (max_small (by omega)) (by omega) ?_))
              intro v3 w6 hown3 hg3 hb3
              have hO3 : Own w.heap.size w6 3 1 v3 (O.take m ++ x :: O.drop m).length (lvs (O.take m ++ x :: O.drop m)) := by
                have hown3' : w6.ownsRow 0 3 1 v3 (m + 1 + (O.length - m)) ((O.take m ++ x :: O.drop m).map numV) := by simpa [numV] using hown3
                refine Own.of_row hown3' (by simp; omega) (fun k e => ?_)
                rcases hb3 with h | h
                · have := HN2.out k (h ▸ e)
                  omega
                · have := h k e
                  have := HC5.out.size
                  omega
              have HCF := hid (Cl_grown HC5.out hg3 (fun k e => by have := HN2.out k e; omega) : Cl w w6)
              rw [← HPI.out, ← HTK.out] at hO3
              have HOF := hid hO3
              clear hown3 hg3 hb3 hO3 HO2 HN2 HE5 HC5
              go_wp2_with fail
              go_roundg (g0 - 1)
              case measure => have := HK.out; have := hjl.out; omega
              case rel => exact ⟨j + 1, _, by have := HK.out; have := hjl.out; omega, by go_num, rfl, by rw [HTK.out, HPI.out]; simp; have := HLN.out; omega, HOF.out, fun e => absurd e (Nat.succ_ne_zero _), HCF.out⟩
          · have hdm : ((m : Int) < (O.length : Int)) = False := eq_false (by omega)
            have hmE : m = O.length := by omega
            have HPI := aside (putIn_at O m hpre hm (.inl hmE))
            have HME := aside hmE
            clear hmE
            have HE := hid (HE0.out.keep hcl)
            have HEL := hid (HEL0.out.keep hcl)
            have HCL := hid hcl
            have hm5 : m ≤ 1000 := by omega
            have hj5 : j < 1000 := by omega
            clear hcl hpre
            go_wp2_with fail
            apply Lw.region _ _ 15 (by kernel_rfl) (by kernel_rfl) (by kernel_rfl) (Below.refl _ _)
            iterate 5 (
              apply Lw.one ?_ rfl
              · intro w3 hw
                go_simp
                exact rfl
              intro K hK
              go_simp
              refine hK.out _ ?_
              clear hK K)
            iterate 9 (
              apply Lw.skip (kd := none) rfl
              intro K hK
              go_simp
              refine hK.out _ ?_
              clear hK K)
            iterate 1 (
              apply Lw.one ?_ rfl
              · intro w3 hw
                go_simp
                exact rfl
              intro K hK
              go_simp
              refine hK.out _ ?_
              clear hK K)
            rotate_left
            exact []
            refine Lw.fin ?_
            intro v3 hm3
            have HO := hid ((HO0.out.keep HCL.out).keep hm3)
            have HEO := hid (HE.out.keep hm3)
            have HEL2 := hid (HEL.out.keep hm3)
            have HB := hid (HBB.out.call (HCL.out.call hm3))
            have hgl3 : gl < v3.heap.size := HEL2.out.lt
            have k1 := HEL2.out.num hj
            rw [HXV.out] at k1
            clear hm3 HCL HE HEL
            have hcc := owns_cap HO.out.row
            have hgi : g < v3.heap.size := HEO.out.lt
            have hglo : w.heap.size ≤ v3.heap.size := HB.out.size
            have i1 : (0 : Int) ≤ (m : Int) := by omega
            have i2 : (m : Int) ≤ (c : Int) := by omega
            have i3 : m ≤ c := by omega
            have i4 : (m : Int) ≤ (O.length : Int) := by omega
            have i5 : (O.length : Int) ≤ (c : Int) := by omega
            have HRN := hid (own_new v3)
            go_wp2_with ((at_builtin; refine wpList_push _ rfl _ _ 34 rfl 3 iI (.int .i64 0) 1 8 under_ints hI0 hI1 hI2 hI3 rfl (by decide) (.slice (some ⟨v3.heap.size, 0, none⟩) 0 0) 0 [] rfl HRN.out ⟨g, 0, none⟩ m c ((O.take m).map numV) rfl (by simp; omega) ((HEO.out.alo (.cells #[] 3)).first hm).news (nums_one _) (max_small (by omega)) (by omega) ?_))
            intro v1 w4 hown1 hg1 hb1
            have hown1' : w4.ownsRow 0 3 1 v1 m ((O.take m).map numV) := by simpa using hown1
            have hn1 : ∀ k, v1.ownBlock = some k → v3.heap.size ≤ k := fun k e => by
              rcases hb1 with h | h
              · rw [h] at e
                have e2 : v3.heap.size = k := Option.some.inj e
                omega
              · have := h k e
                omega
            have hcl4 : Cl w w4 := Cl_grown (HB.out.alloc (.cells #[] 3)) hg1 (fun k e => by have e2 : v3.heap.size = k := Option.some.inj e; omega)
            have hE4 := Els_grown (HEO.out.alo (.cells #[] 3)) hg1 (fun e => by have e2 : v3.heap.size = g := Option.some.inj e; omega)
            have hL4 := Els_grown (HEL2.out.alo (.cells #[] 3)) hg1 (fun e => by have e2 : v3.heap.size = gl := Option.some.inj e; have := HEL2.out.lt; omega)
            have hs4 : v3.heap.size < w4.heap.size := by have := hg1.size; simp at this; omega
            have k4 := hL4.num hj
            rw [HXV.out] at k4
            obtain ⟨a1, c1, rfl, -⟩ := owns_slice hown1'
            have HO1 := hid hown1'
            have HN1 := aside hn1
            have HE4 := hid hE4
            have HC4 := hid hcl4
            have hgl4 : gl < w4.heap.size := hL4.lt
            clear hown1 hown1' hg1 hb1 hn1 hE4 hL4 hcl4 HRN
            go_wp2_with ((at_builtin; refine wpList_push _ rfl _ _ 34 rfl 3 iI (.int .i64 0) 1 8 under_ints hI0 hI1 hI2 hI3 rfl (by decide) (.slice a1 m c1) m ((O.take m).map numV) rfl (HO1.out.alloc (.cells #[.int .i64 (x : Int)] 3)) ⟨w4.heap.size, 0, none⟩ 1 1 [.int .i64 (x : Int)] rfl rfl (cells_at0 (Lp.Bk.al w4 _ _)) (by simp [Value.oneCell']) (max_small (by omega)) (by omega) ?_))
            intro v2 w5 hown2 hg2 hb2
            have hn2 : ∀ k, v2.ownBlock = some k → v3.heap.size ≤ k := fun k e => by
              rcases hb2 with h | h
              · exact HN1.out k (h ▸ e)
              · have := h k e
                omega
            have hcl5 : Cl w w5 := Cl_grown (HC4.out.alloc (.cells #[.int .i64 (x : Int)] 3)) hg2 (fun k e => by have := HN1.out k e; omega)
            have hE5 := Els_grown (HE4.out.alo (.cells #[.int .i64 (x : Int)] 3)) hg2 (fun e => by have := HN1.out g e; omega)
            obtain ⟨a2, c2, rfl, -⟩ := owns_slice hown2
            have hown2' : w5.ownsRow 0 3 1 (.slice a2 (m + 1) c2) (m + 1) ((O.take m).map numV ++ [.int .i64 (x : Int)]) := by simpa using hown2
            have HO2 := hid hown2'
            have HN2 := aside hn2
            have HE5 := hid hE5
            have HC5 := hid hcl5
            clear hown2 hown2' hg2 hb2 hn2 hE5 hcl5 HO1 HN1 HE4 HC4 k4 hgl4
            by_cases hmc : m = c
            · have i8 : (m = c) = True := eq_true hmc
              have i9 : (c = m) = True := eq_true hmc.symm
              clear hmc
              go_wp2_with ((at_builtin; refine wpList_push _ rfl _ _ 34 rfl 3 iI (.int .i64 0) 1 8 under_ints hI0 hI1 hI2 hI3 rfl (by decide) (.slice a2 (m + 1) c2) (m + 1) ((O.take m).map numV ++ [.int .i64 (x : Int)]) rfl HO2.out ⟨g, 0, none⟩ (O.length - m) (c - m) ((O.drop m).map numV) rfl (by simp) (fun i u h => by have hme := HME.out; rw [List.drop_eq_nil_of_le (by omega)] at h; cases h) (nums_one _) (max_small (by omega)) (by omega) ?_))
              intro v3 w6 hown3 hg3 hb3
              have hO3 : Own w.heap.size w6 3 1 v3 (O.take m ++ x :: O.drop m).length (lvs (O.take m ++ x :: O.drop m)) := by
                have hown3' : w6.ownsRow 0 3 1 v3 (m + 1 + (O.length - m)) ((O.take m ++ x :: O.drop m).map numV) := by simpa [numV] using hown3
                refine Own.of_row hown3' (by simp; omega) (fun k e => ?_)
                rcases hb3 with h | h
                · have := HN2.out k (h ▸ e)
                  omega
                · have := h k e
                  have := HC5.out.size
                  omega
              have HCF := hid (Cl_grown HC5.out hg3 (fun k e => by have := HN2.out k e; omega) : Cl w w6)
              rw [← HPI.out, ← HTK.out] at hO3
              have HOF := hid hO3
              clear hown3 hg3 hb3 hO3 HO2 HN2 HE5 HC5
              go_wp2_with fail
              go_roundg (g0 - 1)
              case measure => have := HK.out; have := hjl.out; omega
              case rel => exact ⟨j + 1, _, by have := HK.out; have := hjl.out; omega, by go_num, rfl, by rw [HTK.out, HPI.out]; simp; have := HLN.out; omega, HOF.out, fun e => absurd e (Nat.succ_ne_zero _), HCF.out⟩
            · have i8 : (m = c) = False := eq_false hmc
              have i9 : (c = m) = False := eq_false (by omega)
              go_wp2_with ((at_builtin; refine wpList_push _ rfl _ _ 34 rfl 3 iI (.int .i64 0) 1 8 under_ints hI0 hI1 hI2 hI3 rfl (by decide) (.slice a2 (m + 1) c2) (m + 1) ((O.take m).map numV ++ [.int .i64 (x : Int)]) rfl HO2.out ⟨g, m, none⟩ (O.length - m) (c - m) ((O.drop m).map numV) rfl (by simp) (by have := HE5.out.last hm; rw [Nat.zero_add] at this; exact this.news) (nums_one _) (max_small (by omega)) (by omega) ?_))
              intro v3 w6 hown3 hg3 hb3
              have hO3 : Own w.heap.size w6 3 1 v3 (O.take m ++ x :: O.drop m).length (lvs (O.take m ++ x :: O.drop m)) := by
                have hown3' : w6.ownsRow 0 3 1 v3 (m + 1 + (O.length - m)) ((O.take m ++ x :: O.drop m).map numV) := by simpa [numV] using hown3
                refine Own.of_row hown3' (by simp; omega) (fun k e => ?_)
                rcases hb3 with h | h
                · have := HN2.out k (h ▸ e)
                  omega
                · have := h k e
                  have := HC5.out.size
                  omega
              have HCF := hid (Cl_grown HC5.out hg3 (fun k e => by have := HN2.out k e; omega) : Cl w w6)
              rw [← HPI.out, ← HTK.out] at hO3
              have HOF := hid hO3
              clear hown3 hg3 hb3 hO3 HO2 HN2 HE5 HC5
              go_wp2_with fail
              go_roundg (g0 - 1)
              case measure => have := HK.out; have := hjl.out; omega
              case rel => exact ⟨j + 1, _, by have := HK.out; have := hjl.out; omega, by go_num, rfl, by rw [HTK.out, HPI.out]; simp; have := HLN.out; omega, HOF.out, fun e => absurd e (Nat.succ_ne_zero _), HCF.out⟩
    · have hd : ((j : Int) < (l.length : Int)) = False := eq_false (by omega)
      have hjn : j = l.length := by have := HK.out; omega
      subst hjn
      rw [List.take_of_length_le (Nat.le_refl _)] at hOF
      have hOF2 : O = riseF l := hOF
      obtain ⟨a0, c0, hsl⟩ := hO.slice
      subst hsl
      have HO := hid hO
      clear hO hnil hOl
      go_wp2_with fail
      refine bodyPost_ret (v := .slice a0 O.length c0) (by simp [results, go_sem]) rfl ⟨_, rfl, ?_, HB⟩
      rw [← hOF2]
      exact HO.out

end Go.Proofs.YtijoaklknpkdoaaGreat

namespace Go.Proofs.YtijoaklknpkdoaaGreat.Fl
open Go.Proofs.YtijoaklknpkdoaaGreat

section
variable (S : Parts)
/-- How many places are told behind some nodes. -/
def toldF : Nat → List Nd → Nat
  | p, [] => p
  | p, x :: L => toldF (if x.left = 0 then x.hi else p) L
theorem told_append : ∀ (L M : List Nd) (p : Nat), toldF p (L ++ M) = toldF (toldF p L) M
  | [], _, _ => rfl
  | _ :: L, M, _ => told_append L M _
theorem told_cons (x : Nd) (L : List Nd) (p : Nat) : toldF p (x :: L) = toldF (if x.left = 0 then x.hi else p) L := rfl
theorem told_all (l : List Nat) : ∀ k p, toldF p (ndL S k p l) = p + l.length := by
  refine by_parts S (C := fun l => ∀ k p, toldF p (ndL S k p l) = p + l.length) (fun l h k p => ?_) (fun l h h1 h2 k p => ?_) l
  · rw [nd_leaf S k p h]
    rfl
  · have hs := S.sum h
    rw [nd_node S k p h, told_cons, if_neg (show ¬ k + 1 = 0 by omega), told_append, h1, h2]
    omega
/-- What is so of the node at a place: l is the whole list, L its nodes. -/
def NdOk (k p : Nat) (l : List Nat) (L : List Nd) (j : Nat) (x : Nd) : Prop :=
  (x.left = 0 ∧ x.right = 0 ∧ x.lo = toldF p (L.take j) ∧ x.lo ≤ x.hi ∧ x.hi ≤ x.lo + 4 ∧ p ≤ x.lo ∧ x.hi ≤ p + l.length ∧ ∃ l', x.box = S.box l' ∧ x.hi = x.lo + l'.length ∧ l'.length ≤ 4 ∧ (∀ i, i ∈ l' → i ∈ l) ∧ ∀ q, q < l'.length → (orL S l)[x.lo - p + q]? = (riseF l')[q]?) ∨
  (x.left = k + j + 1 ∧ x.left < x.right ∧ x.right < k + szL S l ∧ x.lo = 0 ∧ x.hi = 0 ∧ ∃ l', 4 < l'.length ∧ x.box = S.box l' ∧ (∀ i, i ∈ l' → i ∈ l) ∧ (∃ y, L[x.left - k]? = some y ∧ y.box = S.box (S.part l').1) ∧ (∃ y, L[x.right - k]? = some y ∧ y.box = S.box (S.part l').2))
theorem or_len (l : List Nat) : (orL S l).length = l.length := (or_perm S l).length_eq
theorem nd_ok (l : List Nat) : ∀ (k p j : Nat) (x : Nd), (ndL S k p l)[j]? = some x → NdOk S k p l (ndL S k p l) j x := by
  refine by_parts S (C := fun l => ∀ (k p j : Nat) (x : Nd), (ndL S k p l)[j]? = some x → NdOk S k p l (ndL S k p l) j x) (fun l h k p j x hx => ?_) (fun l h h1 h2 k p j x hx => ?_) l
  · rw [nd_leaf S k p h] at hx ⊢
    cases j with
    | zero =>
      injection hx with hx
      subst hx
      refine .inl ⟨rfl, rfl, rfl, Nat.le_add_right _ _, ?_, Nat.le_refl _, Nat.le_refl _, l, rfl, rfl, h, fun i hi => hi, fun q hq => ?_⟩
      · show p + l.length ≤ p + 4
        omega
      · show (orL S l)[p - p + q]? = _
        rw [or_leaf S h, Nat.sub_self, Nat.zero_add]
    | succ j => cases hx
  · have hs := S.sum h
    have hp := S.perm l h
    have m1 : ∀ i, i ∈ (S.part l).1 → i ∈ l := fun i hi => hp.mem_iff.1 (List.mem_append_left _ hi)
    have m2 : ∀ i, i ∈ (S.part l).2 → i ∈ l := fun i hi => hp.mem_iff.1 (List.mem_append_right _ hi)
    have hz := sz_node S h
    have z1 := sz_pos S (S.part l).1
    have z2 := sz_pos S (S.part l).2
    rw [nd_node S k p h] at hx ⊢
    cases j with
    | zero =>
      rw [List.getElem?_cons_zero] at hx
      injection hx with hx
      subst hx
      refine .inr ⟨rfl, ?_, ?_, rfl, rfl, l, h, rfl, fun i hi => hi, ?_, ?_⟩
      · show k + 1 < k + 1 + szL S (S.part l).1
        omega
      · show k + 1 + szL S (S.part l).1 < k + szL S l
        omega
      · obtain ⟨y, t, e, hy⟩ := nd_head S (S.part l).1 (k + 1) p
        refine ⟨y, ?_, hy⟩
        show (_ :: _)[k + 1 - k]? = some y
        rw [show k + 1 - k = 0 + 1 by omega, List.getElem?_cons_succ, e]
        rfl
      · obtain ⟨y, t, e, hy⟩ := nd_head S (S.part l).2 (k + 1 + szL S (S.part l).1) (p + (S.part l).1.length)
        refine ⟨y, ?_, hy⟩
        show (_ :: _)[k + 1 + szL S (S.part l).1 - k]? = some y
        rw [show k + 1 + szL S (S.part l).1 - k = szL S (S.part l).1 + 1 by omega, List.getElem?_cons_succ, List.getElem?_append_right (by rw [nd_len]; exact Nat.le_refl _), nd_len, Nat.sub_self, e]
        rfl
    | succ j =>
      rw [List.getElem?_cons_succ] at hx
      have hkn : ¬ k + 1 = 0 := by omega
      by_cases hj : j < szL S (S.part l).1
      · rw [List.getElem?_append_left (by rw [nd_len]; exact hj)] at hx
        rcases h1 _ _ _ _ hx with ⟨a1, a2, a3, a4, a5, a6, a7, l', b1, b2, b3, b4, b5⟩ | ⟨a1, a2, a3, a4, a5, l', b1, b2, b3, ⟨y, c1, c2⟩, ⟨z, d1, d2⟩⟩
        · refine .inl ⟨a1, a2, ?_, a4, a5, a6, by omega, l', b1, b2, b3, fun i hi => m1 i (b4 i hi), fun q hq => ?_⟩
          · rw [List.take_succ_cons, told_cons, if_neg hkn, List.take_append_of_le_length (by rw [nd_len]; omega)]
            exact a3
          · rw [← b5 q hq, or_node S h, List.getElem?_append_left (by rw [or_len]; omega)]
        · refine .inr ⟨by omega, a2, by omega, a4, a5, l', b1, b2, fun i hi => m1 i (b3 i hi), ⟨y, ?_, c2⟩, ⟨z, ?_, d2⟩⟩
          · rw [show x.left - k = (x.left - (k + 1)) + 1 by omega, List.getElem?_cons_succ, List.getElem?_append_left (List.getElem?_eq_some_iff.1 c1).1]
            exact c1
          · rw [show x.right - k = (x.right - (k + 1)) + 1 by omega, List.getElem?_cons_succ, List.getElem?_append_left (List.getElem?_eq_some_iff.1 d1).1]
            exact d1
      · rw [List.getElem?_append_right (by rw [nd_len]; omega), nd_len] at hx
        rcases h2 _ _ _ _ hx with ⟨a1, a2, a3, a4, a5, a6, a7, l', b1, b2, b3, b4, b5⟩ | ⟨a1, a2, a3, a4, a5, l', b1, b2, b3, ⟨y, c1, c2⟩, ⟨z, d1, d2⟩⟩
        · refine .inl ⟨a1, a2, ?_, a4, a5, by omega, by omega, l', b1, b2, b3, fun i hi => m2 i (b4 i hi), fun q hq => ?_⟩
          · rw [List.take_succ_cons, told_cons, if_neg hkn, List.take_append, told_append, List.take_of_length_le (by rw [nd_len]; omega), told_all, nd_len]
            exact a3
          · rw [← b5 q hq, or_node S h, List.getElem?_append_right (by rw [or_len]; omega), or_len]
            congr 1
            omega
        · refine .inr ⟨by omega, a2, by omega, a4, a5, l', b1, b2, fun i hi => m2 i (b3 i hi), ⟨y, ?_, c2⟩, ⟨z, ?_, d2⟩⟩
          · rw [show x.left - k = (szL S (S.part l).1 + (x.left - (k + 1 + szL S (S.part l).1))) + 1 by omega, List.getElem?_cons_succ, List.getElem?_append_right (by rw [nd_len]; omega), nd_len, Nat.add_sub_cancel_left]
            exact c1
          · rw [show x.right - k = (szL S (S.part l).1 + (x.right - (k + 1 + szL S (S.part l).1))) + 1 by omega, List.getElem?_cons_succ, List.getElem?_append_right (by rw [nd_len]; omega), nd_len, Nat.add_sub_cancel_left]
            exact d1
theorem told_take (L : List Nd) (p j : Nat) (x : Nd) (h : L[j]? = some x) : toldF p (L.take (j + 1)) = if x.left = 0 then x.hi else toldF p (L.take j) := by
  rw [List.take_add_one, h, told_append]
  rfl
end
end Go.Proofs.YtijoaklknpkdoaaGreat.Fl

namespace Go.Proofs.YtijoaklknpkdoaaGreat
open Go.RowKit Fl Lm

theorem tri_cells {t : Tr} {w : World} {g : Nat} (h : Lp.Bk w g #[.float .f64 t.t0, .float .f64 t.t1, .float .f64 t.t2, .float .f64 t.t3, .float .f64 t.t4, .float .f64 t.t5, .float .f64 t.t6, .float .f64 t.t7, .float .f64 t.t8] 31) {j : Nat} (hj : j < 3) : w.cell? ⟨g, j * 3, none⟩ = some (.float .f64 (cornerT t j).1) ∧ w.cell? ⟨g, j * 3 + 1, none⟩ = some (.float .f64 (cornerT t j).2.1) ∧ w.cell? ⟨g, j * 3 + 2, none⟩ = some (.float .f64 (cornerT t j).2.2) := by
  match j, hj with
  | 0, _ => exact ⟨h.cell 0, h.cell 1, h.cell 2⟩
  | 1, _ => exact ⟨h.cell 3, h.cell 4, h.cell 5⟩
  | 2, _ => exact ⟨h.cell 6, h.cell 7, h.cell 8⟩

set_option maxRecDepth 100000 in
set_option maxHeartbeats 1000000 in
theorem rmay_any (t : Tr) (w : World) : Ret Tryz.prog 7 #[txv t] w (fun v => v = .bool t.mayB) := by
  unfold Ret txv
  have HY := aside (may_all t)
  generalize hy : t.mayB = y at *
  clear hy
  go_enter Tryz.func7, Tryz.ntmps7
  go_wp2_with fail
  have hBB := Lp.Bk.al1 w (.cells #[.float .f64 t.t0, .float .f64 t.t1, .float .f64 t.t2, .float .f64 t.t3, .float .f64 t.t4, .float .f64 t.t5, .float .f64 t.t6, .float .f64 t.t7, .float .f64 t.t8] 33) #[.float .f64 t.t0, .float .f64 t.t1, .float .f64 t.t2, .float .f64 t.t3, .float .f64 t.t4, .float .f64 t.t5, .float .f64 t.t6, .float .f64 t.t7, .float .f64 t.t8] 31
  have hCC : Cl w ((w.alloc (.cells #[.float .f64 t.t0, .float .f64 t.t1, .float .f64 t.t2, .float .f64 t.t3, .float .f64 t.t4, .float .f64 t.t5, .float .f64 t.t6, .float .f64 t.t7, .float .f64 t.t8] 33)).alloc (.cells #[.float .f64 t.t0, .float .f64 t.t1, .float .f64 t.t2, .float .f64 t.t3, .float .f64 t.t4, .float .f64 t.t5, .float .f64 t.t6, .float .f64 t.t7, .float .f64 t.t8] 31)) := ((Below.refl _ _).alloc (Nat.le_refl _) _).alloc (by simp) _
  go_loopg [4] 3 (fun k i wr => ∃ j : Nat, k + j = 3 ∧ i = .int .i64 (j : Int) ∧ allB (fun j => okC (cornerT t j)) j = true ∧ Lp.Bk wr (w.heap.size + 1) #[.float .f64 t.t0, .float .f64 t.t1, .float .f64 t.t2, .float .f64 t.t3, .float .f64 t.t4, .float .f64 t.t5, .float .f64 t.t6, .float .f64 t.t7, .float .f64 t.t8] 31 ∧ Cl w wr)
  case atStart => exact ⟨0, rfl, rfl, rfl, hBB, hCC⟩
  case round =>
    clear hBB hCC
    obtain ⟨g0, hg0⟩ : ∃ g0, g0 = gk := ⟨_, rfl⟩
    subst hg0
    obtain ⟨j, hk, rfl, hA, BB, HB⟩ := hrel
    have HK := aside hk
    have HA := aside hA
    clear hk hA
    by_cases hj : j < 3
    · have hd : ((j : Int) < 3) = True := eq_true (by omega)
      have HAll := aside (show okC (cornerT t j) = false → allB (fun j => okC (cornerT t j)) 3 = false from fun h => allB_none h 3 hj)
      have HA2 := aside (show okC (cornerT t j) = true → allB (fun j => okC (cornerT t j)) (j + 1) = true from fun h => by show (allB _ j && okC (cornerT t j)) = true; rw [HA.out, h]; rfl)
      obtain ⟨k0, k1, k2⟩ := tri_cells BB hj
      generalize cornerT t j = c at *
      obtain ⟨x, y1, z⟩ := c
      dsimp only at k0 k1 k2
      have hjl := aside hj
      have hj5 : j < 512 := by omega
      clear hj HA
      have HBB := hid BB
      clear BB
      have hp : (FloatKind.f64.format.order x 13920626448202203136 == some .gt || FloatKind.f64.format.order x 13920626448202203136 == some .eq) = leB m20 x := geB_eq x m20
      have hp' : (FloatKind.f64.format.order x 4697254411347427328 == some .lt || FloatKind.f64.format.order x 4697254411347427328 == some .eq) = leB x maxW := rfl
      have hq : (FloatKind.f64.format.order y1 13920626448202203136 == some .gt || FloatKind.f64.format.order y1 13920626448202203136 == some .eq) = leB m20 y1 := geB_eq y1 m20
      have hq' : (FloatKind.f64.format.order y1 4697254411347427328 == some .lt || FloatKind.f64.format.order y1 4697254411347427328 == some .eq) = leB y1 maxW := rfl
      have hr : (FloatKind.f64.format.order z 13920626448202203136 == some .gt || FloatKind.f64.format.order z 13920626448202203136 == some .eq) = leB m20 z := geB_eq z m20
      have hr' : (FloatKind.f64.format.order z 4697254411347427328 == some .lt || FloatKind.f64.format.order z 4697254411347427328 == some .eq) = leB z maxW := rfl
      rw [show okC (x, y1, z) = (moB x && moB y1 && moB z) from rfl] at HAll HA2
      unfold moB at HAll HA2
      generalize leB m20 x = p at hp HAll HA2
      generalize leB x maxW = p' at hp' HAll HA2
      generalize leB m20 y1 = q at hq HAll HA2
      generalize leB y1 maxW = q' at hq' HAll HA2
      generalize leB m20 z = r at hr HAll HA2
      generalize leB z maxW = r' at hr' HAll HA2
      cases p
      · replace HAll := aside (HAll.out (by simp))
        clear HA2
        go_wp2_with fail
        go_ret
        exact ⟨_, rfl, by rw [HY.out, HAll.out]; rfl, HB⟩
      cases p'
      · replace HAll := aside (HAll.out (by simp))
        clear HA2
        go_wp2_with fail
        go_ret
        exact ⟨_, rfl, by rw [HY.out, HAll.out]; rfl, HB⟩
      cases q
      · replace HAll := aside (HAll.out (by simp))
        clear HA2
        go_wp2_with fail
        go_ret
        exact ⟨_, rfl, by rw [HY.out, HAll.out]; rfl, HB⟩
      cases q'
      · replace HAll := aside (HAll.out (by simp))
        clear HA2
        go_wp2_with fail
        go_ret
        exact ⟨_, rfl, by rw [HY.out, HAll.out]; rfl, HB⟩
      cases r
      · replace HAll := aside (HAll.out (by simp))
        clear HA2
        go_wp2_with fail
        go_ret
        exact ⟨_, rfl, by rw [HY.out, HAll.out]; rfl, HB⟩
      cases r'
      · replace HAll := aside (HAll.out (by simp))
        clear HA2
        go_wp2_with fail
        go_ret
        exact ⟨_, rfl, by rw [HY.out, HAll.out]; rfl, HB⟩
      replace HA2 := aside (HA2.out rfl)
      clear HAll
      go_wp2_with fail
      go_roundg (g0 - 1)
      case measure => have := HK.out; have := hjl.out; omega
      case rel => exact ⟨j + 1, by have := HK.out; have := hjl.out; omega, by go_num, HA2.out, HBB.out, HB⟩
    · have hd : ((j : Int) < 3) = False := eq_false (by omega)
      have hjn : j = 3 := by have := HK.out; omega
      subst hjn
      clear hj
      go_wp2_with fail
      go_ret
      exact ⟨_, rfl, by rw [HY.out, HA.out]; rfl, HB⟩

end Go.Proofs.YtijoaklknpkdoaaGreat

namespace Go.Proofs.YtijoaklknpkdoaaGreat
open Go.RowKit Fl

set_option maxRecDepth 100000 in
set_option maxHeartbeats 1000000 in
theorem rjoin_any (a0 a1 a2 a3 a4 a5 b0 b1 b2 b3 b4 b5 : Nat) (w : World) : Ret Tryz.prog 19 #[.agg #[.float .f64 a0, .float .f64 a1, .float .f64 a2, .float .f64 a3, .float .f64 a4, .float .f64 a5], .agg #[.float .f64 b0, .float .f64 b1, .float .f64 b2, .float .f64 b3, .float .f64 b4, .float .f64 b5]] w (fun v => v = .agg #[.float .f64 (lowF a0 b0), .float .f64 (lowF a1 b1), .float .f64 (lowF a2 b2), .float .f64 (highF a3 b3), .float .f64 (highF a4 b4), .float .f64 (highF a5 b5)]) := by
  unfold Ret
  go_enter Tryz.func19, Tryz.ntmps19
  go_wp2_with fail
  apply Lp.wp_region_loose _ _ 45 (by kernel_rfl) (by kernel_rfl) (by kernel_rfl) (Below.refl _ _)
  apply Lp.facts
  · intro w1 hw
    exact And.intro (Lp.c3 hw (w.heap.size) 0 1 2 (by go_simp; exact rfl) (by go_simp; exact rfl) (by go_simp; exact rfl) (by go_simp; done)) (And.intro (Lp.c3 hw (w.heap.size) 3 4 5 (by go_simp; exact rfl) (by go_simp; exact rfl) (by go_simp; exact rfl) (by go_simp; done)) (And.intro (Lp.c3 hw (w.heap.size + 1) 0 1 2 (by go_simp; exact rfl) (by go_simp; exact rfl) (by go_simp; exact rfl) (by go_simp; done)) ((Lp.c3 hw (w.heap.size + 1) 3 4 5 (by go_simp; exact rfl) (by go_simp; exact rfl) (by go_simp; exact rfl) (by go_simp; done)))))
  intro HF
  iterate 6 (
    apply Lp.one ?_ rfl
    · intro w hw
      obtain ⟨⟨c0, c1, c2⟩, ⟨⟨c3, c4, c5⟩, ⟨⟨c6, c7, c8⟩, ⟨c9, c10, c11⟩⟩⟩⟩ := HF.out _ hw
      go_simp
      exact rfl
    intro K hK
    go_simp
    refine hK.out _ ?_
    clear hK K)
  apply Lp.any rfl
  · intro w hw
    go_simp
    exact Lp.ret (Ret.of_same (rlow_any _ _ _))
  intro K hK
  rintro v rfl
  go_simp
  refine hK.out _ ?_
  clear hK K
  iterate 6 (
    apply Lp.one ?_ rfl
    · intro w hw
      obtain ⟨⟨c0, c1, c2⟩, ⟨⟨c3, c4, c5⟩, ⟨⟨c6, c7, c8⟩, ⟨c9, c10, c11⟩⟩⟩⟩ := HF.out _ hw
      go_simp
      exact rfl
    intro K hK
    go_simp
    refine hK.out _ ?_
    clear hK K)
  apply Lp.any rfl
  · intro w hw
    go_simp
    exact Lp.ret (Ret.of_same (rlow_any _ _ _))
  intro K hK
  rintro v rfl
  go_simp
  refine hK.out _ ?_
  clear hK K
  iterate 6 (
    apply Lp.one ?_ rfl
    · intro w hw
      obtain ⟨⟨c0, c1, c2⟩, ⟨⟨c3, c4, c5⟩, ⟨⟨c6, c7, c8⟩, ⟨c9, c10, c11⟩⟩⟩⟩ := HF.out _ hw
      go_simp
      exact rfl
    intro K hK
    go_simp
    refine hK.out _ ?_
    clear hK K)
  apply Lp.any rfl
  · intro w hw
    go_simp
    exact Lp.ret (Ret.of_same (rlow_any _ _ _))
  intro K hK
  rintro v rfl
  go_simp
  refine hK.out _ ?_
  clear hK K
  iterate 7 (
    apply Lp.one ?_ rfl
    · intro w hw
      obtain ⟨⟨c0, c1, c2⟩, ⟨⟨c3, c4, c5⟩, ⟨⟨c6, c7, c8⟩, ⟨c9, c10, c11⟩⟩⟩⟩ := HF.out _ hw
      go_simp
      exact rfl
    intro K hK
    go_simp
    refine hK.out _ ?_
    clear hK K)
  apply Lp.any rfl
  · intro w hw
    go_simp
    exact Lp.ret (Ret.of_same (rhigh_any _ _ _))
  intro K hK
  rintro v rfl
  go_simp
  refine hK.out _ ?_
  clear hK K
  iterate 6 (
    apply Lp.one ?_ rfl
    · intro w hw
      obtain ⟨⟨c0, c1, c2⟩, ⟨⟨c3, c4, c5⟩, ⟨⟨c6, c7, c8⟩, ⟨c9, c10, c11⟩⟩⟩⟩ := HF.out _ hw
      go_simp
      exact rfl
    intro K hK
    go_simp
    refine hK.out _ ?_
    clear hK K)
  apply Lp.any rfl
  · intro w hw
    go_simp
    exact Lp.ret (Ret.of_same (rhigh_any _ _ _))
  intro K hK
  rintro v rfl
  go_simp
  refine hK.out _ ?_
  clear hK K
  iterate 6 (
    apply Lp.one ?_ rfl
    · intro w hw
      obtain ⟨⟨c0, c1, c2⟩, ⟨⟨c3, c4, c5⟩, ⟨⟨c6, c7, c8⟩, ⟨c9, c10, c11⟩⟩⟩⟩ := HF.out _ hw
      go_simp
      exact rfl
    intro K hK
    go_simp
    refine hK.out _ ?_
    clear hK K)
  apply Lp.any rfl
  · intro w hw
    go_simp
    exact Lp.ret (Ret.of_same (rhigh_any _ _ _))
  intro K hK
  rintro v rfl
  go_simp
  refine hK.out _ ?_
  clear hK K
  iterate 2 (
    apply Lp.one ?_ rfl
    · intro w hw
      obtain ⟨⟨c0, c1, c2⟩, ⟨⟨c3, c4, c5⟩, ⟨⟨c6, c7, c8⟩, ⟨c9, c10, c11⟩⟩⟩⟩ := HF.out _ hw
      go_simp
      exact rfl
    intro K hK
    go_simp
    refine hK.out _ ?_
    clear hK K)
  rotate_left
  exact []
  intro w' hw'
  have HW : Hid _ := hw'
  obtain ⟨hc, hf⟩ := Lp.bcell hw'
  clear hw'
  go_wp2_with fail
  refine bodyPost_ret (v := .agg #[.float .f64 (lowF a0 b0), .float .f64 (lowF a1 b1), .float .f64 (lowF a2 b2), .float .f64 (highF a3 b3), .float .f64 (highF a4 b4), .float .f64 (highF a5 b5)]) (by simp [results, go_sem, hc]) rfl ⟨_, rfl, rfl, ?_⟩
  repeat (refine Below.setCell ?_ (by simp <;> omega) _)
  exact Cl.out3 HW.out

end Go.Proofs.YtijoaklknpkdoaaGreat

namespace Go.Proofs.YtijoaklknpkdoaaGreat
open Go.RowKit Fl

set_option maxRecDepth 100000 in
set_option maxHeartbeats 1000000 in
theorem rof_any (t0 t1 t2 t3 t4 t5 t6 t7 t8 : Nat) (w : World) : Ret Tryz.prog 18 #[.agg #[.float .f64 t0, .float .f64 t1, .float .f64 t2, .float .f64 t3, .float .f64 t4, .float .f64 t5, .float .f64 t6, .float .f64 t7, .float .f64 t8]] w (fun v => v = .agg #[.float .f64 (lowF (lowF (lowF pinf t0) t3) t6), .float .f64 (lowF (lowF (lowF pinf t1) t4) t7), .float .f64 (lowF (lowF (lowF pinf t2) t5) t8), .float .f64 (highF (highF (highF ninf t0) t3) t6), .float .f64 (highF (highF (highF ninf t1) t4) t7), .float .f64 (highF (highF (highF ninf t2) t5) t8)]) := by
  unfold Ret
  go_enter Tryz.func18, Tryz.ntmps18
  go_wp2_with fail
  refine Lp.settle (fun w' => Lp.Bk w' (w.heap.size) #[.float .f64 t0, .float .f64 t1, .float .f64 t2, .float .f64 t3, .float .f64 t4, .float .f64 t5, .float .f64 t6, .float .f64 t7, .float .f64 t8] 33 ∧ Lp.Bk w' (w.heap.size + 1) #[.float .f64 0, .float .f64 0, .float .f64 0, .float .f64 0, .float .f64 0, .float .f64 0] 42 ∧ Cl w w') ⟨((Lp.Bk.al _ _ _).alo _), (Lp.Bk.al1 _ _ _ _), ((Below.refl _ _).alloc (by simp <;> omega) _).alloc (by simp <;> omega) _⟩ ?_
  rintro v1 ⟨BT, BR, HB⟩
  have kT := BT.cell
  have kR := BR.cell
  apply Lp.wp_region_loose _ _ 8 (by kernel_rfl) (by kernel_rfl) (by kernel_rfl) (Below.refl _ _)
  apply Lp.facts
  · intro w1 hw
    exact And.intro (BT.cl hw).cell ((BR.cl hw).cell)
  intro HF
  apply Lp.any rfl
  · intro w hw
    go_simp
    exact Lp.ret (rempty_any _)
  intro K hK
  rintro v rfl
  go_simp
  refine hK.out _ ?_
  clear hK K
  iterate 5 (
    apply Lp.one ?_ rfl
    · intro w hw
      obtain ⟨k0, k1⟩ := HF.out _ hw
      go_simp
      exact rfl
    intro K hK
    go_simp
    refine hK.out _ ?_
    clear hK K)
  apply Lp.any rfl
  · intro w hw
    go_simp
    exact Lp.ret (rjoin_any _ _ _ _ _ _ _ _ _ _ _ _ _)
  intro K hK
  rintro v rfl
  go_simp
  refine hK.out _ ?_
  clear hK K
  apply Lp.new _ rfl
  · intro w hw
    go_simp
    exact rfl
  intro K hK b hb
  go_simp
  refine hK.out _ _ ?_
  clear hK K
  rotate_left
  exact []
  rintro v2 ⟨hm, -, hk⟩
  have BN : Lp.Bk v2 (b) #[.float .f64 0, .float .f64 0, .float .f64 0, .float .f64 0, .float .f64 0, .float .f64 0] 42 := hk
  clear hk
  have hlt : w.heap.size + 1 < b := Nat.lt_of_lt_of_le BR.lt hb
  have n0 : (b = w.heap.size) = False := eq_false (by omega)
  have n1 : (w.heap.size = b) = False := eq_false (by omega)
  have n2 : (b = w.heap.size + 1) = False := eq_false (by omega)
  have n3 : (w.heap.size + 1 = b) = False := eq_false (by omega)
  clear hb
  clear kT kR
  replace BT := BT.keep hm
  replace BR := BR.keep hm
  replace HB := HB.call hm
  clear hm
  have kT := BT.cell
  have kR := BR.cell
  have kN := BN.cell
  have zN := BN.frz
  have zR := BR.frz
  go_wp2_with fail
  refine Lp.settleC (fun w' => Lp.Bk w' (w.heap.size) #[.float .f64 t0, .float .f64 t1, .float .f64 t2, .float .f64 t3, .float .f64 t4, .float .f64 t5, .float .f64 t6, .float .f64 t7, .float .f64 t8] 33 ∧ Lp.Bk w' (w.heap.size + 1) #[.float .f64 0, .float .f64 0, .float .f64 0, .float .f64 0, .float .f64 0, .float .f64 0] 42 ∧ Lp.Bk w' (b) #[.float .f64 (lowF pinf t0), .float .f64 (lowF pinf t1), .float .f64 (lowF pinf t2), .float .f64 (highF ninf t0), .float .f64 (highF ninf t1), .float .f64 (highF ninf t2)] 42 ∧ Cl w w') ⟨(by (repeat (refine Lp.Bk.seto ?_ (by dsimp only; omega) _)); exact BT), (by (repeat (refine Lp.Bk.seto ?_ (by dsimp only; omega) _)); exact BR), BN.set6, (by (repeat (refine Below.setCell ?_ (by dsimp only; omega) _)); exact HB)⟩ ?_
  clear kT kR kN zN zR
  rintro v3 ⟨BT, BR, BN, HB⟩
  have kT := BT.cell
  have kR := BR.cell
  have kN := BN.cell
  have zN := BN.frz
  have zR := BR.frz
  refine Calls.mono (rjoin_any _ _ _ _ _ _ _ _ _ _ _ _ _) ?_
  rintro e v4 ⟨v, rfl, rfl, hm⟩
  clear kT kR kN zN zR
  replace BT := BT.keep hm
  replace BR := BR.keep hm
  replace BN := BN.keep hm
  replace HB := HB.call hm
  clear hm
  have kT := BT.cell
  have kR := BR.cell
  have kN := BN.cell
  have zN := BN.frz
  have zR := BR.frz
  go_wp2_with fail
  refine Lp.settleC (fun w' => Lp.Bk w' (w.heap.size) #[.float .f64 t0, .float .f64 t1, .float .f64 t2, .float .f64 t3, .float .f64 t4, .float .f64 t5, .float .f64 t6, .float .f64 t7, .float .f64 t8] 33 ∧ Lp.Bk w' (w.heap.size + 1) #[.float .f64 0, .float .f64 0, .float .f64 0, .float .f64 0, .float .f64 0, .float .f64 0] 42 ∧ Lp.Bk w' (b) #[.float .f64 (lowF (lowF pinf t0) t3), .float .f64 (lowF (lowF pinf t1) t4), .float .f64 (lowF (lowF pinf t2) t5), .float .f64 (highF (highF ninf t0) t3), .float .f64 (highF (highF ninf t1) t4), .float .f64 (highF (highF ninf t2) t5)] 42 ∧ Cl w w') ⟨(by (repeat (refine Lp.Bk.seto ?_ (by dsimp only; omega) _)); exact BT), (by (repeat (refine Lp.Bk.seto ?_ (by dsimp only; omega) _)); exact BR), BN.set6, (by (repeat (refine Below.setCell ?_ (by dsimp only; omega) _)); exact HB)⟩ ?_
  clear kT kR kN zN zR
  rintro v5 ⟨BT, BR, BN, HB⟩
  have kT := BT.cell
  have kR := BR.cell
  have kN := BN.cell
  have zN := BN.frz
  have zR := BR.frz
  refine Calls.mono (rjoin_any _ _ _ _ _ _ _ _ _ _ _ _ _) ?_
  rintro e v6 ⟨v, rfl, rfl, hm⟩
  clear kT kR kN zN zR
  replace BT := BT.keep hm
  replace BR := BR.keep hm
  replace BN := BN.keep hm
  replace HB := HB.call hm
  clear hm
  have kT := BT.cell
  have kR := BR.cell
  have kN := BN.cell
  have zN := BN.frz
  have zR := BR.frz
  go_wp2_with fail
  refine bodyPost_ret (v := .agg #[.float .f64 (lowF (lowF (lowF pinf t0) t3) t6), .float .f64 (lowF (lowF (lowF pinf t1) t4) t7), .float .f64 (lowF (lowF (lowF pinf t2) t5) t8), .float .f64 (highF (highF (highF ninf t0) t3) t6), .float .f64 (highF (highF (highF ninf t1) t4) t7), .float .f64 (highF (highF (highF ninf t2) t5) t8)]) (by simp [results, go_sem, kR]) rfl ⟨_, rfl, rfl, ?_⟩
  repeat (refine Below.setCell ?_ (by dsimp only; omega) _)
  exact HB

end Go.Proofs.YtijoaklknpkdoaaGreat
