/- BvhBuilds: the walk, node by node. BvhBuilds: the walk, where there is no tree, or many triangles. -/
import Derived.Test.YtijoaklknpkdoaaGreatG19
namespace Go.Proofs.YtijoaklknpkdoaaGreat
open Go.RowKit Fl Lm

theorem own_job1 {N : Nat} (w : World) (p : Pd) (hN : N ≤ w.heap.size) : Own N (w.alloc (.cells #[.slice p.ao p.l.length p.cap, .int .i64 (p.a : Int)] 37)) 37 2 (.slice (some ⟨w.heap.size, 0, none⟩) 1 1) [p].length (pds [p]) :=
  ⟨⟨rfl, .inr ⟨w.heap.size, 1, #[.slice p.ao p.l.length p.cap, .int .i64 (p.a : Int)], rfl, Nat.zero_le _, Lp.Bk.al w _ _, Nat.le_refl _, by decide, rfl, rfl⟩⟩, fun g e => by have e2 : w.heap.size = g := Option.some.inj e; omega⟩

set_option maxRecDepth 100000 in
set_option maxHeartbeats 1000000 in
theorem builds_few (T : Nat → Tr) (hT : ∀ i, (T i).Mo) (sur : Bool) (n cz : Nat) (ao : Option Addr) (w : World) (hL : Sl w ao n 9 fun i => tcs (T i)) (h40 : n ≤ 40) (hmay : ∀ i, i < n → (T i).mayB = true) : Ret Tryz.prog 3 #[.slice ao n cz, .bool sur] w (fun v => v = .bool true) := by
  unfold Ret
  have hc : (512 < (n : Int)) = False := eq_false (by omega)
  have HNEW := hid (new_any T hT sur n cz ao w hL (by omega) hmay)
  have HL := hid hL
  have HMY := aside hmay
  have hc4 : (40 < (n : Int)) = False := eq_false (by omega)
  obtain ⟨iI, hI0, hI1, hI2, hI3⟩ := info_int
  obtain ⟨iJ, hJ0, hJ1, hJ2, hJ3⟩ := info_job
  have HAR : Hid (∀ w', Cl w w' → ∀ (s : List Nat) (c : Nat) (a : Option Addr), Sl w' a s.length 1 (lvs s) → (∀ i, i ∈ s → i < n) → s.length ≤ 512 →
      Ret Tryz.prog 11 #[.slice ao n cz, .slice a s.length c] w' (fun v => v = .tuple #[.agg #[.float .f64 (bxs T s).a0, .float .f64 (bxs T s).a1, .float .f64 (bxs T s).a2, .float .f64 (bxs T s).a3, .float .f64 (bxs T s).a4, .float .f64 (bxs T s).a5], .agg #[.float .f64 (mds T s).a0, .float .f64 (mds T s).a1, .float .f64 (mds T s).a2, .float .f64 (mds T s).a3, .float .f64 (mds T s).a4, .float .f64 (mds T s).a5]])) := hid (fun w' hw s c a hs hsn hs5 => raround_any T hT n cz c ao a s w' (hL.keep hw) hs hsn (by omega) hs5)
  have HPA : Hid (∀ w', Cl w w' → ∀ (s : List Nat) (c : Nat) (a : Option Addr), Sl w' a s.length 1 (lvs s) → (∀ i, i ∈ s → i < n) → 4 < s.length → s.length ≤ 512 →
      Calls Tryz.prog 14 #[.slice ao n cz, .slice a s.length c, .bool sur] w' fun e w'' => ∃ v, e = .returned v ∧ TwoL w' w'' v (partT T sur s).1 (partT T sur s).2) := hid (fun w' hw s c a hs hsn h4 hs5 => rparted_any T hT sur n cz c ao a s w' (hL.keep hw) hs hsn (by omega) h4 hs5)
  have HOKB := aside (fun s => (bxs_P hT s).ok)
  have HST := aside (fun a c => JbP.start (treeT T sur) n a c)
  have hlenD : (ndL (treeT T sur) 0 0 (List.range n)).length ≤ 79 ∧ 0 < (ndL (treeT T sur) 0 0 (List.range n)).length := by
    rw [nd_len]
    have := sz_le (treeT T sur) (List.range n)
    rw [List.length_range] at this
    have : max n 1 ≤ 40 := by omega
    exact ⟨by omega, sz_pos _ _⟩
  have hlenO : (orL (treeT T sur) (List.range n)).length = n := by rw [or_len, List.length_range]
  clear hL hT hmay
  generalize ndL (treeT T sur) 0 0 (List.range n) = D at *
  generalize orL (treeT T sur) (List.range n) = FO at *
  have HLD := aside hlenD
  have HLO := aside hlenO
  clear hlenD hlenO
  go_enter Tryz.func3, Tryz.ntmps3
  go_wp2_with fail
  refine Calls.mono HNEW.out ?_
  rintro e w1 ⟨t, rfl, hTR, _, hm⟩
  have HB1 := hid (hm : Cl w w1)
  have HTR1 := hid hTR
  clear hm HNEW hTR
  go_wp2_with fail
  go_loopg [7] n (fun k i wr => ∃ j : Nat, k + j = n ∧ i = .int .i64 (j : Int) ∧ Cl w1 wr)
  case atStart => exact ⟨0, Nat.add_zero _, rfl, Below.refl _ _⟩
  case round =>
    obtain ⟨g0, hg0⟩ : ∃ g0, g0 = gk := ⟨_, rfl⟩
    subst hg0
    obtain ⟨wo, hwo⟩ : ∃ wo, wo = wr := ⟨_, rfl⟩
    subst hwo
    obtain ⟨j, hk, rfl, HB⟩ := hrel
    have HK := aside hk
    clear hk
    by_cases hj : j < n
    · have hd : ((j : Int) < (n : Int)) = True := eq_true (by omega)
      obtain ⟨g, o, rfl, E⟩ := (HL.out.keep (HB1.out.call HB)).get hj
      obtain ⟨k0, k1, k2, k3, k4, k5, k6, k7, k8⟩ := tat E hj
      have hj5 : j < 512 := by omega
      have HMAY := hid (fun w' => rmay_any (T j) w')
      have hjl := aside hj
      unfold txv at HMAY
      rw [HMY.out j hj] at HMAY
      clear E hj
      go_wp2_with fail
      refine Calls.mono (HMAY.out _) ?_
      rintro e w2 ⟨v, rfl, rfl, hm⟩
      replace HB := HB.call hm
      clear hm k0 k1 k2 k3 k4 k5 k6 k7 k8 HMAY
      go_wp2_with fail
      go_roundg (g0 - 1)
      case measure => have := HK.out; have := hjl.out; omega
      case rel => exact ⟨j + 1, by have := HK.out; have := hjl.out; omega, by go_num, HB⟩
    · have hd : ((j : Int) < (n : Int)) = False := eq_false (by omega)
      have hjn : n = j := by have := HK.out; omega
      clear hj HK HMY
      subst hjn
      go_wp2_with fail
      have hrl : (List.range n).length = n := List.length_range
      refine Calls.mono (all_any n wo (by omega)) ?_
      rintro e w5 ⟨v2, rfl, hO1, hm⟩
      obtain ⟨wa, hwa⟩ : ∃ wa, wa = wo := ⟨_, rfl⟩
      subst hwa
      have hwa5 : wa.heap.size ≤ w5.heap.size := hm.size
      have HTRa := hid (HTR1.out.keep HB)
      have HBa := hid (HB1.out.call HB)
      obtain ⟨a2, c2, rfl⟩ := hO1.slice
      have hS2 := hO1.sl (fun _ _ => rfl)
      have hlt2 := hO1.lt
      have HM5 := hid (hm : Cl wa w5)
      clear hm hO1 HTR1 HB1 HB
      have hJa : Own wa.heap.size (w5.alloc (.cells #[.slice a2 n c2, .int .i64 0] 37)) 37 2 (.slice (some ⟨w5.heap.size, 0, none⟩) 1 1) [(⟨a2, c2, List.range n, 0⟩ : Pd)].length (pds [⟨a2, c2, List.range n, 0⟩]) := by
        have := own_job1 (N := wa.heap.size) w5 ⟨a2, c2, List.range n, 0⟩ hwa5
        dsimp only at this
        rw [hrl] at this
        exact this
      have hal : Below w5.heap.size w5 (w5.alloc (.cells #[.slice a2 n c2, .int .i64 0] 37)) := (Below.refl _ _).alloc (Nat.le_refl _) _
      have HJa := hid hJa
      have HS2 := hid (And.intro hS2 hlt2)
      have HAL := hid hal
      clear hJa hS2 hlt2 hal
      go_wp2_with fail
      refine Calls.mono (nodes_any t D FO _ (HTRa.out.keep (HM5.out.call HAL.out)) HLD.out.2 (by have := HLD.out.1; omega)) ?_
      rintro e w7 ⟨gD, cD, rfl, hED, hgD, hm⟩
      have hs5 : (w5.alloc (.cells #[.slice a2 n c2, .int .i64 0] 37)).heap.size = w5.heap.size + 1 := by simp
      rw [hs5] at hgD
      have hC0 : JbC wa w7 gD [(⟨a2, c2, List.range n, 0⟩ : Pd)] (.slice (some ⟨w5.heap.size, 0, none⟩) 1 1) (.slice none 0 0) D [] := by
        refine ⟨HJa.out.keep hm, Own.nil _ _ _ _ _, fun g _ h => (by cases h), hED, fun e => ?_, fun e => (by cases e), fun p hp => ?_, (HM5.out.call HAL.out).call hm⟩
        · have e2 : w5.heap.size = gD := Option.some.inj e
          omega
        · rcases List.mem_singleton.1 hp with rfl
          rcases HS2.out.1 with h | ⟨g, off, rfl, h⟩
          · exact .inl h
          · have := h.lt
            exact .inr ⟨g, off, rfl, (h.keep HAL.out).keep hm, (fun e => by have e2 : w5.heap.size = g := Option.some.inj e; omega), fun e => by cases e⟩
      have hP0 := HST.out a2 c2
      have HC0 := hid hC0
      have HP0 := hid hP0
      clear hC0 hP0 hED hgD hm hs5 HJa HS2 HAL HM5 HST hwa5
      go_wp2_with fail
      go_loopg [8, 9, 10] D.length (fun kk jv sv ov wr => ∃ (k : Nat) (O : List Nat) (P : List Pd), kk + k = D.length ∧ sv = .int .i64 (k : Int) ∧ JbP (treeT T sur) n D FO k O P ∧ JbC wa wr gD P jv ov D O ∧ ((∀ p, p ∈ P → 0 < p.l.length) ∨ (P.length = 1 ∧ ov = .slice none 0 0 ∧ O = [])))
      case atStart => exact ⟨0, [], _, Nat.add_zero _, rfl, HP0.out, HC0.out, .inr ⟨rfl, rfl, rfl⟩⟩
      case round =>
        clear HP0 HC0
        obtain ⟨g1, hg1⟩ : ∃ g1, g1 = gk := ⟨_, rfl⟩
        subst hg1
        obtain ⟨wi, hwi⟩ : ∃ wi, wi = wr := ⟨_, rfl⟩
        subst hwi
        obtain ⟨k, O, P, hk, rfl, hP, hC, hz⟩ := hrel
        have HK := aside hk
        clear hk
        have hPc : P = [] ∨ ∃ P0 q, P = P0 ++ [q] := by
          rcases List.eq_nil_or_concat P with h | ⟨P0, p, h⟩
          · exact .inl h
          · exact .inr ⟨P0, p, by rw [h, List.concat_eq_append]⟩
        rcases hPc with rfl | ⟨P0, q, rfl⟩
        · obtain ⟨e1, e2⟩ := hP.done
          obtain ⟨aj, cj, hjv⟩ := hC.jo.slice
          subst hjv
          obtain ⟨ao2, co, hov⟩ := hC.oo.slice
          subst hov
          subst e1 e2
          have HC := hid hC
          clear hC hP hz
          simp only [List.length_nil] at *
          go_wp2_with fail
          refine Calls.mono (awake_any _) ?_
          rintro e v1 ⟨v, rfl, rfl, hm⟩
          replace HC := hid (HC.out.keep hm)
          clear hm
          go_wp2_with fail
          refine Calls.mono (order_any t D FO _ (HTRa.out.keep HC.out.cl) (by have := HLO.out; omega)) ?_
          rintro e v2 ⟨a5, c5, rfl, hS5, _, hm⟩
          replace HC := hid (HC.out.keep hm)
          have HIN := hid (ints_any FO FO c5 co a5 ao2 v2 hS5 (HC.out.oo.sl (fun _ _ => rfl)) (by have := HLO.out; omega))
          rw [decide_eq_true rfl] at HIN
          clear hm hS5
          go_wp2_with fail
          refine Calls.mono HIN.out ?_
          rintro e v3 ⟨v, rfl, rfl, hm⟩
          replace HC := hid (HC.out.keep hm)
          clear hm HIN
          go_wp2_with fail
          exact bodyPost_ret (v := .bool true) (by simp [results, go_sem]) rfl ⟨_, rfl, rfl, HBa.out.call HC.out.cl⟩
        · rcases q with ⟨qa, qc, ql, qn⟩
          have hpl : (P0 ++ [(⟨qa, qc, ql, qn⟩ : Pd)]).length = P0.length + 1 := by simp
          have hX : k = qn ∧ ∃ x, D[k]? = some x ∧ x.box = bxs T ql := by
            by_cases h4 : ql.length ≤ 4
            · obtain ⟨h1, h2, _⟩ := hP.leaf h4
              exact ⟨h1.symm, _, h2, rfl⟩
            · obtain ⟨h1, h2, _⟩ := hP.node (by show 4 < ql.length; omega) none none 0 0
              exact ⟨h1.symm, _, h2, rfl⟩
          obtain ⟨hqn, x, hx, hxb⟩ := hX
          subst hqn
          have hlen := hP.len
          dsimp only at hlen
          have hwt := hP.wait
          rw [hpl] at hwt
          have hkD : k < D.length := (List.getElem?_eq_some_iff.1 hx).1
          have hli : ∀ i, i ∈ ql → i < n := hP.li _ (List.mem_append_right _ (List.mem_singleton.2 rfl))
          obtain ⟨aj, cj, hjv⟩ := hC.jo.slice
          subst hjv
          obtain ⟨gJ, hgJ, _, EJ⟩ := owns_els hC.jo.row (fun _ _ => rfl) (by rw [hpl]; omega)
          subst hgJ
          have hcj := owns_cap hC.jo.row
          obtain ⟨ao2, co, hov⟩ := hC.oo.slice
          subst hov
          simp only [hpl] at *
          obtain ⟨hC1, hLk⟩ := hC.pop
          dsimp only at hLk
          have hD79 := HLD.out.1
          have hFO := HLO.out
          have hk79 : k < 79 := by omega
          have hp79 : P0.length < 79 := by omega
          have hO40 : O.length ≤ 40 := by omega
          have hq40 : ql.length ≤ 40 := by omega
          obtain ⟨xb, xl, xr, xlo, xhi⟩ := x
          dsimp only at hxb
          have HOK := hid (show xb.Ok by rw [hxb]; exact HOKB.out ql)
          have hdx : D.getD k nd0 = ⟨xb, xl, xr, xlo, xhi⟩ := by rw [List.getD_eq_getElem?_getD, hx]; rfl
          have hno : ¬ outD D (k : Int) := fun h => by rcases h with h | h <;> omega
          have HND : Hid (∀ w', Cl wa w' → Ret Tryz.prog 10 #[.pointer (some ⟨t, 0, none⟩), .int .i64 (k : Int)] w' (fun v => v = .tuple #[.agg #[.float .f64 xb.a0, .float .f64 xb.a1, .float .f64 xb.a2, .float .f64 xb.a3, .float .f64 xb.a4, .float .f64 xb.a5, .int .i64 (xl : Nat), .int .i64 (xr : Nat), .int .i64 (xlo : Nat), .int .i64 (xhi : Nat)], .bool true])) := hid (fun w' hw => by
            have h := node_any t D FO (k : Int) w' (HTRa.out.keep hw)
            have e1 : ndAt D (k : Int) = ⟨xb, xl, xr, xlo, xhi⟩ := by unfold ndAt; rw [if_neg hno, Int.toNat_natCast, hdx]
            have e2 : isAt D (k : Int) = true := by unfold isAt; rw [decide_eq_false hno]; rfl
            rw [e1, e2] at h
            exact h)
          have HXX := aside (And.intro hx hxb)
          have HDX := aside hdx
          have HP := hid hP
          have HC := hid hC1
          have HLK := hid hLk
          have HLI := aside hli
          have HZ := aside hz
          have HAQ := hid (fun w' (hw : Cl w w') (hs : Sl w' qa ql.length 1 (lvs ql)) => HAR.out w' hw ql qc qa hs hli (by omega))
          rw [← hxb] at HAQ
          have HAQ2 : Hid (∀ w', Cl w w' → Sl w' qa ql.length 1 (lvs ql) → ∃ y : Bx, Ret Tryz.prog 11 #[.slice ao n cz, .slice qa ql.length qc] w' (fun v => v = .tuple #[.agg #[.float .f64 xb.a0, .float .f64 xb.a1, .float .f64 xb.a2, .float .f64 xb.a3, .float .f64 xb.a4, .float .f64 xb.a5], .agg #[.float .f64 y.a0, .float .f64 y.a1, .float .f64 y.a2, .float .f64 y.a3, .float .f64 y.a4, .float .f64 y.a5]])) := hid (fun w' hw hs => ⟨_, HAQ.out w' hw hs⟩)
          obtain ⟨q1, q2⟩ := wat EJ
          dsimp only at q1 q2
          have hal : Below wi.heap.size wi (wi.alloc (.cells #[.slice qa ql.length qc, .int .i64 (k : Int)] 37)) := (Below.refl _ _).alloc (Nat.le_refl _) _
          have HAL := hid hal
          clear hx hxb hdx hno hP hC hC1 hLk hli hz hlen hwt EJ hal HAQ
          have i0 : ((0 : Int) < (P0.length : Int) + 1) = True := eq_true (by omega)
          have i1 : (0 : Int) ≤ (P0.length : Int) := by omega
          have i2 : (P0.length : Int) < (P0.length : Int) + 1 := by omega
          have i3 : ((k : Int) < 200) = True := eq_true (by omega)
          have i5 : (P0.length : Int) ≤ (cj : Int) := by omega
          have i6 : P0.length ≤ cj := by omega
          have i7 : (P0.length = cj) = False := eq_false (by omega)
          have i8 : ((k : Int) < (D.length : Int)) = True := eq_true (by omega)
          have i9 : ((D.length : Int) ≤ (k : Int)) = False := eq_false (by omega)
          go_wp2_with fail
          refine Lp.settleC (fun w' => JbC wa w' gD P0 (.slice (some ⟨gJ, 0, none⟩) P0.length cj) (.slice ao2 O.length co) D O ∧ Lk w' (.slice (some ⟨gJ, 0, none⟩) P0.length cj) (.slice ao2 O.length co) qa ql ∧ Lp.Bk w' wi.heap.size #[.slice qa ql.length qc, .int .i64 (k : Int)] 37) ⟨HC.out.keep HAL.out, HLK.out.keep HAL.out, Lp.Bk.al _ _ _⟩ ?_
          clear q1 q2 HC HLK HAL
          rintro v1 ⟨hC, hLK, BJ⟩
          refine Calls.mono (HND.out _ hC.cl) ?_
          rintro e v2 ⟨v, rfl, rfl, hm⟩
          have HC := hid (hC.keep hm)
          have HLK := hid (hLK.keep hm)
          replace BJ := BJ.keep hm
          clear hm hC hLK HND
          have kJ := BJ.cell
          have lJ := BJ.lt
          have nJ : (wi.heap.size = v2.heap.size) = False := eq_false (by omega)
          have nJ2 : (v2.heap.size = wi.heap.size) = False := eq_false (by omega)
          go_wp2_with fail
          refine Lp.settleC (fun w' => JbC wa w' gD P0 (.slice (some ⟨gJ, 0, none⟩) P0.length cj) (.slice ao2 O.length co) D O ∧ Lk w' (.slice (some ⟨gJ, 0, none⟩) P0.length cj) (.slice ao2 O.length co) qa ql ∧ Lp.Bk w' wi.heap.size #[.slice qa ql.length qc, .int .i64 (k : Int)] 37 ∧ Lp.Bk w' v2.heap.size #[.float .f64 xb.a0, .float .f64 xb.a1, .float .f64 xb.a2, .float .f64 xb.a3, .float .f64 xb.a4, .float .f64 xb.a5, .int .i64 (xl : Nat), .int .i64 (xr : Nat), .int .i64 (xlo : Nat), .int .i64 (xhi : Nat)] 44) ⟨HC.out.keep ((Below.refl _ _).alloc (Nat.le_refl _) _), HLK.out.keep ((Below.refl _ _).alloc (Nat.le_refl _) _), BJ.alo _, Lp.Bk.al _ _ _⟩ ?_
          clear kJ nJ nJ2 HC HLK BJ
          rintro v3 ⟨hC, hLK, BJ, BN⟩
          obtain ⟨y, hAR⟩ := HAQ2.out v3 (HBa.out.call hC.cl) hLK.sl
          refine Calls.mono hAR ?_
          rintro e v4 ⟨v, rfl, rfl, hm⟩
          have HC := hid (hC.keep hm)
          have HLK := hid (hLK.keep hm)
          replace BJ := BJ.keep hm
          replace BN := BN.keep hm
          clear hm hC hLK HAQ2 hAR
          have kN := BN.cell
          have lN := BN.lt
          have nN : (v2.heap.size = v4.heap.size) = False := eq_false (by omega)
          have nN2 : (v2.heap.size = v4.heap.size + 1) = False := eq_false (by omega)
          go_wp2_with fail
          refine Lp.settle (fun w' => JbC wa w' gD P0 (.slice (some ⟨gJ, 0, none⟩) P0.length cj) (.slice ao2 O.length co) D O ∧ Lk w' (.slice (some ⟨gJ, 0, none⟩) P0.length cj) (.slice ao2 O.length co) qa ql ∧ Lp.Bk w' wi.heap.size #[.slice qa ql.length qc, .int .i64 (k : Int)] 37 ∧ Lp.Bk w' v2.heap.size #[.float .f64 xb.a0, .float .f64 xb.a1, .float .f64 xb.a2, .float .f64 xb.a3, .float .f64 xb.a4, .float .f64 xb.a5, .int .i64 (xl : Nat), .int .i64 (xr : Nat), .int .i64 (xlo : Nat), .int .i64 (xhi : Nat)] 44 ∧ Lp.Bk w' v4.heap.size #[.float .f64 xb.a0, .float .f64 xb.a1, .float .f64 xb.a2, .float .f64 xb.a3, .float .f64 xb.a4, .float .f64 xb.a5] 42) ⟨HC.out.keep (((Below.refl _ _).alloc (Nat.le_refl _) _).alloc (by simp) _), HLK.out.keep (((Below.refl _ _).alloc (Nat.le_refl _) _).alloc (by simp) _), (BJ.alo _).alo _, (BN.alo _).alo _, (Lp.Bk.al _ _ _).alo _⟩ ?_
          clear kN lN nN nN2 HC HLK BJ BN
          rintro v5 ⟨hC, hLK, BJ, BN, BB⟩
          have HC := hid hC
          have HLK := hid hLK
          have HBJ := hid BJ
          have HBN := hid BN
          have HBB := hid BB
          clear hC hLK BJ BN BB lJ
          have HIS := hid (fun w' => is4_eq HOK.out.eq w')
          have HNE := fun W => neq_node ⟨xb, xl, xr, xlo, xhi⟩ HOK.out W
          unfold bxv at HIS
          unfold dxv at HNE
          dsimp only at HNE
          apply Lw.region _ _ 23 (by kernel_rfl) (by kernel_rfl) (by kernel_rfl) (Below.refl _ _)
          apply Lw.facts
          · intro w9 hw
            exact And.intro (HBN.out.cl hw).cell (And.intro (HBB.out.cl hw).cell (by have := dat0 (HC.out.nd.keep hw) hkD; rw [HDX.out] at this; exact this))
          intro HF
          iterate 6 (
            apply Lw.one ?_ rfl
            · intro w3 hw
              obtain ⟨f0, f1, ⟨y0, y1, y2, y3, y4, y5, y6, y7, y8, y9⟩⟩ := HF.out _ hw
              go_simp
              exact rfl
            intro K hK
            go_simp
            refine hK.out _ ?_
            clear hK K)
          apply Lw.any rfl
          · intro w9 hw
            go_simp
            exact Lw.ret (HIS.out _)
          intro K hK
          rintro v rfl
          go_simp
          refine hK.out _ ?_
          clear hK K
          iterate 16 (
            apply Lw.one ?_ rfl
            · intro w3 hw
              obtain ⟨f0, f1, ⟨y0, y1, y2, y3, y4, y5, y6, y7, y8, y9⟩⟩ := HF.out _ hw
              go_simp
              exact rfl
            intro K hK
            go_simp
            refine hK.out _ ?_
            clear hK K)
          rotate_left
          exact []
          refine Lw.fin ?_
          intro v6 hm
          replace HC := hid (HC.out.keep hm)
          replace HLK := hid (HLK.out.keep hm)
          replace HBJ := hid (HBJ.out.keep hm)
          replace HBN := hid (HBN.out.keep hm)
          clear hm HF HIS HNE HBB
          have kJ := HBJ.out.cell
          have kN := HBN.out.cell
          by_cases h4 : ql.length ≤ 4
          · have c4 : ((ql.length : Int) ≤ 4) = True := eq_true (by omega)
            obtain ⟨_, hx2, hP2⟩ := HP.out.leaf h4
            have hxe : (⟨xb, xl, xr, xlo, xhi⟩ : Nd) = leafOf (treeT T sur) O.length ql := Option.some.inj (HXX.out.1.symm.trans hx2)
            injection hxe with _ hxl hxr hxlo hxhi
            have hxlo' : xlo = O.length := hxlo
            have hxhi' : xhi = O.length + ql.length := hxhi
            subst hxl hxr
            have f1 : ((xlo : Int) != (O.length : Int)) = false := by simp; omega
            have f1b : ((xlo : Int) == (O.length : Int)) = true := by simp; omega
            have f1c : ((xlo : Int) = (O.length : Int)) = True := eq_true (by omega)
            have f1d : (xlo = O.length) = True := eq_true (by omega)
            have f2 : ((xhi : Int) != (O.length : Int) + (ql.length : Int)) = false := by simp; omega
            have f2b : ((xhi : Int) == (O.length : Int) + (ql.length : Int)) = true := by simp; omega
            have f2c : ((xhi : Int) = (O.length : Int) + (ql.length : Int)) = True := eq_true (by omega)
            have f2d : (xhi = O.length + ql.length) = True := eq_true (by omega)
            have HP2 := hid hP2
            have h44 := aside h4
            clear hx2 hP2 hxlo hxhi hxlo' hxhi' h4 HP
            go_wp2_with fail
            rcases Nat.eq_zero_or_pos ql.length with h0 | h0
            · have hql : ql = [] := List.eq_nil_of_length_eq_zero h0
              subst hql
              rcases HZ.out with hz | ⟨hz1, hz2, hz3⟩
              · exact absurd (hz _ (List.mem_append_right _ (List.mem_singleton.2 rfl))) (Nat.lt_irrefl _)
              subst hz3
              injection hz2 with hz4 hz5 hz6
              subst hz4 hz6
              refine Calls.mono (rise_nil qc qa v6) ?_
              rintro e v7 ⟨rfl, hm⟩
              replace HC := hid (HC.out.keep hm)
              clear hm kJ kN HLK
              simp only [List.length_nil] at *
              go_wp2_with fail
              go_roundg (g1 - 1)
              case measure => have := HK.out; omega
              case rel => exact ⟨k + 1, [], P0, by have := HK.out; omega, by go_num, HP2.out, HC.out, .inl fun p hp => by
                have : P0 = [] := List.eq_nil_of_length_eq_zero (by simpa using hz1)
                rw [this] at hp
                cases hp⟩
            · refine Calls.mono (rise_any ql qc qa v6 HLK.out.sl (by omega)) ?_
              rintro e v7 ⟨v, rfl, hR, hm⟩
              replace HC := hid (HC.out.keep hm)
              obtain ⟨ar, cr, rfl⟩ := hR.slice
              obtain ⟨gr, rfl, _, ER⟩ := owns_els hR.row (fun _ _ => rfl) (by rw [rise_len]; exact h0)
              have hrc := owns_cap hR.row
              have hrl2 := aside (rise_len ql)
              have HER := hid ER
              clear hm kJ kN HLK hR ER
              go_wp2_with ((at_builtin; refine wpList_push _ rfl _ _ 34 rfl 3 iI (.int .i64 0) 1 8 under_ints hI0 hI1 hI2 hI3 rfl (by decide) (.slice ao2 O.length co) O.length (flat O.length (lvs O)) rfl HC.out.oo.row ⟨gr, 0, none⟩ (riseF ql).length cr ((riseF ql).map numV) rfl (by simp) HER.out.news (nums_one _) (max_small (by have := hrl2.out; omega)) (by have := hrl2.out; omega) ?_))
              intro v' w9 hown hg hb
              have HC9 := hid (HC.out.ord (L := riseF ql) hown hg hb)
              clear hown hg hb HC HER
              go_wp2_with fail
              go_roundg (g1 - 1)
              case measure => have := HK.out; omega
              case rel => exact ⟨k + 1, O ++ riseF ql, P0, by have := HK.out; omega, by go_num, HP2.out, HC9.out, .inl fun p hp => by
                rcases HZ.out with hz | ⟨hz1, _⟩
                · exact hz p (List.mem_append_left _ hp)
                · have : P0 = [] := List.eq_nil_of_length_eq_zero (by simpa using hz1)
                  rw [this] at hp
                  cases hp⟩
          · have c4 : ((ql.length : Int) ≤ 4) = False := eq_false (by omega)
            have h44 : 4 < ql.length := by omega
            have HPN := aside (fun a1 a2 c1 c2 => HP.out.node h44 a1 a2 c1 c2)
            obtain ⟨_, hx2, _⟩ := HPN.out none none 0 0
            have hxe := Option.some.inj (HXX.out.1.symm.trans hx2)
            injection hxe with _ hxl hxr hxlo hxhi
            dsimp only at hxl hxr
            subst hxlo hxhi
            have H1 := aside (show 0 < (partT T sur ql).1.length from (treeT T sur).one ql h44)
            have H2 := aside (show 0 < (partT T sur ql).2.length from (treeT T sur).two ql h44)
            have hsz := sz_pos (treeT T sur) ((treeT T sur).part ql).1
            have hxl' : xl = k + 1 := hxl
            have hxr' : xl < xr := by omega
            have hxr5 : xr < 1000 := by
              have h := HPN.out none none 0 0
              have h2 := h.2.2.wait
              have h3 := sz_le (treeT T sur) ((treeT T sur).part ql).1
              have h5 := (treeT T sur).sum h44
              omega
            have HXL := aside (And.intro hxl hxr)
            have f1 : ((xl : Int) != (k : Int) + 1) = false := by simp; omega
            have f1b : ((xl : Int) == (k : Int) + 1) = true := by simp; omega
            have f1c : ((xl : Int) = (k : Int) + 1) = True := eq_true (by omega)
            have f1d : (xl = k + 1) = True := eq_true (by omega)
            have f2 : ((xr : Int) ≤ (xl : Int)) = False := eq_false (by omega)
            have f2b : (xr ≤ xl) = False := eq_false (by omega)
            have hwq : IntKind.i64.wrap ((k : Int) + 1) = (k : Int) + 1 := by rw [IntKind.wrap_i64]; omega
            have H44 := aside h44
            clear hx2 hxl hxr hxl' hxr' hsz h4 HP
            go_wp2_with fail
            refine Calls.mono (HPA.out _ (HBa.out.call HC.out.cl) ql qc qa HLK.out.sl HLI.out h44 (by omega)) ?_
            rintro e v7 ⟨v, rfl, aX, cX, aY, cY, rfl, hX, hY, hXg, hYg, hm⟩
            have hjl := HC.out.jo.lt
            have hol := HC.out.oo.lt
            replace HC := hid (HC.out.keep hm)
            replace HBN := hid (HBN.out.keep hm)
            have HLX := hid (Lk.of hX hXg hjl hol)
            have HLY := hid (Lk.of hY hYg hjl hol)
            clear hm kJ kN HLK hX hY hXg hYg hjl hol HBJ
            have kN := HBN.out.cell
            have HPX := aside (HPN.out aX aY cX cY).2.2
            have HPX : Aside (JbP (treeT T sur) n D FO (k + 1) O (P0 ++ [⟨aY, cY, (partT T sur ql).2, xr⟩, ⟨aX, cX, (partT T sur ql).1, xl⟩])) := aside (by
              have h := HPX.out
              rw [HXL.out.2, HXL.out.1]
              exact h)
            generalize (partT T sur ql).1 = X at *
            generalize (partT T sur ql).2 = Y at *
            have hal : Below v7.heap.size v7 (v7.alloc (.cells #[.slice aY Y.length cY, .int .i64 (xr : Nat), .slice aX X.length cX, .int .i64 (xl : Nat)] 37)) := (Below.refl _ _).alloc (Nat.le_refl _) _
            have HAL := hid hal
            have hlN : v2.heap.size < v7.heap.size := HBN.out.lt
            have nN : (v2.heap.size = v7.heap.size) = False := eq_false (by omega)
            clear hal HPN
            go_wp2_with ((at_builtin; refine wpList_push _ rfl _ _ 38 rfl 37 iJ (.agg #[.slice none 0 0, .int .i64 0]) 2 32 under_jobs hJ0 hJ1 hJ2 hJ3 rfl (by decide) (.slice (some ⟨gJ, 0, none⟩) P0.length cj) P0.length (flat P0.length (pds P0)) rfl (HC.out.keep HAL.out).jo.row ⟨v7.heap.size, 0, none⟩ 2 2 (pcl ⟨aY, cY, Y, xr⟩ ++ pcl ⟨aX, cX, X, xl⟩) rfl rfl (cells_at0 (xs := pcl ⟨aY, cY, Y, xr⟩ ++ pcl ⟨aX, cX, X, xl⟩) (Lp.Bk.al v7 _ _)) (fun u hu => (List.mem_append.1 hu).elim (pcl_one _ u) (pcl_one _ u)) (max_small (by omega)) (by omega) ?_))
            intro v' w9 hown hg hb
            have hb' : Newer (v7.alloc (.cells #[.slice aY Y.length cY, .int .i64 (xr : Nat), .slice aX X.length cX, .int .i64 (xl : Nat)] 37)) (.slice (some ⟨gJ, 0, none⟩) P0.length cj) v' := hb.imp id fun h g e => by have := h g e; simp at this ⊢; omega
            have HC9 := hid ((HC.out.keep HAL.out).job (x := ⟨aY, cY, Y, xr⟩) (y := ⟨aX, cX, X, xl⟩) hown hg hb' ((HLY.out.keep HAL.out)) ((HLX.out.keep HAL.out)))
            clear hown hg hb hb' HC HAL kN HLX HLY
            go_wp2_with fail
            go_roundg (g1 - 1)
            case measure => have := HK.out; omega
            case rel => exact ⟨k + 1, O, P0 ++ [⟨aY, cY, Y, xr⟩, ⟨aX, cX, X, xl⟩], by have := HK.out; omega, by go_num, HPX.out, HC9.out, .inl fun p hp => by
              rcases List.mem_append.1 hp with hp | hp
              · rcases HZ.out with hz | ⟨hz1, _⟩
                · exact hz p (List.mem_append_left _ hp)
                · have : P0 = [] := List.eq_nil_of_length_eq_zero (by simpa using hz1)
                  rw [this] at hp
                  cases hp
              · simp only [List.mem_cons, List.not_mem_nil, or_false] at hp
                rcases hp with rfl | rfl
                · exact H2.out
                · exact H1.out⟩

end Go.Proofs.YtijoaklknpkdoaaGreat

namespace Go.Proofs.YtijoaklknpkdoaaGreat
open Go.RowKit Fl Lm

set_option maxRecDepth 100000 in
set_option maxHeartbeats 1000000 in
theorem builds_big (sur : Bool) (n cz : Nat) (ao : Option Addr) (w : World) (hn : 512 < n) : Ret Tryz.prog 3 #[.slice ao n cz, .bool sur] w (fun v => v = .bool true) := by
  unfold Ret
  have hc : (512 < (n : Int)) = True := eq_true (by omega)
  go_enter Tryz.func3, Tryz.ntmps3
  go_wp2_with fail
  refine Calls.mono (new_big n cz ao sur w hn) ?_
  rintro e w1 ⟨rfl, hm⟩
  have HB : Cl w w1 := hm
  clear hm
  go_wp2_with fail
  refine Calls.mono (awake_any _) ?_
  rintro e w2 ⟨v, rfl, rfl, hm⟩
  replace HB := HB.call hm
  clear hm
  go_wp2_with fail
  exact bodyPost_ret (v := .bool true) (by simp [results, go_sem]) rfl ⟨_, rfl, rfl, HB⟩

set_option maxRecDepth 100000 in
set_option maxHeartbeats 1000000 in
theorem builds_bad (T : Nat → Tr) (sur : Bool) (n cz : Nat) (ao : Option Addr) (w : World) (hL : Sl w ao n 9 fun i => tcs (T i)) (hn : n ≤ 512) (hbad : ∃ i, i < n ∧ (T i).mayB = false) : Ret Tryz.prog 3 #[.slice ao n cz, .bool sur] w (fun v => v = .bool true) := by
  unfold Ret
  have hc : (512 < (n : Int)) = False := eq_false (by omega)
  have HNEW := hid (new_bad T sur n cz ao w hL hn hbad)
  have HL := hid hL
  have HBAD := aside hbad
  clear hL hbad
  go_enter Tryz.func3, Tryz.ntmps3
  go_wp2_with fail
  refine Calls.mono HNEW.out ?_
  rintro e w1 ⟨rfl, hm⟩
  have HB1 := hid (hm : Cl w w1)
  clear hm HNEW
  go_wp2_with fail
  go_loopg [7] n (fun k i wr => ∃ j : Nat, k + j = n ∧ i = .int .i64 (j : Int) ∧ (∀ q, q < j → (T q).mayB = true) ∧ Cl w1 wr)
  case atStart => exact ⟨0, Nat.add_zero _, rfl, fun q hq => absurd hq (Nat.not_lt_zero q), Below.refl _ _⟩
  case round =>
    obtain ⟨g0, hg0⟩ : ∃ g0, g0 = gk := ⟨_, rfl⟩
    subst hg0
    obtain ⟨wo, hwo⟩ : ∃ wo, wo = wr := ⟨_, rfl⟩
    subst hwo
    obtain ⟨j, hk, rfl, hA, HB⟩ := hrel
    have HK := aside hk
    have HA := aside hA
    clear hk hA
    by_cases hj : j < n
    · have hd : ((j : Int) < (n : Int)) = True := eq_true (by omega)
      obtain ⟨g, o, rfl, E⟩ := (HL.out.keep (HB1.out.call HB)).get hj
      obtain ⟨k0, k1, k2, k3, k4, k5, k6, k7, k8⟩ := tat E hj
      have hj5 : j < 512 := by omega
      have HMAY := hid (fun w' => rmay_any (T j) w')
      have hjl := aside hj
      unfold txv at HMAY
      clear E hj
      cases hmy : (T j).mayB with
      | true =>
        rw [hmy] at HMAY
        have HMY := aside hmy
        clear hmy
        go_wp2_with fail
        refine Calls.mono (HMAY.out _) ?_
        rintro e w2 ⟨v, rfl, rfl, hm⟩
        replace HB := HB.call hm
        clear hm k0 k1 k2 k3 k4 k5 k6 k7 k8 HMAY
        go_wp2_with fail
        go_roundg (g0 - 1)
        case measure => have := HK.out; have := hjl.out; omega
        case rel => exact ⟨j + 1, by have := HK.out; have := hjl.out; omega, by go_num, fun q hq => by
          rcases Nat.lt_or_ge q j with h | h
          · exact HA.out q h
          · have e : q = j := by omega
            rw [e]; exact HMY.out, HB⟩
      | false =>
        rw [hmy] at HMAY
        clear hmy
        go_wp2_with fail
        refine Calls.mono (HMAY.out _) ?_
        rintro e w2 ⟨v, rfl, rfl, hm⟩
        replace HB := HB.call hm
        clear hm k0 k1 k2 k3 k4 k5 k6 k7 k8 HMAY
        go_wp2_with fail
        refine Calls.mono (awake_any _) ?_
        rintro e w3 ⟨v, rfl, rfl, hm⟩
        replace HB := HB.call hm
        clear hm
        go_wp2_with fail
        exact bodyPost_ret (v := .bool true) (by simp [results, go_sem]) rfl ⟨_, rfl, rfl, HB1.out.call HB⟩
    · exfalso
      obtain ⟨i, hi, hf⟩ := HBAD.out
      have := HA.out i (by have := HK.out; omega)
      rw [hf] at this
      cases this

set_option maxRecDepth 100000 in
set_option maxHeartbeats 1000000 in
theorem builds_mid (T : Nat → Tr) (hT : ∀ i, (T i).Mo) (sur : Bool) (n cz : Nat) (ao : Option Addr) (w : World) (hL : Sl w ao n 9 fun i => tcs (T i)) (hn : n ≤ 512) (h40 : 40 < n) (hmay : ∀ i, i < n → (T i).mayB = true) : Ret Tryz.prog 3 #[.slice ao n cz, .bool sur] w (fun v => v = .bool true) := by
  unfold Ret
  have hc : (512 < (n : Int)) = False := eq_false (by omega)
  have HNEW := hid (new_any T hT sur n cz ao w hL (by omega) hmay)
  have HL := hid hL
  have HMY := aside hmay
  have hc4 : (40 < (n : Int)) = True := eq_true (by omega)
  clear hL hT hmay
  go_enter Tryz.func3, Tryz.ntmps3
  go_wp2_with fail
  refine Calls.mono HNEW.out ?_
  rintro e w1 ⟨t, rfl, hTR, _, hm⟩
  have HB1 := hid (hm : Cl w w1)
  have HTR1 := hid hTR
  clear hm HNEW hTR
  go_wp2_with fail
  go_loopg [7] n (fun k i wr => ∃ j : Nat, k + j = n ∧ i = .int .i64 (j : Int) ∧ Cl w1 wr)
  case atStart => exact ⟨0, Nat.add_zero _, rfl, Below.refl _ _⟩
  case round =>
    obtain ⟨g0, hg0⟩ : ∃ g0, g0 = gk := ⟨_, rfl⟩
    subst hg0
    obtain ⟨wo, hwo⟩ : ∃ wo, wo = wr := ⟨_, rfl⟩
    subst hwo
    obtain ⟨j, hk, rfl, HB⟩ := hrel
    have HK := aside hk
    clear hk
    by_cases hj : j < n
    · have hd : ((j : Int) < (n : Int)) = True := eq_true (by omega)
      obtain ⟨g, o, rfl, E⟩ := (HL.out.keep (HB1.out.call HB)).get hj
      obtain ⟨k0, k1, k2, k3, k4, k5, k6, k7, k8⟩ := tat E hj
      have hj5 : j < 512 := by omega
      have HMAY := hid (fun w' => rmay_any (T j) w')
      have hjl := aside hj
      unfold txv at HMAY
      rw [HMY.out j hj] at HMAY
      clear E hj
      go_wp2_with fail
      refine Calls.mono (HMAY.out _) ?_
      rintro e w2 ⟨v, rfl, rfl, hm⟩
      replace HB := HB.call hm
      clear hm k0 k1 k2 k3 k4 k5 k6 k7 k8 HMAY
      go_wp2_with fail
      go_roundg (g0 - 1)
      case measure => have := HK.out; have := hjl.out; omega
      case rel => exact ⟨j + 1, by have := HK.out; have := hjl.out; omega, by go_num, HB⟩
    · have hd : ((j : Int) < (n : Int)) = False := eq_false (by omega)
      have hjn : n = j := by have := HK.out; omega
      clear hj HK HMY
      subst hjn
      go_wp2_with fail
      refine Calls.mono (awake_any _) ?_
      rintro e w3 ⟨v, rfl, rfl, hm⟩
      replace HB := HB.call hm
      clear hm
      go_wp2_with fail
      exact bodyPost_ret (v := .bool true) (by simp [results, go_sem]) rfl ⟨_, rfl, rfl, HB1.out.call HB⟩

end Go.Proofs.YtijoaklknpkdoaaGreat
