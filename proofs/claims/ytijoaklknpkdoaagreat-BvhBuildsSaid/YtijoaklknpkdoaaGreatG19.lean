/- The reference: Parted. BvhBuilds: what the law's walk knows in each round: the jobs, the order, the nodes told. -/
import Derived.Test.YtijoaklknpkdoaaGreatG18
import Derived.Test.YtijoaklknpkdoaaGreatG17
namespace Go.Proofs.YtijoaklknpkdoaaGreat
open Go.RowKit Fl Lm

/-- A list that a call told, in blocks from N on. -/
def OneL (N : Nat) (w : World) (v : Value) (x : List Nat) : Prop := ∃ a c n, v = .slice a n c ∧ n = x.length ∧ Sl w a x.length 1 (lvs x) ∧ ∀ g o, a = some ⟨g, o, none⟩ → N ≤ g
theorem OneL.along {N : Nat} {w w' : World} {v : Value} {x : List Nat} (h : OneL N w v x) (hb : Below w.heap.size w w') : OneL N w' v x := by
  obtain ⟨a, c, n, e, hn, h1, h2⟩ := h
  exact ⟨a, c, n, e, hn, h1.keep hb, h2⟩
theorem OneL.of {N M : Nat} {w : World} {v : Value} {x : List Nat} (h : Own N w 3 1 v x.length (lvs x)) (hm : M ≤ N) : OneL M w v x := by
  obtain ⟨a, c, rfl⟩ := h.slice
  exact ⟨a, c, _, rfl, rfl, h.sl (fun _ _ => rfl), fun g o e => by subst e; exact Nat.le_trans hm (h.lo g rfl)⟩

set_option maxRecDepth 100000 in
set_option maxHeartbeats 1000000 in
theorem rparted_any (T : Nat → Tr) (hT : ∀ i, (T i).Mo) (sur : Bool) (n cz cl : Nat) (az ao : Option Addr) (l : List Nat) (w : World) (hZ : Sl w az n 9 fun i => tcs (T i)) (hL : Sl w ao l.length 1 (lvs l)) (hl : ∀ i, i ∈ l → i < n) (hn : n ≤ 512) (h4 : 4 < l.length) (h5 : l.length ≤ 512) :
    Calls Tryz.prog 14 #[.slice az n cz, .slice ao l.length cl, .bool sur] w fun e w' => ∃ v, e = .returned v ∧ TwoL w w' v (partT T sur l).1 (partT T sur l).2 := by
  have HAR : Hid (∀ w', Below w.heap.size w w' → ∀ (s : List Nat) (c q : Nat) (a : Option Addr), q = s.length → Sl w' a s.length 1 (lvs s) → (∀ i, i ∈ s → i < n) → s.length ≤ 512 →
      Ret Tryz.prog 11 #[.slice az n cz, .slice a q c] w' (fun v => v = .tuple #[.agg #[.float .f64 (bxs T s).a0, .float .f64 (bxs T s).a1, .float .f64 (bxs T s).a2, .float .f64 (bxs T s).a3, .float .f64 (bxs T s).a4, .float .f64 (bxs T s).a5], .agg #[.float .f64 (mds T s).a0, .float .f64 (mds T s).a1, .float .f64 (mds T s).a2, .float .f64 (mds T s).a3, .float .f64 (mds T s).a4, .float .f64 (mds T s).a5]])) := hid (fun w' hw s c q a hq hs hsn hs5 => by
    subst hq
    exact raround_any T hT n cz c az a s w' (hZ.keep hw) hs hsn hn hs5)
  have HLG : Hid (∀ w', Ret Tryz.prog 31 #[.agg #[.float .f64 (mds T l).a0, .float .f64 (mds T l).a1, .float .f64 (mds T l).a2, .float .f64 (mds T l).a3, .float .f64 (mds T l).a4, .float .f64 (mds T l).a5]] w' (fun v => v = .int .i64 (axT T l : Int))) := hid (fun w' => rlongest_any (mds T l) w')
  have HPL : Hid (∀ w', Ret Tryz.prog 32 #[.agg #[.float .f64 (mds T l).a0, .float .f64 (mds T l).a1, .float .f64 (mds T l).a2], .int .i64 (axT T l : Int)] w' (fun v => v = .float .f64 (loT T l))) := hid (fun w' => rpart_any _ _ _ _ w')
  have HPH : Hid (∀ w', Ret Tryz.prog 32 #[.agg #[.float .f64 (mds T l).a3, .float .f64 (mds T l).a4, .float .f64 (mds T l).a5], .int .i64 (axT T l : Int)] w' (fun v => v = .float .f64 (hiT T l))) := hid (fun w' => rpart_any _ _ _ _ w')
  have HA1 : Hid ((ford (hiT T l) (loT T l) == some .gt) = true → ∀ (k : Nat) w', Below w.heap.size w w' → Calls Tryz.prog 33 #[.slice az n cz, .slice ao l.length cl, .agg #[.float .f64 (mds T l).a0, .float .f64 (mds T l).a1, .float .f64 (mds T l).a2, .float .f64 (mds T l).a3, .float .f64 (mds T l).a4, .float .f64 (mds T l).a5], .int .i64 (axT T l : Int), .int .i64 (k : Int), .bool true] w' fun e w'' => ∃ v, e = .returned v ∧ OneL w'.heap.size w'' v (leftT T l k) ∧ Cl w' w'') := hid (fun ha k w' hw => by
    refine Calls.mono (rat_any T hT n cz cl k az ao l true w' (hZ.keep hw) (hL.keep hw) hl hn (by omega) h5 ha) ?_
    rintro e w'' ⟨v, rfl, hO, hm⟩
    rw [left_filter] at hO
    exact ⟨v, rfl, OneL.of hO (Nat.le_refl _), hm⟩)
  have HA2 : Hid ((ford (hiT T l) (loT T l) == some .gt) = true → ∀ (k : Nat) w', Below w.heap.size w w' → Calls Tryz.prog 33 #[.slice az n cz, .slice ao l.length cl, .agg #[.float .f64 (mds T l).a0, .float .f64 (mds T l).a1, .float .f64 (mds T l).a2, .float .f64 (mds T l).a3, .float .f64 (mds T l).a4, .float .f64 (mds T l).a5], .int .i64 (axT T l : Int), .int .i64 (k : Int), .bool false] w' fun e w'' => ∃ v, e = .returned v ∧ OneL w'.heap.size w'' v (restT T l k) ∧ Cl w' w'') := hid (fun ha k w' hw => by
    refine Calls.mono (rat_any T hT n cz cl k az ao l false w' (hZ.keep hw) (hL.keep hw) hl hn (by omega) h5 ha) ?_
    rintro e w'' ⟨v, rfl, hO, hm⟩
    rw [rest_filter] at hO
    exact ⟨v, rfl, OneL.of hO (Nat.le_refl _), hm⟩)
  have HSO : Hid (∀ w', Below w.heap.size w w' → Calls Tryz.prog 35 #[.slice az n cz, .slice ao l.length cl, .int .i64 (axT T l : Int)] w' fun e w'' => ∃ v, e = .returned v ∧ Own w'.heap.size w'' 3 1 v (medT T l).length (lvs (medT T l)) ∧ Cl w' w'') := hid (fun w' hw => rsorted_any T hT n cz cl (axT T l) az ao l w' (hZ.keep hw) (hL.keep hw) hl hn h5)
  have HPS := aside (fun ha => part_sur hT (s := l) (by omega) h5 ha)
  have HPM := aside (fun hs => part_med (T := T) (s := l) (sur := sur) hs)
  have HCS := aside (fun ha k k1 k7 => costs_same hT (s := l) (by omega) h5 ha (k := k) k1 k7)
  have HL1 := aside (fun k i (h : i ∈ leftT T l k) => hl i (List.mem_filter.1 h).1)
  have HL2 := aside (fun k i (h : i ∈ restT T l k) => hl i (List.mem_filter.1 h).1)
  have HN1 := aside (fun k => (Nat.le_trans (List.length_filter_le _ _) h5 : (leftT T l k).length ≤ 512))
  have HN2 := aside (fun k => (Nat.le_trans (List.length_filter_le _ _) h5 : (restT T l k).length ≤ 512))
  have HBM := aside (fun (s : List Nat) h => bxs_mo hT (s := s) h)
  have HHF : Hid (∀ (s : List Nat), 0 < s.length → ∀ w', Ret Tryz.prog 34 #[.agg #[.float .f64 (bxs T s).a0, .float .f64 (bxs T s).a1, .float .f64 (bxs T s).a2, .float .f64 (bxs T s).a3, .float .f64 (bxs T s).a4, .float .f64 (bxs T s).a5]] w' (fun v => v = .float .f64 (bxs T s).halfw)) := hid (fun s h w' => rhalf_any (bxs_mo hT h) w')
  have HML := aside (show (medT T l).length = l.length from (med_perm _ l).length_eq)
  have h0 : Sl w ao l.length 1 (lvs l) ∧ (∀ i, i ∈ l → i < n) := ⟨hL, hl⟩
  have HAR0 := hid (HAR.out w (Below.refl _ _) l cl l.length ao rfl h0.1 h0.2 h5)
  have HLL := aside (And.intro h4 h5)
  clear hZ hL hl h0 h4 h5 hT
  generalize hM : mds T l = M at *
  clear hM
  generalize axT T l = ax at *
  generalize hlo : loT T l = lo at *
  generalize hhi : hiT T l = hi at *
  clear hlo hhi
  go_enter Tryz.func14, Tryz.ntmps14
  go_wp2_with fail
  refine Calls.mono HAR0.out ?_
  rintro e w1 ⟨v, rfl, rfl, hm⟩
  have HB : Cl w w1 := hm
  clear hm HAR0
  go_wp2_with fail
  refine Lp.settleC (fun w' => Lp.Bk w' (w1.heap.size + 1) #[.float .f64 M.a0, .float .f64 M.a1, .float .f64 M.a2, .float .f64 M.a3, .float .f64 M.a4, .float .f64 M.a5] 42 ∧ Cl w w') ⟨Lp.Bk.al1 _ _ _ _, (HB.alloc _).alloc _⟩ ?_
  clear HB
  rintro v2 ⟨BM, HB⟩
  refine Calls.mono (HLG.out _) ?_
  rintro e v3 ⟨v, rfl, rfl, hm⟩
  have hw1 : w1.heap.size + 1 < v3.heap.size := (BM.keep hm).lt
  have HBM0 := hid (BM.keep hm)
  have HB0 := hid (HB.call hm)
  clear hm HLG BM HB
  by_cases hcs : sur = true ∧ (ford hi lo == some .gt) = true
  · obtain ⟨rfl, hgt⟩ := hcs
    have HA1 := hid (HA1.out hgt)
    have HA2 := hid (HA2.out hgt)
    have HPS := aside (HPS.out hgt)
    have HCS := aside (HCS.out hgt)
    clear HPM HSO HML
    have hp : (FloatKind.f64.format.order hi lo == some .gt) = true := hgt
    have HGT := aside hgt
    clear hgt
    generalize hC : costR T l = C at *
    have HC := aside hC
    clear hC
    go_wp2_with fail
    go_loopg [11, 12, 13] 7 (fun kk b le k wr => ∃ j : Nat, kk + j = 7 ∧ k = .int .i64 ((j + 1 : Nat) : Int) ∧ b = .int .i64 ((bestR C j).1 : Nat) ∧ le = .float .f64 (bestR C j).2 ∧ Lp.Bk wr (w1.heap.size + 1) #[.float .f64 M.a0, .float .f64 M.a1, .float .f64 M.a2, .float .f64 M.a3, .float .f64 M.a4, .float .f64 M.a5] 42 ∧ Cl w wr)
    case atStart => exact ⟨0, rfl, rfl, rfl, rfl, HBM0.out, HB0.out⟩
    case round =>
      clear HBM0 HB0
      obtain ⟨g0, hg0⟩ : ∃ g0, g0 = gk := ⟨_, rfl⟩
      subst hg0
      obtain ⟨wo, hwo⟩ : ∃ wo, wo = wr := ⟨_, rfl⟩
      subst hwo
      obtain ⟨j, hk, rfl, rfl, rfl, BM, HB⟩ := hrel
      have HK := aside hk
      have hj7 : j ≤ 7 := by omega
      clear hk
      have HBM1 := hid BM
      have HBB := hid HB
      clear BM HB
      have HBP := aside (bestR_pos C j)
      have HBS := aside (show bestR C (j + 1) = if (bestR C j).1 == 0 || ford (C (j + 1)) (bestR C j).2 == some .lt then (j + 1, C (j + 1)) else bestR C j from rfl)
      by_cases hj : j < 7
      · have hd : (((j + 1 : Nat) : Int) < 8) = True := eq_true (by omega)
        have hd2 : ((j : Int) + 1 < 8) = True := eq_true (by omega)
        have hjl := aside hj
        clear HPS
        go_wp2_with fail
        apply Lw.region _ _ 16 (by kernel_rfl) (by kernel_rfl) (by kernel_rfl) (Below.refl _ _)
        apply Lw.facts
        · intro w9 hw
          exact (HBM1.out.cl hw).cell
        intro HF
        iterate 9 (
          apply Lw.one ?_ rfl
          · intro w3 hw
            have k0 := HF.out _ hw
            go_simp
            exact rfl
          intro K hK
          go_simp
          refine hK.out _ ?_
          clear hK K)
        apply Lw.any rfl
        · intro w9 hw
          go_simp
          exact Lw.ret (HPH.out _)
        intro K hK
        rintro v rfl
        go_simp
        refine hK.out _ ?_
        clear hK K
        iterate 3 (
          apply Lw.one ?_ rfl
          · intro w3 hw
            have k0 := HF.out _ hw
            go_simp
            exact rfl
          intro K hK
          go_simp
          refine hK.out _ ?_
          clear hK K)
        apply Lw.any rfl
        · intro w9 hw
          go_simp
          exact Lw.ret (HPL.out _)
        intro K hK
        rintro v rfl
        go_simp
        refine hK.out _ ?_
        clear hK K
        iterate 2 (
          apply Lw.one ?_ rfl
          · intro w3 hw
            have k0 := HF.out _ hw
            go_simp
            exact rfl
          intro K hK
          go_simp
          refine hK.out _ ?_
          clear hK K)
        rotate_left
        exact []
        refine Lw.fin ?_
        intro w4 hm
        replace HBM1 := hid (HBM1.out.keep hm)
        replace HBB := hid (HBB.out.call hm)
        clear hm HF
        have kM := HBM1.out.cell
        go_wp2_with fail
        refine Calls.mono (HA1.out (j + 1) _ HBB.out) ?_
        rintro e w5 ⟨v, rfl, ⟨aX, cX, x, rfl, hX, hSX, _⟩, hm⟩
        have HX0 := aside hX
        clear hX
        replace HBM1 := hid (HBM1.out.keep hm)
        replace HBB := hid (HBB.out.call hm)
        have HSX := hid hSX
        clear hm kM hSX
        have kM := HBM1.out.cell
        go_wp2_with fail
        refine Calls.mono (HA2.out (j + 1) _ HBB.out) ?_
        rintro e w6 ⟨v, rfl, ⟨aY, cY, y, rfl, hY, hSY, _⟩, hm⟩
        have HY0 := aside hY
        clear hY
        replace HBM1 := hid (HBM1.out.keep hm)
        replace HBB := hid (HBB.out.call hm)
        replace HSX := hid (HSX.out.keep hm)
        have HSY := hid hSY
        clear hm kM hSY
        have hX := HX0.out
        have hY := HY0.out
        have hcs := HCS.out (j + 1) (by omega) (by omega)
        have px := hcs.2.2.2.1
        have py := hcs.2.2.2.2
        have hx5 := HN1.out (j + 1)
        have hy5 := HN2.out (j + 1)
        have mX := HBM.out _ px
        have mY := HBM.out _ py
        have hmx := HL1.out (j + 1)
        have hmy := HL2.out (j + 1)
        have hCj : C (j + 1) = fadd (costF (bxs T (leftT T l (j + 1))) (leftT T l (j + 1)).length) (costF (bxs T (restT T l (j + 1))) (restT T l (j + 1)).length) := by rw [← HC.out]; rfl
        have HX1 := hid (HHF.out _ px)
        have HX2 := hid (HHF.out _ py)
        have ne := ofint_val (n := ((leftT T l (j + 1)).length : Int)) (by omega) (by omega)
        have nf := ofint_val (n := ((restT T l (j + 1)).length : Int)) (by omega) (by omega)
        have c1 := (cost_num mX hx5).1
        have c2 := (cost_num mY hy5).1
        have HD1 := hid (fun w => run_mul_num (P := Tryz.prog) (w := w) 29 mX.halfw.1 ne.1)
        have HD2 := hid (fun w => run_mul_num (P := Tryz.prog) (w := w) 29 mY.halfw.1 nf.1)
        have HD3 := hid (fun w => run_add_num (P := Tryz.prog) (w := w) 29 c1 c2)
        unfold costF at HD3 hCj
        rw [← hX] at HD1 HD3 hCj
        rw [← hY] at HD2 HD3 hCj
        generalize hgX : leftT T l (j + 1) = X at *
        generalize hgY : restT T l (j + 1) = Y at *
        clear hgX hgY ne nf c1 c2 mX mY hcs
        have HARX := hid (fun w' hw (hs : Sl w' aX X.length 1 (lvs X)) => HAR.out w' hw X cX x aX hX hs hmx hx5)
        have HARY := hid (fun w' hw (hs : Sl w' aY Y.length 1 (lvs Y)) => HAR.out w' hw Y cY y aY hY hs hmy hy5)
        have x0 : ((x : Int) = 0) = False := eq_false (by omega)
        have x1 : (x = 0) = False := eq_false (by omega)
        have y0 : ((y : Int) = 0) = False := eq_false (by omega)
        have y1 : (y = 0) = False := eq_false (by omega)
        have x2 : ((x : Int) == 0) = false := by simp; omega
        have x3 : (x == 0) = false := by simp; omega
        have y2 : ((y : Int) == 0) = false := by simp; omega
        have y3 : (y == 0) = false := by simp; omega
        have xp : 0 < x := by omega
        have yp : 0 < y := by omega
        clear px py hX hY HX0 HY0 hx5 hy5 hmx hmy
        generalize bxs T X = bX at *
        generalize bxs T Y = bY at *
        generalize (mds T X) = eX at *
        generalize (mds T Y) = eY at *
        go_wp2_with fail
        refine Calls.mono (HARX.out _ HBB.out HSX.out) ?_
        rintro e w7 ⟨v, rfl, rfl, hm⟩
        replace HBM1 := hid (HBM1.out.keep hm)
        replace HBB := hid (HBB.out.call hm)
        replace HSY := hid (HSY.out.keep hm)
        clear hm HARX HSX x0 x1 y0 y1 xp yp x2 x3 y2 y3
        have hl7 : w1.heap.size + 1 < w7.heap.size := HBM1.out.lt
        go_wp2_with fail
        refine Lp.settleC (fun w' => Lp.Bk w' (w1.heap.size + 1) #[.float .f64 M.a0, .float .f64 M.a1, .float .f64 M.a2, .float .f64 M.a3, .float .f64 M.a4, .float .f64 M.a5] 42 ∧ Lp.Bk w' w7.heap.size #[.float .f64 bX.a0, .float .f64 bX.a1, .float .f64 bX.a2, .float .f64 bX.a3, .float .f64 bX.a4, .float .f64 bX.a5] 42 ∧ Sl w' aY Y.length 1 (lvs Y) ∧ Cl w w') ⟨(HBM1.out.alo _).alo _, (Lp.Bk.al _ _ _).alo _, HSY.out.keep (((Below.refl _ _).alloc (Nat.le_refl _) _).alloc (by simp) _), (HBB.out.alloc _).alloc _⟩ ?_
        clear HBM1 HSY HBB
        rintro w8 ⟨BM, BX, hSY, HB⟩
        refine Calls.mono (HARY.out _ HB hSY) ?_
        rintro e w9 ⟨v, rfl, rfl, hm⟩
        replace BM := BM.keep hm
        replace BX := BX.keep hm
        replace HB := HB.call hm
        clear hm HARY hSY
        have kX := BX.cell
        have lX := BX.lt
        have e1 : (w7.heap.size = w9.heap.size) = False := eq_false (by omega)
        have e2 : (w7.heap.size = w9.heap.size + 1) = False := eq_false (by omega)
        go_wp2_with fail
        refine Lp.settleC (fun w' => Lp.Bk w' (w1.heap.size + 1) #[.float .f64 M.a0, .float .f64 M.a1, .float .f64 M.a2, .float .f64 M.a3, .float .f64 M.a4, .float .f64 M.a5] 42 ∧ Lp.Bk w' w9.heap.size #[.float .f64 bY.a0, .float .f64 bY.a1, .float .f64 bY.a2, .float .f64 bY.a3, .float .f64 bY.a4, .float .f64 bY.a5] 42 ∧ Cl w w') ⟨(BM.alo _).alo _, (Lp.Bk.al _ _ _).alo _, (HB.alloc _).alloc _⟩ ?_
        clear kX lX e1 e2 BM BX HB
        rintro w10 ⟨BM, BY, HB⟩
        refine Calls.mono (HX1.out _) ?_
        rintro e w11 ⟨v, rfl, rfl, hm⟩
        replace BM := BM.keep hm
        replace BY := BY.keep hm
        replace HB := HB.call hm
        clear hm HX1
        have kY := BY.cell
        have d1 := HD1.out
        have dc := fun z w' => convB z w'
        go_wp2_with fail
        refine Calls.mono (HX2.out _) ?_
        rintro e w12 ⟨v, rfl, rfl, hm⟩
        replace BM := BM.keep hm
        replace HB := HB.call hm
        clear hm HX2 kY BY d1 HD1
        have d2 := HD2.out
        have d3 := HD3.out
        generalize hb1 : (bestR C j).1 = b1 at *
        generalize hb2 : (bestR C j).2 = b2 at *
        have HBS2 := HBS.out
        rw [hCj] at HBS2
        generalize fadd (fmul bX.halfw (floatOfInt .f64 (x : Int))) (fmul bY.halfw (floatOfInt .f64 (y : Int))) = cc at *
        have HB1 := aside hb1
        have HB2 := aside hb2
        clear HBS hb1 hb2 hCj
        have HBM3 := hid BM
        have HB3 := hid HB
        clear BM HB
        by_cases hz : b1 = 0
        · have z0 : ((b1 : Int) = 0) = True := eq_true (by omega)
          have z1 : (b1 = 0) = True := eq_true hz
          have z2 : ((b1 : Int) == 0) = true := by simp; omega
          have z3 : (b1 == 0) = true := by simp; omega
          have HE := aside (show bestR C (j + 1) = (j + 1, cc) by rw [HBS2, hz]; rfl)
          clear HBS2
          go_wp2_with fail
          go_roundg (g0 - 1)
          case measure => have := HK.out; have := hjl.out; omega
          case rel => exact ⟨j + 1, by have := HK.out; omega, by go_num, by rw [HE.out]; rfl, by rw [HE.out], HBM3.out, HB3.out⟩
        · have z0 : ((b1 : Int) = 0) = False := eq_false (by omega)
          have z1 : (b1 = 0) = False := eq_false hz
          have z2 : ((b1 : Int) == 0) = false := by simp; omega
          have z3 : (b1 == 0) = false := by simp; omega
          have hb : (b1 == 0) = false := beq_false_of_ne hz
          rw [hb, Bool.false_or] at HBS2
          have hlt : (FloatKind.f64.format.order cc b2 == some .lt) = (ford cc b2 == some .lt) := rfl
          generalize (ford cc b2 == some .lt) = p at *
          cases p with
          | true =>
            have HE := aside (show bestR C (j + 1) = (j + 1, cc) by rw [HBS2]; rfl)
            clear HBS2 hb
            go_wp2_with fail
            go_roundg (g0 - 1)
            case measure => have := HK.out; have := hjl.out; omega
            case rel => exact ⟨j + 1, by have := HK.out; omega, by go_num, by rw [HE.out]; rfl, by rw [HE.out], HBM3.out, HB3.out⟩
          | false =>
            have HE := aside (show bestR C (j + 1) = bestR C j by rw [HBS2]; rfl)
            clear HBS2 hb
            go_wp2_with fail
            go_roundg (g0 - 1)
            case measure => have := HK.out; have := hjl.out; omega
            case rel => exact ⟨j + 1, by have := HK.out; omega, by go_num, by rw [HE.out, HB1.out], by rw [HE.out, HB2.out], HBM3.out, HB3.out⟩
      · have hd : (((j + 1 : Nat) : Int) < 8) = False := eq_false (by omega)
        have hd2 : ((j : Int) + 1 < 8) = False := eq_false (by omega)
        have hjn : j = 7 := by omega
        subst hjn
        obtain ⟨ps1, ps2, ps3, ps4⟩ := HPS.out
        rw [ps2]
        have HPT := aside ps1
        clear ps1 ps2 HPS HBP HBS
        generalize cutT T l = best at *
        have hb0 : (0 < (best : Int)) = True := eq_true (by omega)
        have hb1 : 0 < best := by omega
        have hb2 : (0 < best) = True := eq_true hb1
        have hb7 : best ≤ 7 := ps4
        clear ps3 ps4
        go_wp2_with fail
        apply Lw.region _ _ 16 (by kernel_rfl) (by kernel_rfl) (by kernel_rfl) (Below.refl _ _)
        apply Lw.facts
        · intro w9 hw
          exact (HBM1.out.cl hw).cell
        intro HF
        iterate 3 (
          apply Lw.one ?_ rfl
          · intro w3 hw
            have k0 := HF.out _ hw
            go_simp
            exact rfl
          intro K hK
          go_simp
          refine hK.out _ ?_
          clear hK K)
        iterate 1 (
          apply Lw.skip (kd := none) rfl
          intro K hK
          go_simp
          refine hK.out _ ?_
          clear hK K)
        iterate 2 (
          apply Lw.one ?_ rfl
          · intro w3 hw
            have k0 := HF.out _ hw
            go_simp
            exact rfl
          intro K hK
          go_simp
          refine hK.out _ ?_
          clear hK K)
        iterate 9 (
          apply Lw.skip (kd := none) rfl
          intro K hK
          go_simp
          refine hK.out _ ?_
          clear hK K)
        iterate 1 (
          apply Lw.one ?_ rfl
          · intro w3 hw
            have k0 := HF.out _ hw
            go_simp
            exact rfl
          intro K hK
          go_simp
          refine hK.out _ ?_
          clear hK K)
        rotate_left
        exact []
        refine Lw.fin ?_
        intro w4 hm
        replace HBM1 := hid (HBM1.out.keep hm)
        replace HBB := hid (HBB.out.call hm)
        clear hm HF
        generalize hgX : leftT T l best = X at *
        generalize hgY : restT T l best = Y at *
        have HA1 := hid (fun w' hw => HA1.out best w' hw)
        have HA2 := hid (fun w' hw => HA2.out best w' hw)
        rw [hgX] at HA1
        rw [hgY] at HA2
        clear hgX hgY
        go_wp2_with fail
        apply Lw.region _ _ 14 (by kernel_rfl) (by kernel_rfl) (by kernel_rfl) (Below.refl _ _)
        apply Lw.facts
        · intro w9 hw
          exact (HBM1.out.cl hw).cell
        intro HF
        iterate 5 (
          apply Lw.one ?_ rfl
          · intro w3 hw
            have k0 := HF.out _ hw
            go_simp
            exact rfl
          intro K hK
          go_simp
          refine hK.out _ ?_
          clear hK K)
        apply Lw.anyW (V := fun v w' => OneL w.heap.size w' v X) rfl
        · exact fun v x y hb h => h.along hb
        · intro w5 hw _
          go_simp
          refine Calls.mono (HA1.out w5 (HBB.out.call hw)) ?_
          rintro e w6 ⟨v, rfl, ⟨a, c, q, rfl, hq, h1, h2⟩, hm⟩
          exact ⟨_, rfl, ⟨a, c, q, rfl, hq, h1, fun g o e => Nat.le_trans (HBB.out.call hw).size (h2 g o e)⟩, hm⟩
        intro K hK v hv
        obtain ⟨_, _, aX, cX, x, rfl, rfl, _⟩ := hv
        go_simp
        refine hK.out _ _ ?_
        clear hK K
        iterate 5 (
          apply Lw.one ?_ rfl
          · intro w3 hw
            have k0 := HF.out _ hw
            go_simp
            exact rfl
          intro K hK
          go_simp
          refine hK.out _ ?_
          clear hK K)
        apply Lw.anyW (V := fun v w' => OneL w.heap.size w' v Y) rfl
        · exact fun v x y hb h => h.along hb
        · intro w5 hw _
          go_simp
          refine Calls.mono (HA2.out w5 (HBB.out.call hw)) ?_
          rintro e w6 ⟨v, rfl, ⟨a, c, q, rfl, hq, h1, h2⟩, hm⟩
          exact ⟨_, rfl, ⟨a, c, q, rfl, hq, h1, fun g o e => Nat.le_trans (HBB.out.call hw).size (h2 g o e)⟩, hm⟩
        intro K hK v hv
        obtain ⟨_, _, aY, cY, y, rfl, rfl, _⟩ := hv
        go_simp
        refine hK.out _ _ ?_
        clear hK K
        iterate 2 (
          apply Lw.one ?_ rfl
          · intro w3 hw
            have k0 := HF.out _ hw
            go_simp
            exact rfl
          intro K hK
          go_simp
          refine hK.out _ ?_
          clear hK K)
        rotate_left
        exact []
        refine Lw.finE ?_
        intro w5 hm hE
        have h1 : OneL w.heap.size w5 (.slice aX X.length cX) X := (hE 5).1.2 rfl
        have h2 : OneL w.heap.size w5 (.slice aY Y.length cY) Y := (hE 11).2 rfl
        clear hE
        replace HBB := hid (HBB.out.call hm)
        clear hm HF
        go_wp2_with fail
        obtain ⟨_, _, _, e1, _, h1, h3⟩ := h1
        obtain ⟨_, _, _, e2, _, h2, h4⟩ := h2
        injection e1 with e3 e4 e5
        injection e2 with e6 e7 e8
        subst e3 e5 e6 e8
        refine bodyPost_ret (v := .tuple #[.slice aX X.length cX, .slice aY Y.length cY]) (by simp [results, go_sem]) rfl ⟨_, rfl, ?_⟩
        rw [HPT.out]
        exact ⟨aX, cX, aY, cY, rfl, h1, h2, h3, h4, HBB.out⟩
  · have HPN := aside (HPM.out (by
      cases sur with
      | false => exact .inl rfl
      | true => exact .inr (by simpa using hcs)))
    clear HPM HA1 HA2 HPS HCS HL1 HL2 HN1 HN2 HBM HHF HAR
    cases sur with
    | false =>
      clear hcs
      go_wp2_with fail
      go_loopg [11, 12, 13] 0 (fun kk b le k wr => kk = 0 ∧ k = .int .i64 1 ∧ b = .int .i64 0 ∧ le = .float .f64 0 ∧ Lp.Bk wr (w1.heap.size + 1) #[.float .f64 M.a0, .float .f64 M.a1, .float .f64 M.a2, .float .f64 M.a3, .float .f64 M.a4, .float .f64 M.a5] 42 ∧ Cl w wr)
      case atStart => exact ⟨rfl, rfl, rfl, rfl, HBM0.out, HB0.out⟩
      case round =>
        clear HBM0 HB0
        obtain ⟨wo, hwo⟩ : ∃ wo, wo = wr := ⟨_, rfl⟩
        subst hwo
        obtain ⟨_, rfl, rfl, rfl, BM, HB⟩ := hrel
        have HBM1 := hid BM
        have HBB := hid HB
        clear BM HB
        go_wp2_with fail
        apply Lw.region _ _ 16 (by kernel_rfl) (by kernel_rfl) (by kernel_rfl) (Below.refl _ _)
        apply Lw.facts
        · intro w9 hw
          exact (HBM1.out.cl hw).cell
        intro HF
        iterate 6 (
          apply Lw.one ?_ rfl
          · intro w3 hw
            have k0 := HF.out _ hw
            go_simp
            exact rfl
          intro K hK
          go_simp
          refine hK.out _ ?_
          clear hK K)
        iterate 9 (
          apply Lw.skip (kd := none) rfl
          intro K hK
          go_simp
          refine hK.out _ ?_
          clear hK K)
        iterate 1 (
          apply Lw.one ?_ rfl
          · intro w3 hw
            have k0 := HF.out _ hw
            go_simp
            exact rfl
          intro K hK
          go_simp
          refine hK.out _ ?_
          clear hK K)
        rotate_left
        exact []
        refine Lw.fin ?_
        intro w4 hm
        replace HBM1 := hid (HBM1.out.keep hm)
        replace HBB := hid (HBB.out.call hm)
        clear hm HF
        go_wp2_with fail
        refine Calls.mono (HSO.out _ HBB.out) ?_
        rintro e w5 ⟨v, rfl, hO, hm⟩
        have hlw : w.heap.size ≤ w4.heap.size := HBB.out.size
        replace HBB := hid (HBB.out.call hm)
        clear hm HSO HBM1
        obtain ⟨a0, c9, rfl⟩ := hO.slice
        have hml := HML.out
        have hll := HLL.out
        generalize medT T l = O at *
        obtain ⟨g, rfl, _, hE⟩ := owns_els hO.row (fun _ _ => rfl) (by omega)
        have hglo := hO.lo g rfl
        have hcc := owns_cap hO.row
        have HE := hid hE
        clear hO hE
        have hq : ((O.length : Int).tdiv 2) = ((O.length / 2 : Nat) : Int) := by rw [Int.tdiv_eq_ediv_of_nonneg (by omega)]; omega
        have hh1 : O.length / 2 ≤ O.length := by omega
        have hh2 : O.length / 2 < c9 := by omega
        have hq5 : O.length ≤ 512 := by omega
        generalize hhalf : O.length / 2 = h at *
        have HHH := aside hhalf
        have hh3 : (c9 = h) = False := eq_false (by omega)
        have hh4 : (h = c9) = False := eq_false (by omega)
        have hh5 : (h : Int) ≤ (O.length : Int) := by omega
        have hh8 : h ≤ 512 := by omega
        have hh9 : IntKind.i64.wrap (h : Int) = (h : Int) := by rw [IntKind.wrap_i64]; omega
        have hh6 : (O.length : Int) ≤ (c9 : Int) := by omega
        have hh7 : (h : Int) ≤ (c9 : Int) := by omega
        clear hhalf hml hll
        go_wp2_with fail
        apply Lw.region _ _ 12 (by kernel_rfl) (by kernel_rfl) (by kernel_rfl) (Below.refl _ _)
        iterate 12 (
          apply Lw.one ?_ rfl
          · intro w3 hw
            go_simp
            exact rfl
          intro K hK
          go_simp
          refine hK.out _ ?_
          clear hK K)
        rotate_left
        exact []
        refine Lw.fin ?_
        intro w6 hm
        go_wp2_with fail
        have hE := HE.out.keep hm
        refine bodyPost_ret (v := .tuple #[.slice (some ⟨g, 0, none⟩) h c9, .slice (some ⟨g, h, none⟩) (O.length - h) (c9 - h)]) (by simp [results, go_sem]) rfl ⟨_, rfl, ?_⟩
        rw [HPN.out]
        refine ⟨some ⟨g, 0, none⟩, c9, some ⟨g, h, none⟩, c9 - h, ?_, ?_, ?_, ?_, ?_, HBB.out.call hm⟩
        · dsimp only
          rw [List.length_take, List.length_drop, Nat.min_eq_left hh1]
        · exact .inr ⟨g, 0, rfl, hE.first hh1⟩
        · have := hE.last hh1
          rw [Nat.zero_add] at this
          exact .inr ⟨g, h, rfl, this⟩
        · rintro g o ⟨rfl, rfl⟩
          omega
        · rintro g o ⟨rfl, rfl⟩
          omega
    | true =>
      have hp : (FloatKind.f64.format.order hi lo == some .gt) = false := by
        have : (ford hi lo == some .gt) = false := by simpa using hcs
        exact this
      clear hcs
      go_wp2_with fail
      go_loopg [11, 12, 13] 0 (fun kk b le k wr => kk = 0 ∧ k = .int .i64 1 ∧ b = .int .i64 0 ∧ le = .float .f64 0 ∧ Lp.Bk wr (w1.heap.size + 1) #[.float .f64 M.a0, .float .f64 M.a1, .float .f64 M.a2, .float .f64 M.a3, .float .f64 M.a4, .float .f64 M.a5] 42 ∧ Cl w wr)
      case atStart => exact ⟨rfl, rfl, rfl, rfl, HBM0.out, HB0.out⟩
      case round =>
        clear HBM0 HB0
        obtain ⟨wo, hwo⟩ : ∃ wo, wo = wr := ⟨_, rfl⟩
        subst hwo
        obtain ⟨_, rfl, rfl, rfl, BM, HB⟩ := hrel
        have HBM1 := hid BM
        have HBB := hid HB
        clear BM HB
        go_wp2_with fail
        apply Lw.region _ _ 16 (by kernel_rfl) (by kernel_rfl) (by kernel_rfl) (Below.refl _ _)
        apply Lw.facts
        · intro w9 hw
          exact (HBM1.out.cl hw).cell
        intro HF
        iterate 9 (
          apply Lw.one ?_ rfl
          · intro w3 hw
            have k0 := HF.out _ hw
            go_simp
            exact rfl
          intro K hK
          go_simp
          refine hK.out _ ?_
          clear hK K)
        apply Lw.any rfl
        · intro w9 hw
          go_simp
          exact Lw.ret (HPH.out _)
        intro K hK
        rintro v rfl
        go_simp
        refine hK.out _ ?_
        clear hK K
        iterate 3 (
          apply Lw.one ?_ rfl
          · intro w3 hw
            have k0 := HF.out _ hw
            go_simp
            exact rfl
          intro K hK
          go_simp
          refine hK.out _ ?_
          clear hK K)
        apply Lw.any rfl
        · intro w9 hw
          go_simp
          exact Lw.ret (HPL.out _)
        intro K hK
        rintro v rfl
        go_simp
        refine hK.out _ ?_
        clear hK K
        iterate 2 (
          apply Lw.one ?_ rfl
          · intro w3 hw
            have k0 := HF.out _ hw
            go_simp
            exact rfl
          intro K hK
          go_simp
          refine hK.out _ ?_
          clear hK K)
        rotate_left
        exact []
        refine Lw.fin ?_
        intro w4 hm
        replace HBM1 := hid (HBM1.out.keep hm)
        replace HBB := hid (HBB.out.call hm)
        clear hm HF
        go_wp2_with fail
        refine Calls.mono (HSO.out _ HBB.out) ?_
        rintro e w5 ⟨v, rfl, hO, hm⟩
        have hlw : w.heap.size ≤ w4.heap.size := HBB.out.size
        replace HBB := hid (HBB.out.call hm)
        clear hm HSO HBM1
        obtain ⟨a0, c9, rfl⟩ := hO.slice
        have hml := HML.out
        have hll := HLL.out
        generalize medT T l = O at *
        obtain ⟨g, rfl, _, hE⟩ := owns_els hO.row (fun _ _ => rfl) (by omega)
        have hglo := hO.lo g rfl
        have hcc := owns_cap hO.row
        have HE := hid hE
        clear hO hE
        have hq : ((O.length : Int).tdiv 2) = ((O.length / 2 : Nat) : Int) := by rw [Int.tdiv_eq_ediv_of_nonneg (by omega)]; omega
        have hh1 : O.length / 2 ≤ O.length := by omega
        have hh2 : O.length / 2 < c9 := by omega
        have hq5 : O.length ≤ 512 := by omega
        generalize hhalf : O.length / 2 = h at *
        have HHH := aside hhalf
        have hh3 : (c9 = h) = False := eq_false (by omega)
        have hh4 : (h = c9) = False := eq_false (by omega)
        have hh5 : (h : Int) ≤ (O.length : Int) := by omega
        have hh8 : h ≤ 512 := by omega
        have hh9 : IntKind.i64.wrap (h : Int) = (h : Int) := by rw [IntKind.wrap_i64]; omega
        have hh6 : (O.length : Int) ≤ (c9 : Int) := by omega
        have hh7 : (h : Int) ≤ (c9 : Int) := by omega
        clear hhalf hml hll
        go_wp2_with fail
        apply Lw.region _ _ 12 (by kernel_rfl) (by kernel_rfl) (by kernel_rfl) (Below.refl _ _)
        iterate 12 (
          apply Lw.one ?_ rfl
          · intro w3 hw
            go_simp
            exact rfl
          intro K hK
          go_simp
          refine hK.out _ ?_
          clear hK K)
        rotate_left
        exact []
        refine Lw.fin ?_
        intro w6 hm
        go_wp2_with fail
        have hE := HE.out.keep hm
        refine bodyPost_ret (v := .tuple #[.slice (some ⟨g, 0, none⟩) h c9, .slice (some ⟨g, h, none⟩) (O.length - h) (c9 - h)]) (by simp [results, go_sem]) rfl ⟨_, rfl, ?_⟩
        rw [HPN.out]
        refine ⟨some ⟨g, 0, none⟩, c9, some ⟨g, h, none⟩, c9 - h, ?_, ?_, ?_, ?_, ?_, HBB.out.call hm⟩
        · dsimp only
          rw [List.length_take, List.length_drop, Nat.min_eq_left hh1]
        · exact .inr ⟨g, 0, rfl, hE.first hh1⟩
        · have := hE.last hh1
          rw [Nat.zero_add] at this
          exact .inr ⟨g, h, rfl, this⟩
        · rintro g o ⟨rfl, rfl⟩
          omega
        · rintro g o ⟨rfl, rfl⟩
          omega

end Go.Proofs.YtijoaklknpkdoaaGreat

namespace Go.Proofs.YtijoaklknpkdoaaGreat
open Go.RowKit Fl Lm

theorem info_job : ∃ i, Tryz.prog.info? 37 = some i ∧ i.zero = some (.agg #[.slice none 0 0, .int .i64 0]) ∧ i.size = 2 ∧ i.bytes = 32 := by
  have h : (Tryz.prog.info? 37).map (fun i => (i.zero, i.size, i.bytes)) = some (some (.agg #[.slice none 0 0, .int .i64 0]), 2, 32) := by kernel_rfl
  obtain ⟨i, hi, hz⟩ := Option.map_eq_some_iff.1 h
  simp only [Prod.mk.injEq] at hz
  exact ⟨i, hi, hz.1, hz.2.1, hz.2.2⟩

theorem under_jobs : Tryz.prog.underlying 38 = some (.slice 37) := by kernel_rfl

/-- A list's memory, apart from the two rows that change. -/
def Lk (w : World) (jv ov : Value) (ao : Option Addr) (l : List Nat) : Prop := l.length = 0 ∨ ∃ g off, ao = some ⟨g, off, none⟩ ∧ Els w g off l.length 1 (lvs l) ∧ jv.ownBlock ≠ some g ∧ ov.ownBlock ≠ some g
section
variable {w w' : World} {jv ov jv' ov' : Value} {ao : Option Addr} {l : List Nat}
theorem Lk.sl (h : Lk w jv ov ao l) : Sl w ao l.length 1 (lvs l) := by
  rcases h with h | ⟨g, off, e, h, _⟩
  · exact .inl h
  · exact .inr ⟨g, off, e, h⟩
theorem Lk.keep (h : Lk w jv ov ao l) (hb : Below w.heap.size w w') : Lk w' jv ov ao l := by
  rcases h with h | ⟨g, off, e, h, h1, h2⟩
  · exact .inl h
  · exact .inr ⟨g, off, e, h.keep hb, h1, h2⟩
theorem Lk.job (h : Lk w jv ov ao l) (hg : w.grownBy w' jv.ownBlock) (hn : Newer w jv jv') : Lk w' jv' ov ao l := by
  rcases h with h | ⟨g, off, e, h, h1, h2⟩
  · exact .inl h
  · exact .inr ⟨g, off, e, Els_grown h hg h1, newer_ne hn h.lt h1, h2⟩
theorem Lk.ord (h : Lk w jv ov ao l) (hg : w.grownBy w' ov.ownBlock) (hn : Newer w ov ov') : Lk w' jv ov' ao l := by
  rcases h with h | ⟨g, off, e, h, h1, h2⟩
  · exact .inl h
  · exact .inr ⟨g, off, e, Els_grown h hg h2, h1, newer_ne hn h.lt h2⟩
theorem Lk.of {M : Nat} (h : Sl w ao l.length 1 (lvs l)) (hlo : ∀ g o, ao = some ⟨g, o, none⟩ → M ≤ g) (hj : ∀ g, jv.ownBlock = some g → g < M) (ho : ∀ g, ov.ownBlock = some g → g < M) : Lk w jv ov ao l := by
  rcases h with h | ⟨g, off, e, h⟩
  · exact .inl h
  · have := hlo g off e
    exact .inr ⟨g, off, e, h, fun k => by have := hj g k; omega, fun k => by have := ho g k; omega⟩
end
/-- What the law's memory is. -/
structure JbC (wa wr : World) (gD : Nat) (P : List Pd) (jv ov : Value) (D : List Nd) (O : List Nat) : Prop where
  jo : Own wa.heap.size wr 37 2 jv P.length (pds P)
  oo : Own wa.heap.size wr 3 1 ov O.length (lvs O)
  ap : Apart2 jv ov
  nd : Els wr gD 0 D.length 10 (nds D)
  nj : jv.ownBlock ≠ some gD
  no : ov.ownBlock ≠ some gD
  ps : ∀ p, p ∈ P → Lk wr jv ov p.ao p.l
  cl : Cl wa wr
section
variable {wa wr w' : World} {gD : Nat} {P : List Pd} {jv ov jv' ov' : Value} {D : List Nd} {O : List Nat}
theorem JbC.keep (h : JbC wa wr gD P jv ov D O) (hb : Below wr.heap.size wr w') : JbC wa w' gD P jv ov D O :=
  ⟨h.jo.keep hb, h.oo.keep hb, h.ap, h.nd.keep hb, h.nj, h.no, fun p hp => (h.ps p hp).keep hb, h.cl.call hb⟩
theorem JbC.pop {q : Pd} {gJ c : Nat} (h : JbC wa wr gD (P ++ [q]) (.slice (some ⟨gJ, 0, none⟩) (P.length + 1) c) ov D O) :
    JbC wa wr gD P (.slice (some ⟨gJ, 0, none⟩) P.length c) ov D O ∧ Lk wr (.slice (some ⟨gJ, 0, none⟩) P.length c) ov q.ao q.l := by
  have hj := h.jo
  rw [show (P ++ [q]).length = P.length + 1 by simp] at hj
  exact ⟨⟨(hj.cut (fun _ _ => rfl) (Nat.le_succ _)).congr (fun i hi => (pds_snoc hi).symm), h.oo, h.ap, h.nd, h.nj, h.no, fun p hp => h.ps p (List.mem_append_left _ hp), h.cl⟩, h.ps q (List.mem_append_right _ (List.mem_singleton.2 rfl))⟩
theorem JbC.ord {L : List Nat} (h : JbC wa wr gD P jv ov D O) (hown : w'.ownsRow 0 3 1 ov' (O.length + L.length) (flat O.length (lvs O) ++ L.map numV)) (hg : wr.grownBy w' ov.ownBlock) (hn : Newer wr ov ov') : JbC wa w' gD P jv ov' D (O ++ L) :=
  ⟨h.jo.other hg (fun g e e2 => h.ap g e e2), h.oo.more hown hn h.cl.size, (h.ap.symm.push h.jo hn).symm, Els_grown h.nd hg h.no, h.nj, newer_ne hn h.nd.lt h.no, fun p hp => (h.ps p hp).ord hg hn, Cl_grown h.cl hg (fun g e => h.oo.lo g e)⟩
theorem JbC.job {x y : Pd} (h : JbC wa wr gD P jv ov D O) (hown : w'.ownsRow 0 37 2 jv' (P.length + 2) (flat P.length (pds P) ++ (pcl x ++ pcl y))) (hg : wr.grownBy w' jv.ownBlock) (hn : Newer wr jv jv')
    (hx : Lk wr jv ov x.ao x.l) (hy : Lk wr jv ov y.ao y.l) : JbC wa w' gD (P ++ [x, y]) jv' ov D O := by
  have hj := h.jo.push2 (e' := pds (P ++ [x, y])) hown hn h.cl.size (fun i hi => pds_two1 P x y hi) (pds_two2 P x y) (pds_two3 P x y)
  rw [show P.length + 2 = (P ++ [x, y]).length by simp] at hj
  refine ⟨hj, h.oo.other hg (fun g e e2 => h.ap g e2 e), h.ap.push h.oo hn, Els_grown h.nd hg h.nj, newer_ne hn h.nd.lt h.nj, h.no, fun p hp => ?_, Cl_grown h.cl hg (fun g e => h.jo.lo g e)⟩
  rcases List.mem_append.1 hp with e | e
  · exact (h.ps p e).job hg hn
  · simp only [List.mem_cons, List.not_mem_nil, or_false] at e
    rcases e with rfl | rfl
    · exact hx.job hg hn
    · exact hy.job hg hn
end

set_option maxRecDepth 100000 in
set_option maxHeartbeats 1000000 in
theorem neq_node (x : Nd) (h : x.box.Ok) (w : World) : (binOp .neq 44 (dxv x) (dxv x)).run Tryz.prog w = .ok (.bool false) w := by
  have hS : Tryz.prog.underlying 44 = some (.struct (Tryz.prog.fieldsOf 44)) := by kernel_rfl
  have hp : Tryz.prog.stoodInHeld 44 = false := by kernel_rfl
  obtain ⟨d, hd⟩ : ∃ d : Nat, 10000 = d + 1 + 1 + 1 + 1 := ⟨9996, rfl⟩
  have v0 := fun w => eq_box d x.box h w
  unfold dxv
  unfold bxv at v0
  rw [run_neq_struct, hd, run_equalIn_agg w (d + 1 + 1 + 1) 44 _ _ hS hp]
  clear hd
  simp only [Program.fieldsOf, Tryz.underlying44]
  go_simp

set_option maxRecDepth 100000 in
set_option maxHeartbeats 1000000 in
theorem rise_nil (cl : Nat) (ao : Option Addr) (w : World) : Calls Tryz.prog 13 #[.slice ao 0 cl] w fun e w' => e = .returned (.slice none 0 0) ∧ Cl w w' := by
  go_enter Tryz.func13, Tryz.ntmps13
  go_wp2_with fail
  go_loopg [3, 4] 0 (fun k sl i wr => k = 0 ∧ i = .int .i64 0 ∧ sl = .slice none 0 0 ∧ Cl w wr)
  case atStart => exact ⟨rfl, rfl, rfl, Below.refl _ _⟩
  case round =>
    obtain ⟨_, rfl, rfl, HB⟩ := hrel
    go_wp2_with fail
    exact bodyPost_ret (v := .slice none 0 0) (by simp [results, go_sem]) rfl ⟨rfl, HB⟩
end Go.Proofs.YtijoaklknpkdoaaGreat
