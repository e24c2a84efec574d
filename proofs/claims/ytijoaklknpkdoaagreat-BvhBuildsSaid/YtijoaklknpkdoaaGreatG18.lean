/- The reference: at: the numbers below a bin, or from it on. The reference: sorted: numbers by their middles on an axis. -/
import Derived.Test.YtijoaklknpkdoaaGreatG17
import Derived.Test.YtijoaklknpkdoaaGreatG16
namespace Go.Proofs.YtijoaklknpkdoaaGreat
open Go.RowKit Fl Lm

set_option maxRecDepth 100000 in
set_option maxHeartbeats 1000000 in
theorem rat_any (T : Nat → Tr) (hT : ∀ i, (T i).Mo) (n cz cl k : Nat) (az ao : Option Addr) (l : List Nat) (left : Bool) (w : World) (hZ : Sl w az n 9 fun i => tcs (T i)) (hL : Sl w ao l.length 1 (lvs l)) (hl : ∀ i, i ∈ l → i < n) (hn : n ≤ 512) (h0 : 0 < l.length) (h5 : l.length ≤ 512) (ha : (ford (hiT T l) (loT T l) == some .gt) = true) :
    Calls Tryz.prog 33 #[.slice az n cz, .slice ao l.length cl, bxv (mds T l), .int .i64 (axT T l : Int), .int .i64 (k : Int), .bool left] w fun e w' => ∃ v, e = .returned v ∧ Own w.heap.size w' 3 1 v (l.filter fun i => decide (binT T l i < (k : Int)) == left).length (lvs (l.filter fun i => decide (binT T l i < (k : Int)) == left)) ∧ Cl w w' := by
  unfold bxv
  obtain ⟨hB, ⟨i0, hi0, _⟩, _⟩ := apart_of hT h0 ha
  have nl := (num_of_sub (hB i0 hi0).s1).2
  have nh := (num_of_sub (hB i0 hi0).s2).1
  have HP0 : Hid (∀ w', Ret Tryz.prog 32 #[.agg #[.float .f64 (mds T l).a0, .float .f64 (mds T l).a1, .float .f64 (mds T l).a2], .int .i64 (axT T l : Int)] w' (fun v => v = .float .f64 (loT T l))) := hid (fun w' => rpart_any _ _ _ _ w')
  have HP1 : Hid (∀ w', Ret Tryz.prog 32 #[.agg #[.float .f64 (mds T l).a3, .float .f64 (mds T l).a4, .float .f64 (mds T l).a5], .int .i64 (axT T l : Int)] w' (fun v => v = .float .f64 (hiT T l))) := hid (fun w' => rpart_any _ _ _ _ w')
  have HPX : Hid (∀ x w', Ret Tryz.prog 32 #[.agg #[.float .f64 (T x).box.mid.x, .float .f64 (T x).box.mid.y, .float .f64 (T x).box.mid.z], .int .i64 (axT T l : Int)] w' (fun v => v = .float .f64 (keyT T (axT T l) x))) := hid (fun x w' => rpart_any _ _ _ _ w')
  have HBT : Aside (∀ i, binT T l i = min (truncF (q8F (loT T l) (hiT T l) (keyT T (axT T l) i))) 7) := aside (fun i => rfl)
  have HD2 := hid (fun w => run_sub_num (P := Tryz.prog) (w := w) 29 nh nl)
  have HKN := aside (fun i (hi : i ∈ l) => (num_of_sub (hB i hi).s1).1)
  have HZ := hid hZ
  have HL := hid hL
  have HM := aside hl
  have HBB := aside hB
  have HNL := aside nl
  have HMI := hid (fun (x : Nat) (w' : World) => rmid_any (t := T x) (hT x) w')
  unfold txv pxv at HMI
  obtain ⟨iI, hI0, hI1, hI2, hI3⟩ := info_int
  clear hZ hL hl hT hB nl nh ha h0 hi0
  generalize mds T l = M at *
  generalize keyT T (axT T l) = K at *
  generalize axT T l = ax at *
  generalize loT T l = lo at *
  generalize hiT T l = hi at *
  generalize binT T l = bz at *
  go_enter Tryz.func33, Tryz.ntmps33
  go_wp2_with fail
  refine Lp.settleC (fun w' => Lp.Bk w' (w.heap.size) #[.float .f64 M.a0, .float .f64 M.a1, .float .f64 M.a2, .float .f64 M.a3, .float .f64 M.a4, .float .f64 M.a5] 42 ∧ Cl w w') ⟨Lp.Bk.al _ _ _, (Below.refl _ _).alloc (by simp <;> omega) _⟩ ?_
  rintro v1 ⟨BS, HB⟩
  have kS := BS.cell
  have nS0 : (w.heap.size = v1.heap.size) = False := eq_false (by have := BS.lt; omega)
  have mS0 : w.heap.size < v1.heap.size := by have := BS.lt; omega
  have nS1 : (w.heap.size = v1.heap.size + 1) = False := eq_false (by have := BS.lt; omega)
  have mS1 : w.heap.size < v1.heap.size + 1 := by have := BS.lt; omega
  refine Calls.mono (HP0.out _) ?_
  rintro e v2 ⟨v, rfl, rfl, hm⟩
  clear kS nS0 mS0 nS1 mS1
  replace BS := BS.keep hm
  replace HB := HB.call hm
  clear hm
  have kS := BS.cell
  have nS0 : (w.heap.size = v2.heap.size) = False := eq_false (by have := BS.lt; omega)
  have mS0 : w.heap.size < v2.heap.size := by have := BS.lt; omega
  have nS1 : (w.heap.size = v2.heap.size + 1) = False := eq_false (by have := BS.lt; omega)
  have mS1 : w.heap.size < v2.heap.size + 1 := by have := BS.lt; omega
  go_wp2_with fail
  refine Calls.mono (HP1.out _) ?_
  rintro e v3 ⟨v, rfl, rfl, hm⟩
  clear kS nS0 mS0 nS1 mS1
  replace BS := BS.keep hm
  replace HB := HB.call hm
  clear hm
  have kS := BS.cell
  have nS0 : (w.heap.size = v3.heap.size) = False := eq_false (by have := BS.lt; omega)
  have mS0 : w.heap.size < v3.heap.size := by have := BS.lt; omega
  have nS1 : (w.heap.size = v3.heap.size + 1) = False := eq_false (by have := BS.lt; omega)
  have mS1 : w.heap.size < v3.heap.size + 1 := by have := BS.lt; omega
  have d2 := HD2.out
  go_wp2_with fail
  clear kS nS0 mS0 nS1 mS1
  clear d2 BS
  generalize hwd : fsub hi lo = wd at *
  have HWD := aside hwd
  clear hwd
  go_loopg [13, 16] l.length (fun kk sl i wr => ∃ (j : Nat) (F : List Nat), kk + j = l.length ∧ i = .int .i64 (j : Int) ∧ F = (l.take j).filter (fun i => decide (bz i < (k : Int)) == left) ∧ F.length ≤ j ∧ Own w.heap.size wr 3 1 sl F.length (lvs F) ∧ Cl w wr)
  case atStart => exact ⟨0, [], Nat.add_zero _, rfl, rfl, Nat.le_refl _, Own.nil _ _ _ _ _, HB⟩
  case round =>
    clear HB
    obtain ⟨g0, hg0⟩ : ∃ g0, g0 = gk := ⟨_, rfl⟩
    subst hg0
    obtain ⟨wo, hwo⟩ : ∃ wo, wo = wr := ⟨_, rfl⟩
    subst hwo
    obtain ⟨j, F, hk, rfl, hF, hFl, hO, HB⟩ := hrel
    have HK := aside hk
    clear hk
    obtain ⟨a1, c1, rfl⟩ := hO.slice
    by_cases hj : j < l.length
    · have hd : ((j : Int) < (l.length : Int)) = True := eq_true (by omega)
      have hmem := getD_mem hj
      have hx := HM.out _ hmem
      obtain ⟨gl, ol, rfl, EL0⟩ := HL.out.get hj
      obtain ⟨gz, oz, rfl, EZ0⟩ := HZ.out.get hx
      have EL := hid (EL0.keep HB)
      have EZ := hid (EZ0.keep HB)
      have HFM : Aside ((l.take (j + 1)).filter (fun i => decide (bz i < (k : Int)) == left) = if (decide (bz (l.getD j 0) < (k : Int)) == left) = true then (l.take j).filter (fun i => decide (bz i < (k : Int)) == left) ++ [l.getD j 0] else (l.take j).filter (fun i => decide (bz i < (k : Int)) == left)) := aside (filter_more _ hj)
      rw [← hF] at HFM
      have hjl := aside hj
      have hj5 : j < 512 := by omega
      have hF5 := aside hFl
      clear hj EL0 EZ0 hF hFl
      have HB1 := HBB.out _ hmem
      have HN1 := HKN.out _ hmem
      have HE1 := HBT.out (l.getD j 0)
      clear hmem
      generalize hxx : l.getD j 0 = x at *
      have HXV := aside hxx
      have hxn : ((x : Int) < (n : Int)) = True := eq_true (by omega)
      have hx5 : x < 512 := by omega
      clear hxx
      have hmi := hid (HMI.out x)
      have hpx := hid (HPX.out x)
      have HD1 := hid (fun w => run_sub_num (P := Tryz.prog) (w := w) 29 HN1 HNL.out)
      have HD3 := hid (fun w => run_quo_num (P := Tryz.prog) (w := w) 29 HB1.s1 HB1.s2 (fun e => by have := HB1.s2p; rw [e] at this; exact absurd this (by decide)))
      have HD4 := hid (fun w => run_mul_num (P := Tryz.prog) (w := w) 29 num_k8 HB1.q1)
      have HD5 := hid (fun w => convC HB1.conv w)
      unfold q8F at *
      rw [HWD.out] at *
      have HD4' : Hid (∀ w, (binOp .mul 29 (.float .f64 4620693217682128896) (.float .f64 (fdiv (fsub (K x) lo) wd))).run Tryz.prog w = .ok (.float .f64 (fmul k8 (fdiv (fsub (K x) lo) wd))) w) := HD4
      clear HD4 HB1 HN1
      generalize fmul k8 (fdiv (fsub (K x) lo) wd) = x4 at *
      generalize fdiv (fsub (K x) lo) wd = x3 at *
      generalize fsub (K x) lo = x1 at *
      generalize K x = kx at *
      have HLOW := hid (fun w' => low_int (truncF x4) 7 w')
      rw [← HE1] at HLOW
      generalize truncF x4 = tz at *
      generalize bz x = z at *
      clear HE1
      generalize (T x).box.mid = c at *
      have HO := hid hO
      have HBH := hid HB
      have q0 := EL.out.num hjl.out
      rw [HXV.out] at q0
      obtain ⟨t0, t1, t2, t3, t4, t5, t6, t7, t8⟩ := tat EZ.out hx
      clear hO HB
      go_wp2_with fail
      refine Calls.mono (hmi.out _) ?_
      rintro e v5 ⟨v, rfl, rfl, hm⟩
      have HO5 := hid (HO.out.keep hm)
      have HB5 := hid (HBH.out.call hm)
      have EL5 := hid (EL.out.keep hm)
      clear hm t0 t1 t2 t3 t4 t5 t6 t7 t8 q0 hmi EZ EL HO HBH
      go_wp2_with fail
      refine Calls.mono (hpx.out _) ?_
      rintro e v6 ⟨v, rfl, rfl, hm⟩
      have HO6 := hid (HO5.out.keep hm)
      have HB6 := hid (HB5.out.call hm)
      have EL6 := hid (EL5.out.keep hm)
      clear hm hpx EL5 HO5 HB5
      have d1 := HD1.out
      have d3 := HD3.out
      have d4 := HD4'.out
      have d5 := HD5.out
      go_wp2_with fail
      refine Calls.mono (HLOW.out _) ?_
      rintro e v7 ⟨rfl, hw7⟩
      obtain rfl := hw7.symm
      clear hw7 HLOW d1 d3 d4 d5
      have q0 := EL6.out.num hjl.out
      rw [HXV.out] at q0
      by_cases hz : z < (k : Int)
      · have hz1 : (z < (k : Int)) = True := eq_true hz
        cases left with
        | true =>
          have HFE := aside (HFM.out.trans (if_pos (by simp [hz])))
          clear HFM
          go_wp2_with ((at_builtin; refine wpList_push _ rfl _ _ 34 rfl 3 iI (.int .i64 0) 1 8 under_ints hI0 hI1 hI2 hI3 rfl (by decide) (.slice a1 F.length c1) F.length (flat F.length (lvs F)) rfl (HO6.out.alo (.cells #[.int .i64 (x : Int)] 3)).row ⟨v6.heap.size, 0, none⟩ 1 1 [.int .i64 (x : Int)] rfl rfl (cells_at0 (Lp.Bk.al v6 _ _)) (by simp [Value.oneCell']) (max_small (by have := hF5.out; omega)) (by have := hF5.out; omega) ?_))
          intro v' w7 hown hg hb
          have HCF := hid (Cl_grown (HB6.out.alloc (.cells #[.int .i64 (x : Int)] 3)) hg (fun g e => HO6.out.lo g e) : Cl w w7)
          have HOF := hid ((HO6.out.alo (.cells #[.int .i64 (x : Int)] 3)).snoc (x := x) hown (hb.imp id fun h g e => by have := h g e; simp at this ⊢; omega) (by have := HB6.out.size; simp; omega))
          clear hown hg hb HO6 HB6 EL6
          go_wp2_with fail
          go_roundg (g0 - 1)
          case measure => have := HK.out; have := hjl.out; omega
          case rel => exact ⟨j + 1, F ++ [x], by have := HK.out; have := hjl.out; omega, by go_num, HFE.out.symm, by have := hF5.out; simp; omega, HOF.out, HCF.out⟩
        | false =>
          have HFE := aside (HFM.out.trans (if_neg (by simp [hz])))
          clear HFM
          go_wp2_with fail
          go_roundg (g0 - 1)
          case measure => have := HK.out; have := hjl.out; omega
          case rel => exact ⟨j + 1, F, by have := HK.out; have := hjl.out; omega, by go_num, HFE.out.symm, by have := hF5.out; omega, HO6.out, HB6.out⟩
      · have hz1 : (z < (k : Int)) = False := eq_false hz
        cases left with
        | true =>
          have HFE := aside (HFM.out.trans (if_neg (by simp [hz])))
          clear HFM
          go_wp2_with fail
          go_roundg (g0 - 1)
          case measure => have := HK.out; have := hjl.out; omega
          case rel => exact ⟨j + 1, F, by have := HK.out; have := hjl.out; omega, by go_num, HFE.out.symm, by have := hF5.out; omega, HO6.out, HB6.out⟩
        | false =>
          have HFE := aside (HFM.out.trans (if_pos (by simp [hz])))
          clear HFM
          go_wp2_with ((at_builtin; refine wpList_push _ rfl _ _ 34 rfl 3 iI (.int .i64 0) 1 8 under_ints hI0 hI1 hI2 hI3 rfl (by decide) (.slice a1 F.length c1) F.length (flat F.length (lvs F)) rfl (HO6.out.alo (.cells #[.int .i64 (x : Int)] 3)).row ⟨v6.heap.size, 0, none⟩ 1 1 [.int .i64 (x : Int)] rfl rfl (cells_at0 (Lp.Bk.al v6 _ _)) (by simp [Value.oneCell']) (max_small (by have := hF5.out; omega)) (by have := hF5.out; omega) ?_))
          intro v' w7 hown hg hb
          have HCF := hid (Cl_grown (HB6.out.alloc (.cells #[.int .i64 (x : Int)] 3)) hg (fun g e => HO6.out.lo g e) : Cl w w7)
          have HOF := hid ((HO6.out.alo (.cells #[.int .i64 (x : Int)] 3)).snoc (x := x) hown (hb.imp id fun h g e => by have := h g e; simp at this ⊢; omega) (by have := HB6.out.size; simp; omega))
          clear hown hg hb HO6 HB6 EL6
          go_wp2_with fail
          go_roundg (g0 - 1)
          case measure => have := HK.out; have := hjl.out; omega
          case rel => exact ⟨j + 1, F ++ [x], by have := HK.out; have := hjl.out; omega, by go_num, HFE.out.symm, by have := hF5.out; simp; omega, HOF.out, HCF.out⟩
    · have hd : ((j : Int) < (l.length : Int)) = False := eq_false (by omega)
      have hjl : j = l.length := by have := HK.out; omega
      subst hjl
      rw [List.take_of_length_le (Nat.le_refl _)] at hF
      have HO := hid hO
      have HF := aside hF
      clear hO hj hF
      go_wp2_with fail
      refine bodyPost_ret (v := .slice a1 F.length c1) (by simp [results, go_sem]) rfl ⟨_, rfl, ?_, HB⟩
      rw [← HF.out]
      exact HO.out

theorem left_filter (T : Nat → Tr) (l : List Nat) (k : Nat) : (l.filter fun i => decide (binT T l i < (k : Int)) == true) = leftT T l k := List.filter_congr fun i _ => by simp
theorem rest_filter (T : Nat → Tr) (l : List Nat) (k : Nat) : (l.filter fun i => decide (binT T l i < (k : Int)) == false) = restT T l k := List.filter_congr fun i _ => by simp
end Go.Proofs.YtijoaklknpkdoaaGreat

namespace Go.Proofs.YtijoaklknpkdoaaGreat
open Go.RowKit Fl Lm

set_option maxRecDepth 100000 in
set_option maxHeartbeats 1000000 in
theorem rsorted_any (T : Nat → Tr) (hT : ∀ i, (T i).Mo) (n cz cl ax : Nat) (az ao : Option Addr) (l : List Nat) (w : World) (hZ : Sl w az n 9 fun i => tcs (T i)) (hL : Sl w ao l.length 1 (lvs l)) (hl : ∀ i, i ∈ l → i < n) (hn : n ≤ 512) (h5 : l.length ≤ 512) :
    Calls Tryz.prog 35 #[.slice az n cz, .slice ao l.length cl, .int .i64 (ax : Int)] w fun e w' => ∃ v, e = .returned v ∧ Own w.heap.size w' 3 1 v (medF (keyT T ax) l).length (lvs (medF (keyT T ax) l)) ∧ Cl w w' := by
  obtain ⟨iI, hI0, hI1, hI2, hI3⟩ := info_int
  have HPX : Hid (∀ x w', Ret Tryz.prog 32 #[.agg #[.float .f64 (T x).box.mid.x, .float .f64 (T x).box.mid.y, .float .f64 (T x).box.mid.z], .int .i64 (ax : Int)] w' (fun v => v = .float .f64 (keyT T ax x))) := hid (fun x w' => rpart_any _ _ _ _ w')
  have HMI := hid (fun (x : Nat) (w' : World) => rmid_any (t := T x) (hT x) w')
  unfold txv pxv at HMI
  have HZ := hid hZ
  have HL := hid hL
  have HM := aside hl
  clear hZ hL hl hT
  generalize keyT T ax = K at *
  go_enter Tryz.func35, Tryz.ntmps35
  go_wp2_with fail
  go_loopg [7, 8] l.length (fun k sl i wr => ∃ (j : Nat) (O : List Nat), k + j = l.length ∧ i = .int .i64 (j : Int) ∧ O = (l.take j).foldl (fun o x => putK K x o) [] ∧ O.length = j ∧ (∀ q, q ∈ O → q < n) ∧ Own w.heap.size wr 3 1 sl O.length (lvs O) ∧ (j = 0 → sl = .slice none 0 0) ∧ Cl w wr)
  case atStart => exact ⟨0, [], Nat.add_zero _, rfl, rfl, rfl, (fun q hq => by cases hq), Own.nil _ _ _ _ _, fun _ => rfl, Below.refl _ _⟩
  case round =>
    obtain ⟨g0, hg0⟩ : ∃ g0, g0 = gk := ⟨_, rfl⟩
    subst hg0
    obtain ⟨wo, hwo⟩ : ∃ wo, wo = wr := ⟨_, rfl⟩
    subst hwo
    obtain ⟨j, O, hk, rfl, hOF, hOl, hOm, hO, hnil, HB⟩ := hrel
    have HK := aside hk
    have HOM := aside hOm
    clear hk hOm
    by_cases hj : j < l.length
    · have hd : ((j : Int) < (l.length : Int)) = True := eq_true (by omega)
      have hx := HM.out _ (getD_mem hj)
      obtain ⟨gl, ol, rfl, EL0⟩ := (HL.out.keep HB).get hj
      obtain ⟨gz, oz, rfl, EZ0⟩ := (HZ.out.keep HB).get hx
      have HTK := aside (show (l.take (j + 1)).foldl (fun o x => putK K x o) [] = putK K (l.getD j 0) O by rw [take_more hj, List.foldl_append, ← hOF]; rfl)
      generalize hx0 : l.getD j 0 = x at *
      have HXV := aside hx0
      have HLN := aside hOl
      have hjl := aside hj
      have hxn : ((x : Int) < (n : Int)) = True := eq_true (by omega)
      have hx5 : x < 512 := by omega
      have hj5 : j < 512 := by omega
      have HMM := aside (show ∀ q, q ∈ (l.take (j + 1)).foldl (fun o x => putK K x o) [] → q < n by
        intro q hq
        rw [HTK.out] at hq
        rcases List.mem_cons.1 ((putK_perm K x O).mem_iff.1 hq) with rfl | h
        · exact hx
        · exact HOM.out q h)
      have HXN := aside hx
      clear hOF hx0
      have hmi := hid (HMI.out x)
      have hpx := hid (HPX.out x)
      generalize hkx : K x = kx at *
      have HKX := aside hkx
      clear hkx
      have EL := hid EL0
      have EZ := hid EZ0
      have q0 := EL0.num hj
      rw [HXV.out] at q0
      obtain ⟨t0, t1, t2, t3, t4, t5, t6, t7, t8⟩ := tat EZ0 hx
      have HO := hid hO
      have HBB := hid HB
      clear EL0 EZ0 hO HB
      generalize (T x).box.mid = c at *
      go_wp2_with fail
      refine Calls.mono (hmi.out _) ?_
      rintro e u5 ⟨v, rfl, rfl, hm⟩
      have HO5 := hid (HO.out.keep hm)
      have HB5 := hid (HBB.out.call hm)
      have EL5 := hid (EL.out.keep hm)
      have EZ5 := hid (EZ.out.keep hm)
      clear hm t0 t1 t2 t3 t4 t5 t6 t7 t8 q0 hmi EZ EL HO HBB
      go_wp2_with fail
      refine Calls.mono (hpx.out _) ?_
      rintro e wo ⟨v, rfl, rfl, hm⟩
      have hO := HO5.out.keep hm
      have HB := HB5.out.call hm
      have EL := EL5.out.keep hm
      have EZ := EZ5.out.keep hm
      clear hm hpx HO5 HB5 EL5 EZ5
      rcases Nat.eq_zero_or_pos j with hj0 | hj0
      · subst hj0
        obtain rfl : O = [] := List.eq_nil_of_length_eq_zero hOl
        obtain rfl := hnil rfl
        have hglt : gl < wo.heap.size := EL.lt
        have k0 := EL.num hj
        rw [HXV.out, Nat.add_zero] at k0
        have HBB := hid HB
        clear hO EL EZ HB hOl hnil
        go_wp2_with fail
        go_loopg [10] 0 (fun kk k wi => kk = 0 ∧ k = .int .i64 0 ∧ Cl wo wi)
        case atStart => exact ⟨rfl, rfl, Below.refl _ _⟩
        case round =>
          obtain ⟨v3, hv3⟩ : ∃ v3, v3 = wr := ⟨_, rfl⟩
          subst hv3
          obtain ⟨_, rfl, hcl⟩ := hrel
          have hgw : gl < v3.heap.size := Nat.lt_of_lt_of_le hglt hcl.size
          have k1 := (hcl.cell (p := ⟨gl, ol, none⟩) hglt).trans k0
          have HRN := hid ((own_new v3).alloc (.cells #[.int .i64 (x : Int)] 3))
          go_wp2_with ((at_builtin; refine wpList_push _ rfl _ _ 34 rfl 3 iI (.int .i64 0) 1 8 under_ints hI0 hI1 hI2 hI3 rfl (by decide) (.slice (some ⟨v3.heap.size, 0, none⟩) 0 0) 0 [] rfl HRN.out ⟨v3.heap.size + 1, 0, none⟩ 1 1 [.int .i64 (x : Int)] rfl rfl (cells_at0 (Lp.Bk.al1 v3 _ _ _)) (by simp [Value.oneCell']) (max_small (by omega)) (by omega) ?_))
          intro v1 w4 hown hg hb
          have hcl4 : Cl w w4 := Cl_grown (((HBB.out.call hcl).alloc (.cells #[] 3)).alloc (.cells #[.int .i64 (x : Int)] 3)) hg (fun k e => by have e2 : v3.heap.size = k := Option.some.inj e; have := HBB.out.size; have := hcl.size; omega)
          have hO2 : Own w.heap.size w4 3 1 v1 [x].length (lvs [x]) := Own.of_row (L := [x]) hown rfl (fun k e => by
            have hs1 := HBB.out.size
            have hs2 := hcl.size
            rcases hb with h | h
            · rw [h] at e
              have e2 : v3.heap.size = k := Option.some.inj e
              omega
            · have := h k e
              omega)
          have HCF := hid hcl4
          have HOF := hid hO2
          rcases hown.2 with ⟨_, hz⟩ | ⟨g1, c1, _, rfl, _, _, hc1, _⟩
          · cases hz
          have hc2 : (1 : Int) ≤ (c1 : Int) := by omega
          have hc3 : 1 ≤ c1 := hc1
          clear hown hg hb hcl4 hO2 hcl hgw HRN k1 hc1
          go_wp2_with fail
          go_roundg (g0 - 1)
          case measure => have := HK.out; have := hjl.out; omega
          case rel => exact ⟨1, [x], by have := HK.out; have := hjl.out; omega, by go_num, by rw [HTK.out]; rfl, rfl, by have := HMM.out; rw [HTK.out] at this; exact this, HOF.out, fun e => absurd e (Nat.succ_ne_zero _), HCF.out⟩
      · have hOp : 0 < O.length := by omega
        have hO1k : O.length ≤ 1000 := by omega
        clear hOl
        obtain ⟨a0, c9, hsl⟩ := hO.slice
        subst hsl
        obtain ⟨g, hg0, _, hE0⟩ := owns_els hO.row (fun _ _ => rfl) hOp
        subst hg0
        have HO0 := hid hO
        have HE0 := hid hE0
        have HEL0 := hid EL
        have HEZ0 := hid EZ
        have HBB := hid HB
        clear hO hE0 EL EZ HB hnil
        go_wp2_with fail
        go_loopg [10] O.length (fun kk k wi => ∃ m : Nat, kk + m = O.length ∧ k = .int .i64 (m : Int) ∧ (∀ i, i < m → ltK K x (O.getD i 0) = false) ∧ Cl wo wi)
        case atStart => exact ⟨0, Nat.add_zero _, rfl, fun i hi => absurd hi (Nat.not_lt_zero i), Below.refl _ _⟩
        case round =>
          obtain ⟨g1, hg1⟩ : ∃ g1, g1 = gk := ⟨_, rfl⟩
          subst hg1
          obtain ⟨wi, hwi⟩ : ∃ wi, wi = wr := ⟨_, rfl⟩
          subst hwi
          obtain ⟨m, hkm, rfl, hpre, hcl⟩ := hrel
          have HKM := aside hkm
          have hm : m ≤ O.length := by omega
          clear hkm
          by_cases hmO : m < O.length
          · have hdm : ((m : Int) < (O.length : Int)) = True := eq_true (by omega)
            have hm5 : m < 1000 := by omega
            have hE := HE0.out.keep hcl
            have hEL := HEL0.out.keep hcl
            have hEZ := HEZ0.out.keep hcl
            have hyn := HOM.out _ (getD_mem hmO)
            have hSP := aside (show ltK K x (O.getD m 0) = true → putK K x O = O.take m ++ x :: O.drop m from fun h => putK_at O m hpre hm (.inr h))
            have hST := aside (show ltK K x (O.getD m 0) = false → ∀ i, i < m + 1 → ltK K x (O.getD i 0) = false from fun h i hi => by
              rcases Nat.lt_or_ge i m with h2 | h2
              · exact hpre i h2
              · have : i = m := by omega
                rw [this]; exact h)
            have HLT := aside (show ltK K x (O.getD m 0) = (ltB (K x) (K (O.getD m 0)) || (eqB (K x) (K (O.getD m 0)) && decide (x < O.getD m 0))) from rfl)
            rw [HKX.out] at HLT
            generalize hy : O.getD m 0 = y at *
            have HYV := aside hy
            have hynn : ((y : Int) < (n : Int)) = True := eq_true (by omega)
            have hy5 : y < 512 := by omega
            clear hy hpre
            have hmi := hid (HMI.out y)
            have hpx := hid (HPX.out y)
            generalize hky : K y = ky at *
            clear hky
            have hp : (FloatKind.f64.format.order kx ky == some .lt) = ltB kx ky := rfl
            have hq : (FloatKind.f64.format.order kx ky == some .eq) = eqB kx ky := rfl
            generalize ltB kx ky = p at *
            generalize eqB kx ky = q at *
            generalize (T y).box.mid = d at *
            have q1 := hE.num hmO
            rw [HYV.out, Nat.zero_add] at q1
            obtain ⟨t0, t1, t2, t3, t4, t5, t6, t7, t8⟩ := tat hEZ hyn
            have HE := hid hE
            have HEL := hid hEL
            have HCL := hid hcl
            clear hE hEL hEZ hcl
            go_wp2_with fail
            refine Calls.mono (hmi.out _) ?_
            rintro e u5 ⟨v, rfl, rfl, hm3⟩
            replace HE := hid (HE.out.keep hm3)
            replace HEL := hid (HEL.out.keep hm3)
            replace HCL := hid (HCL.out.call hm3)
            clear hm3 t0 t1 t2 t3 t4 t5 t6 t7 t8 q1 hmi
            go_wp2_with fail
            refine Calls.mono (hpx.out _) ?_
            rintro e u6 ⟨v, rfl, rfl, hm3⟩
            replace HE := hid (HE.out.keep hm3)
            replace HEL := hid (HEL.out.keep hm3)
            replace HCL := hid (HCL.out.call hm3)
            clear hm3 hpx
            cases p with
            | true =>
              have HPI := aside (hSP.out (by rw [HLT.out]; rfl))
              clear hST hSP HLT
              go_wp2_with fail
              apply Lw.region _ _ 19 (by kernel_rfl) (by kernel_rfl) (by kernel_rfl) (Below.refl _ _)
              iterate 4 (
                apply Lw.one ?_ rfl
                · intro w3 hw
                  go_simp
                  exact rfl
                intro K hK
                go_simp
                refine hK.out _ ?_
                clear hK K)
              iterate 14 (
                apply Lw.skip (kd := none) rfl
                intro K hK
                go_simp
                refine hK.out _ ?_
                clear hK K)
              iterate 1 (
                apply Lw.one ?_ rfl
                · intro w3 hw
                  go_simp
                  exact rfl
                intro K hK
                go_simp
                refine hK.out _ ?_
                clear hK K)
              rotate_left
              exact []
              refine Lw.fin ?_
              intro v3 hm3
              have HO := hid ((HO0.out.keep HCL.out).keep hm3)
              have HEO := hid (HE.out.keep hm3)
              have HEL2 := hid (HEL.out.keep hm3)
              have HB := hid (HBB.out.call (HCL.out.call hm3))
              have hgl3 : gl < v3.heap.size := HEL2.out.lt
              have k1 := HEL2.out.num hj
              rw [HXV.out] at k1
              clear hm3 HCL HE HEL
              have hcc := owns_cap HO.out.row
              have hgi : g < v3.heap.size := HEO.out.lt
              have hglo : w.heap.size ≤ v3.heap.size := HB.out.size
              have i1 : (0 : Int) ≤ (m : Int) := by omega
              have i2 : (m : Int) ≤ (c9 : Int) := by omega
              have i3 : m ≤ c9 := by omega
              have i4 : (m : Int) ≤ (O.length : Int) := by omega
              have i5 : (O.length : Int) ≤ (c9 : Int) := by omega
              have HRN := hid (own_new v3)
              go_wp2_with ((at_builtin; refine wpList_push _ rfl _ _ 34 rfl 3 iI (.int .i64 0) 1 8 under_ints hI0 hI1 hI2 hI3 rfl (by decide) (.slice (some ⟨v3.heap.size, 0, none⟩) 0 0) 0 [] rfl HRN.out ⟨g, 0, none⟩ m c9 ((O.take m).map numV) rfl (by simp; omega) ((HEO.out.alo (.cells #[] 3)).first hm).news (nums_one _) (max_small (by omega)) (by omega) ?_))
              intro v1 w4 hown1 hg1 hb1
              have hown1' : w4.ownsRow 0 3 1 v1 m ((O.take m).map numV) := by simpa using hown1
              have hn1 : ∀ k, v1.ownBlock = some k → v3.heap.size ≤ k := fun k e => by
                rcases hb1 with h | h
                · rw [h] at e
                  have e2 : v3.heap.size = k := Option.some.inj e
                  omega
                · have := h k e
                  omega
              have hcl4 : Cl w w4 := Cl_grown (HB.out.alloc (.cells #[] 3)) hg1 (fun k e => by have e2 : v3.heap.size = k := Option.some.inj e; omega)
              have hE4 := Els_grown (HEO.out.alo (.cells #[] 3)) hg1 (fun e => by have e2 : v3.heap.size = g := Option.some.inj e; omega)
              have hL4 := Els_grown (HEL2.out.alo (.cells #[] 3)) hg1 (fun e => by have e2 : v3.heap.size = gl := Option.some.inj e; have := HEL2.out.lt; omega)
              have hs4 : v3.heap.size < w4.heap.size := by have := hg1.size; simp at this; omega
              have k4 := hL4.num hj
              rw [HXV.out] at k4
              obtain ⟨a1, c1, rfl, -⟩ := owns_slice hown1'
              have HO1 := hid hown1'
              have HN1 := aside hn1
              have HE4 := hid hE4
              have HC4 := hid hcl4
              have hgl4 : gl < w4.heap.size := hL4.lt
              clear hown1 hown1' hg1 hb1 hn1 hE4 hL4 hcl4 HRN
              go_wp2_with ((at_builtin; refine wpList_push _ rfl _ _ 34 rfl 3 iI (.int .i64 0) 1 8 under_ints hI0 hI1 hI2 hI3 rfl (by decide) (.slice a1 m c1) m ((O.take m).map numV) rfl (HO1.out.alloc (.cells #[.int .i64 (x : Int)] 3)) ⟨w4.heap.size, 0, none⟩ 1 1 [.int .i64 (x : Int)] rfl rfl (cells_at0 (Lp.Bk.al w4 _ _)) (by simp [Value.oneCell']) (max_small (by omega)) (by omega) ?_))
              intro v2 w5 hown2 hg2 hb2
              have hn2 : ∀ k, v2.ownBlock = some k → v3.heap.size ≤ k := fun k e => by
                rcases hb2 with h | h
                · exact HN1.out k (h ▸ e)
                · have := h k e
                  omega
              have hcl5 : Cl w w5 := Cl_grown (HC4.out.alloc (.cells #[.int .i64 (x : Int)] 3)) hg2 (fun k e => by have := HN1.out k e; omega)
              have hE5 := Els_grown (HE4.out.alo (.cells #[.int .i64 (x : Int)] 3)) hg2 (fun e => by have := HN1.out g e; omega)
              obtain ⟨a2, c2, rfl, -⟩ := owns_slice hown2
              have hown2' : w5.ownsRow 0 3 1 (.slice a2 (m + 1) c2) (m + 1) ((O.take m).map numV ++ [.int .i64 (x : Int)]) := by simpa using hown2
              have HO2 := hid hown2'
              have HN2 := aside hn2
              have HE5 := hid hE5
              have HC5 := hid hcl5
              clear hown2 hown2' hg2 hb2 hn2 hE5 hcl5 HO1 HN1 HE4 HC4 k4 hgl4
              have i8 : (m = c9) = False := eq_false (by omega)
              have i9 : (c9 = m) = False := eq_false (by omega)
              go_wp2_with ((at_builtin; refine wpList_push _ rfl _ _ 34 rfl 3 iI (.int .i64 0) 1 8 under_ints hI0 hI1 hI2 hI3 rfl (by decide) (.slice a2 (m + 1) c2) (m + 1) ((O.take m).map numV ++ [.int .i64 (x : Int)]) rfl HO2.out ⟨g, m, none⟩ (O.length - m) (c9 - m) ((O.drop m).map numV) rfl (by simp) (by have := HE5.out.last hm; rw [Nat.zero_add] at this; exact this.news) (nums_one _) (max_small (by omega)) (by omega) ?_))
              intro v3 w6 hown3 hg3 hb3
              have hO3 : Own w.heap.size w6 3 1 v3 (O.take m ++ x :: O.drop m).length (lvs (O.take m ++ x :: O.drop m)) := by
                have hown3' : w6.ownsRow 0 3 1 v3 (m + 1 + (O.length - m)) ((O.take m ++ x :: O.drop m).map numV) := by simpa [numV] using hown3
                refine Own.of_row hown3' (by simp; omega) (fun k e => ?_)
                rcases hb3 with h | h
                · have := HN2.out k (h ▸ e)
                  omega
                · have := h k e
                  have := HC5.out.size
                  omega
              have HCF := hid (Cl_grown HC5.out hg3 (fun k e => by have := HN2.out k e; omega) : Cl w w6)
              rw [← HPI.out, ← HTK.out] at hO3
              have HOF := hid hO3
              clear hown3 hg3 hb3 hO3 HO2 HN2 HE5 HC5
              go_wp2_with fail
              go_roundg (g0 - 1)
              case measure => have := HK.out; have := hjl.out; omega
              case rel => exact ⟨j + 1, _, by have := HK.out; have := hjl.out; omega, by go_num, rfl, by rw [HTK.out, HPI.out]; simp; have := HLN.out; omega, HMM.out, HOF.out, fun e => absurd e (Nat.succ_ne_zero _), HCF.out⟩
            | false =>
              cases q with
              | false =>
                have HST := aside (hST.out (by rw [HLT.out]; rfl))
                clear hST hSP HLT
                go_wp2_with fail
                apply Lw.region _ _ 19 (by kernel_rfl) (by kernel_rfl) (by kernel_rfl) (Below.refl _ _)
                iterate 8 (
                  apply Lw.one ?_ rfl
                  · intro w3 hw
                    go_simp
                    exact rfl
                  intro K hK
                  go_simp
                  refine hK.out _ ?_
                  clear hK K)
                iterate 9 (
                  apply Lw.skip (kd := none) rfl
                  intro K hK
                  go_simp
                  refine hK.out _ ?_
                  clear hK K)
                iterate 2 (
                  apply Lw.one ?_ rfl
                  · intro w3 hw
                    go_simp
                    exact rfl
                  intro K hK
                  go_simp
                  refine hK.out _ ?_
                  clear hK K)
                rotate_left
                exact []
                refine Lw.fin ?_
                intro v3 hm3
                have HCL3 := hid (HCL.out.call hm3)
                clear hm3 HCL HE HEL
                go_wp2_with fail
                go_roundg (g1 - 1)
                case measure => have := HKM.out; omega
                case rel => exact ⟨m + 1, by have := HKM.out; omega, by go_num, HST.out, HCL3.out⟩
              | true =>
                by_cases hxy : x < y
                · have hc : ((x : Int) < (y : Int)) = True := eq_true (by omega)
                  have HPI := aside (hSP.out (by rw [HLT.out, decide_eq_true hxy]; rfl))
                  clear hST hSP HLT
                  go_wp2_with fail
                  apply Lw.region _ _ 19 (by kernel_rfl) (by kernel_rfl) (by kernel_rfl) (Below.refl _ _)
                  iterate 19 (
                    apply Lw.one ?_ rfl
                    · intro w3 hw
                      have q1 := (HE.out.keep hw).num hmO
                      have q2 := (HEL.out.keep hw).num hj
                      rw [HYV.out, Nat.zero_add] at q1
                      rw [HXV.out] at q2
                      go_simp
                      exact rfl
                    intro K hK
                    go_simp
                    refine hK.out _ ?_
                    clear hK K)
                  rotate_left
                  exact []
                  refine Lw.fin ?_
                  intro v3 hm3
                  have HO := hid ((HO0.out.keep HCL.out).keep hm3)
                  have HEO := hid (HE.out.keep hm3)
                  have HEL2 := hid (HEL.out.keep hm3)
                  have HB := hid (HBB.out.call (HCL.out.call hm3))
                  have hgl3 : gl < v3.heap.size := HEL2.out.lt
                  have k1 := HEL2.out.num hj
                  rw [HXV.out] at k1
                  clear hm3 HCL HE HEL
                  have hcc := owns_cap HO.out.row
                  have hgi : g < v3.heap.size := HEO.out.lt
                  have hglo : w.heap.size ≤ v3.heap.size := HB.out.size
                  have i1 : (0 : Int) ≤ (m : Int) := by omega
                  have i2 : (m : Int) ≤ (c9 : Int) := by omega
                  have i3 : m ≤ c9 := by omega
                  have i4 : (m : Int) ≤ (O.length : Int) := by omega
                  have i5 : (O.length : Int) ≤ (c9 : Int) := by omega
                  have HRN := hid (own_new v3)
                  go_wp2_with ((at_builtin; refine wpList_push _ rfl _ _ 34 rfl 3 iI (.int .i64 0) 1 8 under_ints hI0 hI1 hI2 hI3 rfl (by decide) (.slice (some ⟨v3.heap.size, 0, none⟩) 0 0) 0 [] rfl HRN.out ⟨g, 0, none⟩ m c9 ((O.take m).map numV) rfl (by simp; omega) ((HEO.out.alo (.cells #[] 3)).first hm).news (nums_one _) (max_small (by omega)) (by omega) ?_))
                  intro v1 w4 hown1 hg1 hb1
                  have hown1' : w4.ownsRow 0 3 1 v1 m ((O.take m).map numV) := by simpa using hown1
                  have hn1 : ∀ k, v1.ownBlock = some k → v3.heap.size ≤ k := fun k e => by
                    rcases hb1 with h | h
                    · rw [h] at e
                      have e2 : v3.heap.size = k := Option.some.inj e
                      omega
                    · have := h k e
                      omega
                  have hcl4 : Cl w w4 := Cl_grown (HB.out.alloc (.cells #[] 3)) hg1 (fun k e => by have e2 : v3.heap.size = k := Option.some.inj e; omega)
                  have hE4 := Els_grown (HEO.out.alo (.cells #[] 3)) hg1 (fun e => by have e2 : v3.heap.size = g := Option.some.inj e; omega)
                  have hL4 := Els_grown (HEL2.out.alo (.cells #[] 3)) hg1 (fun e => by have e2 : v3.heap.size = gl := Option.some.inj e; have := HEL2.out.lt; omega)
                  have hs4 : v3.heap.size < w4.heap.size := by have := hg1.size; simp at this; omega
                  have k4 := hL4.num hj
                  rw [HXV.out] at k4
                  obtain ⟨a1, c1, rfl, -⟩ := owns_slice hown1'
                  have HO1 := hid hown1'
                  have HN1 := aside hn1
                  have HE4 := hid hE4
                  have HC4 := hid hcl4
                  have hgl4 : gl < w4.heap.size := hL4.lt
                  clear hown1 hown1' hg1 hb1 hn1 hE4 hL4 hcl4 HRN
                  go_wp2_with ((at_builtin; refine wpList_push _ rfl _ _ 34 rfl 3 iI (.int .i64 0) 1 8 under_ints hI0 hI1 hI2 hI3 rfl (by decide) (.slice a1 m c1) m ((O.take m).map numV) rfl (HO1.out.alloc (.cells #[.int .i64 (x : Int)] 3)) ⟨w4.heap.size, 0, none⟩ 1 1 [.int .i64 (x : Int)] rfl rfl (cells_at0 (Lp.Bk.al w4 _ _)) (by simp [Value.oneCell']) (max_small (by omega)) (by omega) ?_))
                  intro v2 w5 hown2 hg2 hb2
                  have hn2 : ∀ k, v2.ownBlock = some k → v3.heap.size ≤ k := fun k e => by
                    rcases hb2 with h | h
                    · exact HN1.out k (h ▸ e)
                    · have := h k e
                      omega
                  have hcl5 : Cl w w5 := Cl_grown (HC4.out.alloc (.cells #[.int .i64 (x : Int)] 3)) hg2 (fun k e => by have := HN1.out k e; omega)
                  have hE5 := Els_grown (HE4.out.alo (.cells #[.int .i64 (x : Int)] 3)) hg2 (fun e => by have := HN1.out g e; omega)
                  obtain ⟨a2, c2, rfl, -⟩ := owns_slice hown2
                  have hown2' : w5.ownsRow 0 3 1 (.slice a2 (m + 1) c2) (m + 1) ((O.take m).map numV ++ [.int .i64 (x : Int)]) := by simpa using hown2
                  have HO2 := hid hown2'
                  have HN2 := aside hn2
                  have HE5 := hid hE5
                  have HC5 := hid hcl5
                  clear hown2 hown2' hg2 hb2 hn2 hE5 hcl5 HO1 HN1 HE4 HC4 k4 hgl4
                  have i8 : (m = c9) = False := eq_false (by omega)
                  have i9 : (c9 = m) = False := eq_false (by omega)
                  go_wp2_with ((at_builtin; refine wpList_push _ rfl _ _ 34 rfl 3 iI (.int .i64 0) 1 8 under_ints hI0 hI1 hI2 hI3 rfl (by decide) (.slice a2 (m + 1) c2) (m + 1) ((O.take m).map numV ++ [.int .i64 (x : Int)]) rfl HO2.out ⟨g, m, none⟩ (O.length - m) (c9 - m) ((O.drop m).map numV) rfl (by simp) (by have := HE5.out.last hm; rw [Nat.zero_add] at this; exact this.news) (nums_one _) (max_small (by omega)) (by omega) ?_))
                  intro v3 w6 hown3 hg3 hb3
                  have hO3 : Own w.heap.size w6 3 1 v3 (O.take m ++ x :: O.drop m).length (lvs (O.take m ++ x :: O.drop m)) := by
                    have hown3' : w6.ownsRow 0 3 1 v3 (m + 1 + (O.length - m)) ((O.take m ++ x :: O.drop m).map numV) := by simpa [numV] using hown3
                    refine Own.of_row hown3' (by simp; omega) (fun k e => ?_)
                    rcases hb3 with h | h
                    · have := HN2.out k (h ▸ e)
                      omega
                    · have := h k e
                      have := HC5.out.size
                      omega
                  have HCF := hid (Cl_grown HC5.out hg3 (fun k e => by have := HN2.out k e; omega) : Cl w w6)
                  rw [← HPI.out, ← HTK.out] at hO3
                  have HOF := hid hO3
                  clear hown3 hg3 hb3 hO3 HO2 HN2 HE5 HC5
                  go_wp2_with fail
                  go_roundg (g0 - 1)
                  case measure => have := HK.out; have := hjl.out; omega
                  case rel => exact ⟨j + 1, _, by have := HK.out; have := hjl.out; omega, by go_num, rfl, by rw [HTK.out, HPI.out]; simp; have := HLN.out; omega, HMM.out, HOF.out, fun e => absurd e (Nat.succ_ne_zero _), HCF.out⟩
                · have hc : ((x : Int) < (y : Int)) = False := eq_false (by omega)
                  have HST := aside (hST.out (by rw [HLT.out, decide_eq_false hxy]; rfl))
                  clear hST hSP HLT
                  go_wp2_with fail
                  apply Lw.region _ _ 19 (by kernel_rfl) (by kernel_rfl) (by kernel_rfl) (Below.refl _ _)
                  iterate 19 (
                    apply Lw.one ?_ rfl
                    · intro w3 hw
                      have q1 := (HE.out.keep hw).num hmO
                      have q2 := (HEL.out.keep hw).num hj
                      rw [HYV.out, Nat.zero_add] at q1
                      rw [HXV.out] at q2
                      go_simp
                      exact rfl
                    intro K hK
                    go_simp
                    refine hK.out _ ?_
                    clear hK K)
                  rotate_left
                  exact []
                  refine Lw.fin ?_
                  intro v3 hm3
                  have HCL3 := hid (HCL.out.call hm3)
                  clear hm3 HCL HE HEL
                  go_wp2_with fail
                  go_roundg (g1 - 1)
                  case measure => have := HKM.out; omega
                  case rel => exact ⟨m + 1, by have := HKM.out; omega, by go_num, HST.out, HCL3.out⟩
          · have hdm : ((m : Int) < (O.length : Int)) = False := eq_false (by omega)
            have hmE : m = O.length := by omega
            have HPI := aside (putK_at O m hpre hm (.inl hmE))
            have HME := aside hmE
            clear hmE
            have HE := hid (HE0.out.keep hcl)
            have HEL := hid (HEL0.out.keep hcl)
            have HCL := hid hcl
            have hm5 : m ≤ 1000 := by omega
            clear hcl hpre
            obtain ⟨v3, hv3⟩ : ∃ v3, v3 = wi := ⟨_, rfl⟩
            subst hv3
            have HO := hid (HO0.out.keep HCL.out)
            have HEO := hid (HE.out)
            have HEL2 := hid (HEL.out)
            have HB := hid (HBB.out.call (HCL.out))
            have hgl3 : gl < v3.heap.size := HEL2.out.lt
            have k1 := HEL2.out.num hj
            rw [HXV.out] at k1
            clear HCL HE HEL
            have hcc := owns_cap HO.out.row
            have hgi : g < v3.heap.size := HEO.out.lt
            have hglo : w.heap.size ≤ v3.heap.size := HB.out.size
            have i1 : (0 : Int) ≤ (m : Int) := by omega
            have i2 : (m : Int) ≤ (c9 : Int) := by omega
            have i3 : m ≤ c9 := by omega
            have i4 : (m : Int) ≤ (O.length : Int) := by omega
            have i5 : (O.length : Int) ≤ (c9 : Int) := by omega
            have HRN := hid (own_new v3)
            go_wp2_with ((at_builtin; refine wpList_push _ rfl _ _ 34 rfl 3 iI (.int .i64 0) 1 8 under_ints hI0 hI1 hI2 hI3 rfl (by decide) (.slice (some ⟨v3.heap.size, 0, none⟩) 0 0) 0 [] rfl HRN.out ⟨g, 0, none⟩ m c9 ((O.take m).map numV) rfl (by simp; omega) ((HEO.out.alo (.cells #[] 3)).first hm).news (nums_one _) (max_small (by omega)) (by omega) ?_))
            intro v1 w4 hown1 hg1 hb1
            have hown1' : w4.ownsRow 0 3 1 v1 m ((O.take m).map numV) := by simpa using hown1
            have hn1 : ∀ k, v1.ownBlock = some k → v3.heap.size ≤ k := fun k e => by
              rcases hb1 with h | h
              · rw [h] at e
                have e2 : v3.heap.size = k := Option.some.inj e
                omega
              · have := h k e
                omega
            have hcl4 : Cl w w4 := Cl_grown (HB.out.alloc (.cells #[] 3)) hg1 (fun k e => by have e2 : v3.heap.size = k := Option.some.inj e; omega)
            have hE4 := Els_grown (HEO.out.alo (.cells #[] 3)) hg1 (fun e => by have e2 : v3.heap.size = g := Option.some.inj e; omega)
            have hL4 := Els_grown (HEL2.out.alo (.cells #[] 3)) hg1 (fun e => by have e2 : v3.heap.size = gl := Option.some.inj e; have := HEL2.out.lt; omega)
            have hs4 : v3.heap.size < w4.heap.size := by have := hg1.size; simp at this; omega
            have k4 := hL4.num hj
            rw [HXV.out] at k4
            obtain ⟨a1, c1, rfl, -⟩ := owns_slice hown1'
            have HO1 := hid hown1'
            have HN1 := aside hn1
            have HE4 := hid hE4
            have HC4 := hid hcl4
            have hgl4 : gl < w4.heap.size := hL4.lt
            clear hown1 hown1' hg1 hb1 hn1 hE4 hL4 hcl4 HRN
            go_wp2_with ((at_builtin; refine wpList_push _ rfl _ _ 34 rfl 3 iI (.int .i64 0) 1 8 under_ints hI0 hI1 hI2 hI3 rfl (by decide) (.slice a1 m c1) m ((O.take m).map numV) rfl (HO1.out.alloc (.cells #[.int .i64 (x : Int)] 3)) ⟨w4.heap.size, 0, none⟩ 1 1 [.int .i64 (x : Int)] rfl rfl (cells_at0 (Lp.Bk.al w4 _ _)) (by simp [Value.oneCell']) (max_small (by omega)) (by omega) ?_))
            intro v2 w5 hown2 hg2 hb2
            have hn2 : ∀ k, v2.ownBlock = some k → v3.heap.size ≤ k := fun k e => by
              rcases hb2 with h | h
              · exact HN1.out k (h ▸ e)
              · have := h k e
                omega
            have hcl5 : Cl w w5 := Cl_grown (HC4.out.alloc (.cells #[.int .i64 (x : Int)] 3)) hg2 (fun k e => by have := HN1.out k e; omega)
            have hE5 := Els_grown (HE4.out.alo (.cells #[.int .i64 (x : Int)] 3)) hg2 (fun e => by have := HN1.out g e; omega)
            obtain ⟨a2, c2, rfl, -⟩ := owns_slice hown2
            have hown2' : w5.ownsRow 0 3 1 (.slice a2 (m + 1) c2) (m + 1) ((O.take m).map numV ++ [.int .i64 (x : Int)]) := by simpa using hown2
            have HO2 := hid hown2'
            have HN2 := aside hn2
            have HE5 := hid hE5
            have HC5 := hid hcl5
            clear hown2 hown2' hg2 hb2 hn2 hE5 hcl5 HO1 HN1 HE4 HC4 k4 hgl4
            by_cases hmc : m = c9
            · have i8 : (m = c9) = True := eq_true hmc
              have i9 : (c9 = m) = True := eq_true hmc.symm
              clear hmc
              go_wp2_with ((at_builtin; refine wpList_push _ rfl _ _ 34 rfl 3 iI (.int .i64 0) 1 8 under_ints hI0 hI1 hI2 hI3 rfl (by decide) (.slice a2 (m + 1) c2) (m + 1) ((O.take m).map numV ++ [.int .i64 (x : Int)]) rfl HO2.out ⟨g, 0, none⟩ (O.length - m) (c9 - m) ((O.drop m).map numV) rfl (by simp) (fun i u h => by have hme := HME.out; rw [List.drop_eq_nil_of_le (by omega)] at h; cases h) (nums_one _) (max_small (by omega)) (by omega) ?_))
              intro v3 w6 hown3 hg3 hb3
              have hO3 : Own w.heap.size w6 3 1 v3 (O.take m ++ x :: O.drop m).length (lvs (O.take m ++ x :: O.drop m)) := by
                have hown3' : w6.ownsRow 0 3 1 v3 (m + 1 + (O.length - m)) ((O.take m ++ x :: O.drop m).map numV) := by simpa [numV] using hown3
                refine Own.of_row hown3' (by simp; omega) (fun k e => ?_)
                rcases hb3 with h | h
                · have := HN2.out k (h ▸ e)
                  omega
                · have := h k e
                  have := HC5.out.size
                  omega
              have HCF := hid (Cl_grown HC5.out hg3 (fun k e => by have := HN2.out k e; omega) : Cl w w6)
              rw [← HPI.out, ← HTK.out] at hO3
              have HOF := hid hO3
              clear hown3 hg3 hb3 hO3 HO2 HN2 HE5 HC5
              go_wp2_with fail
              go_roundg (g0 - 1)
              case measure => have := HK.out; have := hjl.out; omega
              case rel => exact ⟨j + 1, _, by have := HK.out; have := hjl.out; omega, by go_num, rfl, by rw [HTK.out, HPI.out]; simp; have := HLN.out; omega, HMM.out, HOF.out, fun e => absurd e (Nat.succ_ne_zero _), HCF.out⟩
            · have i8 : (m = c9) = False := eq_false hmc
              have i9 : (c9 = m) = False := eq_false (by omega)
              go_wp2_with ((at_builtin; refine wpList_push _ rfl _ _ 34 rfl 3 iI (.int .i64 0) 1 8 under_ints hI0 hI1 hI2 hI3 rfl (by decide) (.slice a2 (m + 1) c2) (m + 1) ((O.take m).map numV ++ [.int .i64 (x : Int)]) rfl HO2.out ⟨g, m, none⟩ (O.length - m) (c9 - m) ((O.drop m).map numV) rfl (by simp) (by have := HE5.out.last hm; rw [Nat.zero_add] at this; exact this.news) (nums_one _) (max_small (by omega)) (by omega) ?_))
              intro v3 w6 hown3 hg3 hb3
              have hO3 : Own w.heap.size w6 3 1 v3 (O.take m ++ x :: O.drop m).length (lvs (O.take m ++ x :: O.drop m)) := by
                have hown3' : w6.ownsRow 0 3 1 v3 (m + 1 + (O.length - m)) ((O.take m ++ x :: O.drop m).map numV) := by simpa [numV] using hown3
                refine Own.of_row hown3' (by simp; omega) (fun k e => ?_)
                rcases hb3 with h | h
                · have := HN2.out k (h ▸ e)
                  omega
                · have := h k e
                  have := HC5.out.size
                  omega
              have HCF := hid (Cl_grown HC5.out hg3 (fun k e => by have := HN2.out k e; omega) : Cl w w6)
              rw [← HPI.out, ← HTK.out] at hO3
              have HOF := hid hO3
              clear hown3 hg3 hb3 hO3 HO2 HN2 HE5 HC5
              go_wp2_with fail
              go_roundg (g0 - 1)
              case measure => have := HK.out; have := hjl.out; omega
              case rel => exact ⟨j + 1, _, by have := HK.out; have := hjl.out; omega, by go_num, rfl, by rw [HTK.out, HPI.out]; simp; have := HLN.out; omega, HMM.out, HOF.out, fun e => absurd e (Nat.succ_ne_zero _), HCF.out⟩
    · have hd : ((j : Int) < (l.length : Int)) = False := eq_false (by omega)
      have hjn : j = l.length := by have := HK.out; omega
      subst hjn
      rw [List.take_of_length_le (Nat.le_refl _)] at hOF
      have hOF2 : O = medF K l := hOF
      obtain ⟨a0, c0, hsl⟩ := hO.slice
      subst hsl
      have HO := hid hO
      clear hO hnil hOl
      go_wp2_with fail
      refine bodyPost_ret (v := .slice a0 O.length c0) (by simp [results, go_sem]) rfl ⟨_, rfl, ?_, HB⟩
      rw [← hOF2]
      exact HO.out

end Go.Proofs.YtijoaklknpkdoaaGreat
