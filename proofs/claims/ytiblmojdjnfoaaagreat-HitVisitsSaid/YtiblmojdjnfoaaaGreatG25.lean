/- The reference: First. HitScans: the walk. HitVisits: which nodes are marked, by lists; a block of marks. HitVisits: the walk. A vector that comes in, opened and shut. -/
import Derived.Deep.RegionHeld3
import Derived.ProofKit
import Derived.Lib.SmallJoins
import Derived.Test.YtiblmojdjnfoaaaGreatG16
import Derived.Test.YtiblmojdjnfoaaaGreatG24
import Derived.Test.YtiblmojdjnfoaaaGreatG12
import Derived.Test.YtiblmojdjnfoaaaGreatRows
import Derived.Test.YtiblmojdjnfoaaaGreatG3
namespace Go.Proofs.YtiblmojdjnfoaaaGreat
open Go.RowKit Fl Lm

set_option maxRecDepth 100000 in
set_option maxHeartbeats 4000000 in
theorem rfirst_c (T : Nat → Tr) (n c cs : Nat) (K : List Int) (O D : V3) (ao az : Option Addr) (w : World)
    (hL : Sl w ao n 9 fun i => tcs (T i)) (hK : Sl w az K.length 1 (kvs K)) (hn : n ≤ 1000) (h5 : K.length ≤ 1000) :
    Calls Tryz.prog 10 #[.slice ao n c, .agg #[.float .f64 O.x, .float .f64 O.y, .float .f64 O.z, .float .f64 D.x, .float .f64 D.y, .float .f64 D.z], .slice az K.length cs] w fun e W' => ∃ b, e = .returned (hitN b) ∧ Best (metK T K O D) n b [] ∧ Cl w W' := by
  have HL := hid hL
  have HK := hid hK
  have HK5 := aside h5
  clear hL hK
  go_enter Tryz.func10, Tryz.ntmps10
  go_wp2_with fail
  go_loopg [8] n (fun k i wr => ∃ b : Hit, k ≤ n ∧ i = .int .i64 ((k : Int) - 1) ∧ Best (metK T K O D) n b (List.range k) ∧ (∀ j e, b = some (j, e) → k ≤ j) ∧ Lp.Bk wr w.heap.size #[.float .f64 O.x, .float .f64 O.y, .float .f64 O.z, .float .f64 D.x, .float .f64 D.y, .float .f64 D.z] 27 ∧ Lp.Bk wr (w.heap.size + 1) #[.int .i64 0, .float .f64 0, .float .f64 0, .float .f64 0] 35 ∧ Lp.Bk wr (w.heap.size + 1 + 1) (hcs b) 35 ∧ Cl w wr)
  case atStart => exact ⟨none, Nat.le_refl _, by go_num, Best.start, fun _ _ h => (by cases h), ((Lp.Bk.al _ _ _).alo _).alo _, (Lp.Bk.al1 _ _ _ _).alo _, Lp.Bk.al2 _ _ _ _ _, (((Below.refl _ _).alloc (Nat.le_refl _) _).alloc (by simp) _).alloc (by simp <;> omega) _⟩
  case round =>
    obtain ⟨g0, hg0⟩ : ∃ g0, g0 = gk := ⟨_, rfl⟩
    subst hg0
    obtain ⟨wo, hwo⟩ : ∃ wo, wo = wr := ⟨_, rfl⟩
    subst hwo
    obtain ⟨bh, hgn, rfl, hBest, hLow, BY, BR, BH, HB⟩ := hrel
    have HBE := aside (And.intro hBest hLow)
    clear hBest hLow
    by_cases h0 : g0 = 0
    · subst h0
      have HF := aside (hitN_is bh)
      obtain ⟨q0, q1, q2, q3, e4⟩ := hcsQ bh
      rw [e4] at BH HF
      have kH := BH.cell
      have kR := BR.cell
      have zR := BR.frz
      have HBB := hid HB
      clear e4 HB
      go_wp2_with fail
      refine bodyPost_ret (v := .agg #[.int .i64 q0, .float .f64 q1, .float .f64 q2, .float .f64 q3]) (by simp [results, go_sem, kR]) rfl ⟨bh, by rw [HF.out], by simpa using HBE.out.1, ?_⟩
      repeat (refine Below.setCell ?_ (by dsimp only; omega) _)
      exact HBB.out
    · obtain ⟨j, rfl⟩ : ∃ j, g0 = j + 1 := ⟨g0 - 1, by omega⟩
      have hj : j < n := by omega
      have hj5 : j < 1000 := by omega
      have ei : (((j + 1 : Nat) : Int) - 1) = (j : Int) := by omega
      rw [ei]
      have hd : ((0 : Int) ≤ (j : Int)) = True := eq_true (by omega)
      have hd2 : ((j : Int) < (n : Int)) = True := eq_true (by omega)
      have HGN := aside hgn
      clear h0 ei hgn
      obtain ⟨gz, oz, haz, EZ0⟩ := HL.out.get hj
      subst haz
      have EZ := hid (EZ0.keep HB)
      clear EZ0
      have HMT := hid (fun w' => rmeet_c O D (T j) w')
      generalize htt : T j = t at HMT
      have HT := aside htt
      clear htt
      have hM : ∃ x y z b0, outM (meetT O D t) = .tuple #[.float .f64 x, .float .f64 y, .float .f64 z, .bool b0] ∧ b0 = (meetT O D t).isSome ∧ ∀ h, meetT O D t = some h → x = h.x ∧ y = h.y ∧ z = h.z := by
        cases meetT O D t with
        | none => exact ⟨_, _, _, _, rfl, rfl, fun _ h => by cases h⟩
        | some h => exact ⟨_, _, _, _, rfl, rfl, fun _ e => by cases e; exact ⟨rfl, rfl, rfl⟩⟩
      obtain ⟨mx, my, mz, mb, e5, e6, e7⟩ := hM
      rw [e5] at HMT
      have HMM := aside (And.intro e6 e7)
      clear e5 e6 e7
      have HJ := aside hj
      clear hj
      go_wp2_with fail
      apply Lw.region _ _ 15 (by kernel_rfl) (by kernel_rfl) (by kernel_rfl) (Below.refl _ _)
      apply Lw.facts
      · intro w1 hw
        exact And.intro (BY.cl hw).cell (tat (EZ.out.keep hw) HJ.out)
      intro HF
      iterate 5 (
        apply Lw.one ?_ rfl
        · intro w3 hw
          obtain ⟨k1, k2⟩ := HF.out _ hw
          rw [HT.out] at k2
          obtain ⟨t0, t1, t2, t3, t4, t5, t6, t7, t8⟩ := k2
          go_simp
          exact rfl
        intro K0 hK0
        go_simp
        refine hK0.out _ ?_
        clear hK0 K0)
      apply Lw.any rfl
      · intro w3 hw
        go_simp
        exact Lw.ret (HMT.out _)
      intro K0 hK0
      rintro v rfl
      go_simp
      refine hK0.out _ ?_
      clear hK0 K0
      iterate 9 (
        apply Lw.one ?_ rfl
        · intro w3 hw
          go_simp
          exact rfl
        intro K0 hK0
        go_simp
        refine hK0.out _ ?_
        clear hK0 K0)
      rotate_left
      exact []
      refine Lw.fin ?_
      intro v3 hm
      have HB3 := hid (HB.call hm)
      have HBY := hid (BY.keep hm)
      have HBR := hid (BR.keep hm)
      have HBH := hid (BH.keep hm)
      clear hm HF BY HB BR BH EZ HMT
      go_wp2_with fail
      go_loopg [12, 13] K.length (fun k o i wr => ∃ (m : Nat) (b : Bool), k + m = K.length ∧ i = .int .i64 (m : Int) ∧ o = .bool b ∧ b = (mb && neB K (j : Int) m) ∧ wr = v3)
      case atStart => exact ⟨0, mb, Nat.add_zero _, rfl, rfl, by simp [neB], rfl⟩
      case round =>
        obtain ⟨g1, hg1⟩ : ∃ g1, g1 = gk := ⟨_, rfl⟩
        subst hg1
        obtain ⟨m, b, hk1, rfl, rfl, hbv, hwr⟩ := hrel
        subst hwr
        have HP1 := aside hk1
        have HBV := aside hbv
        clear hk1 hbv
        by_cases hm1 : m < K.length
        · have hd1 : ((m : Int) < (K.length : Int)) = True := eq_true (by omega)
          have hm5 : m < 1000 := by have := HK5.out; omega
          have HM1 := aside hm1
          cases b with
          | false =>
            have HNX := aside (show false = (mb && neB K (j : Int) (m + 1)) by unfold neB; rw [← Bool.and_assoc, ← HBV.out, Bool.false_and])
            clear hm1
            go_wp2_with fail
            go_roundg (g1 - 1)
            case measure => have := HP1.out; have := HM1.out; omega
            case rel => exact ⟨m + 1, false, by have := HP1.out; have := HM1.out; omega, by go_num, rfl, HNX.out, rfl⟩
          | true =>
            obtain ⟨gk1, ok1, hak, EK⟩ := HK.out.get hm1
            have kK := kat (EK.keep HB3.out) hm1
            subst hak
            clear EK
            by_cases hx : K.getD m 0 = (j : Int)
            · have HNX := aside (show false = (mb && neB K (j : Int) (m + 1)) by unfold neB; rw [← Bool.and_assoc, ← HBV.out, Bool.true_and, decide_eq_false (by rw [hx]; exact fun h => h rfl)])
              rw [hx] at kK
              clear hm1 hx
              go_wp2_with fail
              go_roundg (g1 - 1)
              case measure => have := HP1.out; have := HM1.out; omega
              case rel => exact ⟨m + 1, false, by have := HP1.out; have := HM1.out; omega, by go_num, rfl, HNX.out, rfl⟩
            · have HNX := aside (show true = (mb && neB K (j : Int) (m + 1)) by unfold neB; rw [← Bool.and_assoc, ← HBV.out, Bool.true_and, decide_eq_true hx])
              generalize hy : K.getD m 0 = y at kK hx
              have hx1 : (y = (j : Int)) = False := eq_false hx
              have hx2 : (y == (j : Int)) = false := beq_eq_false_iff_ne.2 hx
              have hx3 : (y != (j : Int)) = true := bne_iff_ne.2 hx
              clear hm1 hy
              go_wp2_with fail
              go_roundg (g1 - 1)
              case measure => have := HP1.out; have := HM1.out; omega
              case rel => exact ⟨m + 1, true, by have := HP1.out; have := HM1.out; omega, by go_num, rfl, HNX.out, rfl⟩
        · have hd1 : ((m : Int) < (K.length : Int)) = False := eq_false (by omega)
          obtain rfl : m = K.length := by have := HP1.out; omega
          have hMK := metK_some (T := T) (K := K) (O := O) (D := D) (i := j) b (by rw [HT.out, HBV.out, HMM.out.1])
          rw [HT.out] at hMK
          clear hm1
          have hstep : ∀ b', b' = aheadN (askN (metK T K O D) j) bh → Best (metK T K O D) n b' (List.range j) := fun b' e => by
            rw [e]
            exact (HBE.out.1.more (M := j :: List.range j) fun i hi => by
              rw [List.mem_range] at hi
              rcases Nat.lt_succ_iff_lt_or_eq.1 hi with h | h
              · exact List.mem_cons_of_mem _ (List.mem_range.2 h)
              · rw [h]; exact List.mem_cons_self ..).step HJ.out
          have hlow : ∀ k e, bh = some (k, e) → j ≤ k := fun k e h => by have := HBE.out.2 k e h; omega
          cases b with
          | false =>
            have hMN := hMK.2 rfl
            have HST := aside (And.intro (hstep bh (by unfold askN; rw [hMN]; rfl)) hlow)
            clear hMK hMN hstep hlow
            go_wp2_with fail
            go_roundg j
            case measure => omega
            case rel => exact ⟨bh, by have := HGN.out; omega, by go_num, HST.out.1, HST.out.2, HBY.out, HBR.out, HBH.out, HB3.out⟩
          | true =>
            obtain ⟨hM1, hM2⟩ := hMK.1 rfl
            obtain ⟨h, hh⟩ := Option.isSome_iff_exists.1 hM2
            have ex := HMM.out.2 h hh
            have hask : askN (metK T K O D) j = some (j, h) := by unfold askN; rw [hM1, hh]; rfl
            have hbt := ref_step (f := metK T K O D) (g := h) (i := j) HBE.out.1 (fun k e hb => by have := HBE.out.2 k e hb; omega)
            have hne : (w.heap.size + 1 + 1 = w.heap.size) = False := eq_false (by omega)
            obtain ⟨ex1, ex2, ex3⟩ := ex
            have hnew : betN (some (j, h)) bh = true → Best (metK T K O D) n (some (j, h)) (List.range j) := fun e => hstep _ (by rw [hask]; unfold aheadN; rw [e]; rfl)
            have hold : betN (some (j, h)) bh = false → Best (metK T K O D) n bh (List.range j) := fun e => hstep _ (by rw [hask]; unfold aheadN; rw [e]; rfl)
            have hcell : hcs (some (j, h)) = #[.int .i64 (j : Nat), .float .f64 mx, .float .f64 my, .float .f64 mz] := by rw [ex1, ex2, ex3]; rfl
            rcases bh with _ | ⟨k, e⟩
            · have HST := aside (And.intro (hnew rfl) (And.intro hcell (show ∀ (k : Nat) (e : V3), (some (j, h) : Hit) = some (k, e) → j ≤ k from fun k e q => by cases q; exact Nat.le_refl _)))
              have BH := HBH.out
              unfold hcs at BH
              have kH := BH.cell
              have zH := BH.frz
              clear hMK hstep hlow hM1 hM2 hh ex1 ex2 ex3 hask hbt hnew hold hcell HBE BH
              go_wp2_with fail
              have HBX := hid HBH.out
              unfold hcs at HBX
              have hfin : Lp.Bk ((((wr.setCell ⟨w.heap.size + 1 + 1, 0, none⟩ (.int .i64 (j : Nat))).setCell ⟨w.heap.size + 1 + 1, 1, none⟩ (.float .f64 mx)).setCell ⟨w.heap.size + 1 + 1, 2, none⟩ (.float .f64 my)).setCell ⟨w.heap.size + 1 + 1, 3, none⟩ (.float .f64 mz)) (w.heap.size + 1 + 1) (hcs (some (j, h))) 35 := by rw [HST.out.2.1]; exact (((HBX.out.set 0 _).set 1 _).set 2 _).set 3 _
              go_roundg j
              case measure => omega
              case rel => exact ⟨some (j, h), by have := HGN.out; omega, by go_num, HST.out.1, HST.out.2.2, (((HBY.out.seto (by dsimp only; omega) _).seto (by dsimp only; omega) _).seto (by dsimp only; omega) _).seto (by dsimp only; omega) _, (((HBR.out.seto (by dsimp only; omega) _).seto (by dsimp only; omega) _).seto (by dsimp only; omega) _).seto (by dsimp only; omega) _, hfin, Below.setCell (Below.setCell (Below.setCell (Below.setCell HB3.out (by dsimp only; omega) _) (by dsimp only; omega) _) (by dsimp only; omega) _) (by dsimp only; omega) _⟩
            · have hbt' : leB mx e.x = betN (some (j, h)) (some (k, e)) := by rw [ex1]; exact hbt
              have hc0 := le_w (Sm.refl mx) (Sm.refl e.x)
              have hkn : ((k : Int) < 0) = False := eq_false (by omega)
              cases hl : leB mx e.x with
              | false =>
                have HST := aside (And.intro (hold (by rw [← hbt', hl])) hlow)
                rw [hl] at hc0
                have BH := HBH.out
                unfold hcs at BH
                have kH := BH.cell
                clear hMK hstep hlow hM1 hM2 hh ex1 ex2 ex3 hask hbt hbt' hnew hold hcell HBE BH hl
                go_wp2_with fail
                go_roundg j
                case measure => omega
                case rel => exact ⟨some (k, e), by have := HGN.out; omega, by go_num, HST.out.1, HST.out.2, HBY.out, HBR.out, HBH.out, HB3.out⟩
              | true =>
                have HST := aside (And.intro (hnew (by rw [← hbt', hl])) (And.intro hcell (show ∀ (k : Nat) (e : V3), (some (j, h) : Hit) = some (k, e) → j ≤ k from fun k e q => by cases q; exact Nat.le_refl _)))
                rw [hl] at hc0
                have BH := HBH.out
                unfold hcs at BH
                have kH := BH.cell
                have zH := BH.frz
                clear hMK hstep hlow hM1 hM2 hh ex1 ex2 ex3 hask hbt hbt' hnew hold hcell HBE BH hl
                go_wp2_with fail
                have HBX := hid HBH.out
                unfold hcs at HBX
                have hfin : Lp.Bk ((((wr.setCell ⟨w.heap.size + 1 + 1, 0, none⟩ (.int .i64 (j : Nat))).setCell ⟨w.heap.size + 1 + 1, 1, none⟩ (.float .f64 mx)).setCell ⟨w.heap.size + 1 + 1, 2, none⟩ (.float .f64 my)).setCell ⟨w.heap.size + 1 + 1, 3, none⟩ (.float .f64 mz)) (w.heap.size + 1 + 1) (hcs (some (j, h))) 35 := by rw [HST.out.2.1]; exact (((HBX.out.set 0 _).set 1 _).set 2 _).set 3 _
                go_roundg j
                case measure => omega
                case rel => exact ⟨some (j, h), by have := HGN.out; omega, by go_num, HST.out.1, HST.out.2.2, (((HBY.out.seto (by dsimp only; omega) _).seto (by dsimp only; omega) _).seto (by dsimp only; omega) _).seto (by dsimp only; omega) _, (((HBR.out.seto (by dsimp only; omega) _).seto (by dsimp only; omega) _).seto (by dsimp only; omega) _).seto (by dsimp only; omega) _, hfin, Below.setCell (Below.setCell (Below.setCell (Below.setCell HB3.out (by dsimp only; omega) _) (by dsimp only; omega) _) (by dsimp only; omega) _) (by dsimp only; omega) _⟩
end Go.Proofs.YtiblmojdjnfoaaaGreat

namespace Go.Proofs.YtiblmojdjnfoaaaGreat
open Go.RowKit Fl Lm Rg

theorem Ret.of {P : Program} {f : FuncId} {args : Array Value} {w : World} {X : Value} (h : Calls P f args w fun e W' => e = .returned X ∧ Cl w W') : Ret P f args w (fun v => v = X) := Calls.mono h fun _ _ ⟨h1, h2⟩ => ⟨_, h1, rfl, h2⟩
theorem rfirst_is (T : Nat → Tr) (n c cs : Nat) (K : List Int) (O D : V3) (ao az : Option Addr) (w : World) (hL : Sl w ao n 9 fun i => tcs (T i)) (hK : Sl w az K.length 1 (kvs K)) (hn : n ≤ 1000) (h5 : K.length ≤ 1000) :
    Calls Tryz.prog 10 #[.slice ao n c, .agg #[.float .f64 O.x, .float .f64 O.y, .float .f64 O.z, .float .f64 D.x, .float .f64 D.y, .float .f64 D.z], .slice az K.length cs] w fun e W' => e = .returned (.agg (hcs (fstF (metK T K O D) n))) ∧ Cl w W' :=
  Calls.mono (rfirst_c T n c cs K O D ao az w hL hK hn h5) fun e W' ⟨b, h1, h2, h3⟩ => ⟨by rw [h1, h2.is (metK_num T K O D), hitN_is], h3⟩
set_option maxRecDepth 100000 in
set_option maxHeartbeats 4000000 in
theorem scans_any (T : Nat → Tr) (n c m cs x : Nat) (K : List Int) (O D : V3) (ao az : Option Addr) (w : World) (hL : Sl w ao n 9 fun i => tcs (T i)) (hc : n ≤ c) (hm : m ≤ cs) (hK1 : min 10 m = K.length) (hK : Sl w az K.length 1 (kvs K)) :
    Ret Tryz.prog 3 #[.agg #[.slice ao n c, .float .f64 O.x, .float .f64 O.y, .float .f64 O.z, .float .f64 D.x, .float .f64 D.y, .float .f64 D.z, .float .f64 x, .slice az m cs]] w (fun v => v = .bool true) := by
  unfold Ret
  have hk5 : K.length ≤ 1000 := by omega
  have HSK := hid (fun w' => show Calls Tryz.prog 6 #[.slice az m cs] w' (fun e W' => e = .returned (.slice az K.length cs) ∧ W' = w') from hK1 ▸ skips_any m cs az w' hm)
  have HL := hid hL
  have HK := hid hK
  have HK5 := aside hk5
  clear hL hK hm hK1 hk5
  go_enter Tryz.func3, Tryz.ntmps3
  go_wp2_with fail
  refine Lp.settle (fun w' => Lp.Bk w' w.heap.size #[.slice ao n c, .float .f64 O.x, .float .f64 O.y, .float .f64 O.z, .float .f64 D.x, .float .f64 D.y, .float .f64 D.z, .float .f64 x, .slice az m cs] 30 ∧ Cl w w') ⟨Lp.Bk.al _ _ _, (Below.refl _ _).alloc (Nat.le_refl _) _⟩ ?_
  rintro v1 ⟨BQ, HB⟩
  by_cases h1 : 100 < n
  · have hd : (100 < (n : Int)) = True := eq_true (by omega)
    have h2 : (100 : Int) ≤ (c : Int) := by omega
    have h3 : 100 ≤ c := by omega
    have HLN := hid (HL.out.less (m := 100) (Nat.le_of_lt h1))
    clear HL hc
    have HS := hid (fun w' (hb : Below v1.heap.size v1 w') => show Below v1.heap.size v1 w' ∧ w'.cell? ⟨w.heap.size, 0, none⟩ = some (.slice ao n c) ∧ w'.cell? ⟨w.heap.size, 1, none⟩ = some (.float .f64 O.x) ∧ w'.cell? ⟨w.heap.size, 2, none⟩ = some (.float .f64 O.y) ∧ w'.cell? ⟨w.heap.size, 3, none⟩ = some (.float .f64 O.z) ∧ w'.cell? ⟨w.heap.size, 4, none⟩ = some (.float .f64 D.x) ∧ w'.cell? ⟨w.heap.size, 5, none⟩ = some (.float .f64 D.y) ∧ w'.cell? ⟨w.heap.size, 6, none⟩ = some (.float .f64 D.z) ∧ w'.cell? ⟨w.heap.size, 7, none⟩ = some (.float .f64 x) ∧ w'.cell? ⟨w.heap.size, 8, none⟩ = some (.slice az m cs) from by
      have a0 := (BQ.keep hb).cell
      exact ⟨hb, a0 0, a0 1, a0 2, a0 3, a0 4, a0 5, a0 6, a0 7, a0 8⟩)
    have HB1 := hid HB
    clear BQ HB
    go_region_held3 (fun w' => Below v1.heap.size v1 w' ∧ w'.cell? ⟨w.heap.size, 0, none⟩ = some (.slice ao n c) ∧ w'.cell? ⟨w.heap.size, 1, none⟩ = some (.float .f64 O.x) ∧ w'.cell? ⟨w.heap.size, 2, none⟩ = some (.float .f64 O.y) ∧ w'.cell? ⟨w.heap.size, 3, none⟩ = some (.float .f64 O.z) ∧ w'.cell? ⟨w.heap.size, 4, none⟩ = some (.float .f64 D.x) ∧ w'.cell? ⟨w.heap.size, 5, none⟩ = some (.float .f64 D.y) ∧ w'.cell? ⟨w.heap.size, 6, none⟩ = some (.float .f64 D.z) ∧ w'.cell? ⟨w.heap.size, 7, none⟩ = some (.float .f64 x) ∧ w'.cell? ⟨w.heap.size, 8, none⟩ = some (.slice az m cs)) (first | assumption | exact HS.out _ (by (repeat (first | exact Below.refl _ _ | assumption | exact Below.drew (Below.refl _ _) | refine Below.drew ?_ | refine Below.alloc ?_ (by simp) _ | refine Below.alloc ?_ (by have := Below.size (by assumption : Below v1.heap.size v1 _); omega) _ | refine Below.setCell ?_ (by simp) _ | refine Below.setCell ?_ (by have := Below.size (by assumption : Below v1.heap.size v1 _); dsimp only; omega) _))))
      (first
       | (go_at_call 6; refine Calls.mono (HSK.out _) ?_; rintro e w5 ⟨rfl, h5⟩; obtain rfl := h5.symm)
       | fail)
    all_goals
      go_wp2_with fail
      refine Lp.settle (fun w' => Lp.Bk w' v1.heap.size #[.float .f64 O.x, .float .f64 O.y, .float .f64 O.z, .float .f64 D.x, .float .f64 D.y, .float .f64 D.z] 27 ∧ Cl w w') ⟨Lp.Bk.al v1 _ _, Below.drew (HB1.out.alloc _)⟩ ?_
      clear HS HB1 HSK
      rintro v3 ⟨BY, HB⟩
      have HAW := hid (fun w' => awake_any w')
      have HSC := hid (fun w' (hw : Below v3.heap.size v3 w') => Ret.of (scan_is T 100 c cs K O D ao az w' ((HLN.out.keep HB).keep hw) ((HK.out.keep HB).keep hw) (by omega) HK5.out))
      have HFI := hid (fun w' (hw : Below v3.heap.size v3 w') => Ret.of (rfirst_is T 100 c cs K O D ao az w' ((HLN.out.keep HB).keep hw) ((HK.out.keep HB).keep hw) (by omega) HK5.out))
      have HIS := hid (fun w' => ris_hit (fstF (metK T K O D) 100) w')
      have HSA := hid (fun w' (hw : Below v3.heap.size v3 w') => Ret.of (scanany_any T 100 c cs x K O D ao az w' ((HLN.out.keep HB).keep hw) ((HK.out.keep HB).keep hw) (by omega) HK5.out))
      have HRA := hid (fun w' (hw : Below v3.heap.size v3 w') => Ret.of (rany_c T 100 c cs x K O D ao az w' ((HLN.out.keep HB).keep hw) ((HK.out.keep HB).keep hw) (by omega) HK5.out))
      generalize Value.agg (hcs (fstF (metK T K O D) 100)) = bv at HSC HFI HIS
      generalize anyN (metK T K O D) 100 x = bb at HSA HRA
      have hbb : (bb == bb) = true := by cases bb <;> rfl
      apply Lw.region _ _ 25 (by kernel_rfl) (by kernel_rfl) (by kernel_rfl) (Below.refl _ _)
      apply Lw.facts
      · intro w1 hw
        exact (BY.cl hw).cell
      intro HF
      apply Lw.any rfl
      · intro w3 hw
        go_simp
        exact Lw.ret (HAW.out _)
      intro K0 hK0
      rintro v e0
      subst v
      go_simp
      refine hK0.out _ ?_
      clear hK0 K0
      iterate 4 (
        apply Lw.one ?_ rfl
        · intro w3 hw
          have k0 := HF.out _ hw
          go_simp
          exact rfl
        intro K0 hK0
        go_simp
        refine hK0.out _ ?_
        clear hK0 K0)
      apply Lw.any rfl
      · intro w3 hw
        go_simp
        exact Lw.ret (HSC.out _ hw)
      intro K0 hK0
      rintro v e0
      subst v
      go_simp
      refine hK0.out _ ?_
      clear hK0 K0
      iterate 3 (
        apply Lw.one ?_ rfl
        · intro w3 hw
          have k0 := HF.out _ hw
          go_simp
          exact rfl
        intro K0 hK0
        go_simp
        refine hK0.out _ ?_
        clear hK0 K0)
      apply Lw.any rfl
      · intro w3 hw
        go_simp
        exact Lw.ret (HFI.out _ hw)
      intro K0 hK0
      rintro v e0
      subst v
      go_simp
      refine hK0.out _ ?_
      clear hK0 K0
      apply Lw.any rfl
      · intro w3 hw
        go_simp
        exact Lw.ret (HIS.out _)
      intro K0 hK0
      rintro v e0
      subst v
      go_simp
      refine hK0.out _ ?_
      clear hK0 K0
      iterate 6 (
        apply Lw.one ?_ rfl
        · intro w3 hw
          have k0 := HF.out _ hw
          go_simp
          exact rfl
        intro K0 hK0
        go_simp
        refine hK0.out _ ?_
        clear hK0 K0)
      apply Lw.any rfl
      · intro w3 hw
        go_simp
        exact Lw.ret (HSA.out _ hw)
      intro K0 hK0
      rintro v e0
      subst v
      go_simp
      refine hK0.out _ ?_
      clear hK0 K0
      iterate 4 (
        apply Lw.one ?_ rfl
        · intro w3 hw
          have k0 := HF.out _ hw
          go_simp
          exact rfl
        intro K0 hK0
        go_simp
        refine hK0.out _ ?_
        clear hK0 K0)
      apply Lw.any rfl
      · intro w3 hw
        go_simp
        exact Lw.ret (HRA.out _ hw)
      intro K0 hK0
      rintro v e0
      subst v
      go_simp
      refine hK0.out _ ?_
      clear hK0 K0
      iterate 2 (
        apply Lw.one ?_ rfl
        · intro w3 hw
          have k0 := HF.out _ hw
          go_simp
          exact rfl
        intro K0 hK0
        go_simp
        refine hK0.out _ ?_
        clear hK0 K0)
      rotate_left
      exact []
      refine Lw.fin ?_
      intro v4 hm
      have HB4 := hid (HB.call hm)
      clear hm HF BY HAW HSC HFI HIS HSA HRA HB
      go_wp2_with fail
      go_ret
      exact ⟨_, rfl, rfl, HB4.out⟩
  · have hd : (100 < (n : Int)) = False := eq_false (by omega)
    have hn5 : n ≤ 100 := by omega
    have HLN := hid HL.out
    clear HL hc h1
    have HS := hid (fun w' (hb : Below v1.heap.size v1 w') => show Below v1.heap.size v1 w' ∧ w'.cell? ⟨w.heap.size, 0, none⟩ = some (.slice ao n c) ∧ w'.cell? ⟨w.heap.size, 1, none⟩ = some (.float .f64 O.x) ∧ w'.cell? ⟨w.heap.size, 2, none⟩ = some (.float .f64 O.y) ∧ w'.cell? ⟨w.heap.size, 3, none⟩ = some (.float .f64 O.z) ∧ w'.cell? ⟨w.heap.size, 4, none⟩ = some (.float .f64 D.x) ∧ w'.cell? ⟨w.heap.size, 5, none⟩ = some (.float .f64 D.y) ∧ w'.cell? ⟨w.heap.size, 6, none⟩ = some (.float .f64 D.z) ∧ w'.cell? ⟨w.heap.size, 7, none⟩ = some (.float .f64 x) ∧ w'.cell? ⟨w.heap.size, 8, none⟩ = some (.slice az m cs) from by
      have a0 := (BQ.keep hb).cell
      exact ⟨hb, a0 0, a0 1, a0 2, a0 3, a0 4, a0 5, a0 6, a0 7, a0 8⟩)
    have HB1 := hid HB
    clear BQ HB
    go_region_held3 (fun w' => Below v1.heap.size v1 w' ∧ w'.cell? ⟨w.heap.size, 0, none⟩ = some (.slice ao n c) ∧ w'.cell? ⟨w.heap.size, 1, none⟩ = some (.float .f64 O.x) ∧ w'.cell? ⟨w.heap.size, 2, none⟩ = some (.float .f64 O.y) ∧ w'.cell? ⟨w.heap.size, 3, none⟩ = some (.float .f64 O.z) ∧ w'.cell? ⟨w.heap.size, 4, none⟩ = some (.float .f64 D.x) ∧ w'.cell? ⟨w.heap.size, 5, none⟩ = some (.float .f64 D.y) ∧ w'.cell? ⟨w.heap.size, 6, none⟩ = some (.float .f64 D.z) ∧ w'.cell? ⟨w.heap.size, 7, none⟩ = some (.float .f64 x) ∧ w'.cell? ⟨w.heap.size, 8, none⟩ = some (.slice az m cs)) (first | assumption | exact HS.out _ (by (repeat (first | exact Below.refl _ _ | assumption | exact Below.drew (Below.refl _ _) | refine Below.drew ?_ | refine Below.alloc ?_ (by simp) _ | refine Below.alloc ?_ (by have := Below.size (by assumption : Below v1.heap.size v1 _); omega) _ | refine Below.setCell ?_ (by simp) _ | refine Below.setCell ?_ (by have := Below.size (by assumption : Below v1.heap.size v1 _); dsimp only; omega) _))))
      (first
       | (go_at_call 6; refine Calls.mono (HSK.out _) ?_; rintro e w5 ⟨rfl, h5⟩; obtain rfl := h5.symm)
       | fail)
    all_goals
      go_wp2_with fail
      refine Lp.settle (fun w' => Lp.Bk w' v1.heap.size #[.float .f64 O.x, .float .f64 O.y, .float .f64 O.z, .float .f64 D.x, .float .f64 D.y, .float .f64 D.z] 27 ∧ Cl w w') ⟨Lp.Bk.al v1 _ _, Below.drew (HB1.out.alloc _)⟩ ?_
      clear HS HB1 HSK
      rintro v3 ⟨BY, HB⟩
      have HAW := hid (fun w' => awake_any w')
      have HSC := hid (fun w' (hw : Below v3.heap.size v3 w') => Ret.of (scan_is T n c cs K O D ao az w' ((HLN.out.keep HB).keep hw) ((HK.out.keep HB).keep hw) (by omega) HK5.out))
      have HFI := hid (fun w' (hw : Below v3.heap.size v3 w') => Ret.of (rfirst_is T n c cs K O D ao az w' ((HLN.out.keep HB).keep hw) ((HK.out.keep HB).keep hw) (by omega) HK5.out))
      have HIS := hid (fun w' => ris_hit (fstF (metK T K O D) n) w')
      have HSA := hid (fun w' (hw : Below v3.heap.size v3 w') => Ret.of (scanany_any T n c cs x K O D ao az w' ((HLN.out.keep HB).keep hw) ((HK.out.keep HB).keep hw) (by omega) HK5.out))
      have HRA := hid (fun w' (hw : Below v3.heap.size v3 w') => Ret.of (rany_c T n c cs x K O D ao az w' ((HLN.out.keep HB).keep hw) ((HK.out.keep HB).keep hw) (by omega) HK5.out))
      generalize Value.agg (hcs (fstF (metK T K O D) n)) = bv at HSC HFI HIS
      generalize anyN (metK T K O D) n x = bb at HSA HRA
      have hbb : (bb == bb) = true := by cases bb <;> rfl
      apply Lw.region _ _ 25 (by kernel_rfl) (by kernel_rfl) (by kernel_rfl) (Below.refl _ _)
      apply Lw.facts
      · intro w1 hw
        exact (BY.cl hw).cell
      intro HF
      apply Lw.any rfl
      · intro w3 hw
        go_simp
        exact Lw.ret (HAW.out _)
      intro K0 hK0
      rintro v e0
      subst v
      go_simp
      refine hK0.out _ ?_
      clear hK0 K0
      iterate 4 (
        apply Lw.one ?_ rfl
        · intro w3 hw
          have k0 := HF.out _ hw
          go_simp
          exact rfl
        intro K0 hK0
        go_simp
        refine hK0.out _ ?_
        clear hK0 K0)
      apply Lw.any rfl
      · intro w3 hw
        go_simp
        exact Lw.ret (HSC.out _ hw)
      intro K0 hK0
      rintro v e0
      subst v
      go_simp
      refine hK0.out _ ?_
      clear hK0 K0
      iterate 3 (
        apply Lw.one ?_ rfl
        · intro w3 hw
          have k0 := HF.out _ hw
          go_simp
          exact rfl
        intro K0 hK0
        go_simp
        refine hK0.out _ ?_
        clear hK0 K0)
      apply Lw.any rfl
      · intro w3 hw
        go_simp
        exact Lw.ret (HFI.out _ hw)
      intro K0 hK0
      rintro v e0
      subst v
      go_simp
      refine hK0.out _ ?_
      clear hK0 K0
      apply Lw.any rfl
      · intro w3 hw
        go_simp
        exact Lw.ret (HIS.out _)
      intro K0 hK0
      rintro v e0
      subst v
      go_simp
      refine hK0.out _ ?_
      clear hK0 K0
      iterate 6 (
        apply Lw.one ?_ rfl
        · intro w3 hw
          have k0 := HF.out _ hw
          go_simp
          exact rfl
        intro K0 hK0
        go_simp
        refine hK0.out _ ?_
        clear hK0 K0)
      apply Lw.any rfl
      · intro w3 hw
        go_simp
        exact Lw.ret (HSA.out _ hw)
      intro K0 hK0
      rintro v e0
      subst v
      go_simp
      refine hK0.out _ ?_
      clear hK0 K0
      iterate 4 (
        apply Lw.one ?_ rfl
        · intro w3 hw
          have k0 := HF.out _ hw
          go_simp
          exact rfl
        intro K0 hK0
        go_simp
        refine hK0.out _ ?_
        clear hK0 K0)
      apply Lw.any rfl
      · intro w3 hw
        go_simp
        exact Lw.ret (HRA.out _ hw)
      intro K0 hK0
      rintro v e0
      subst v
      go_simp
      refine hK0.out _ ?_
      clear hK0 K0
      iterate 2 (
        apply Lw.one ?_ rfl
        · intro w3 hw
          have k0 := HF.out _ hw
          go_simp
          exact rfl
        intro K0 hK0
        go_simp
        refine hK0.out _ ?_
        clear hK0 K0)
      rotate_left
      exact []
      refine Lw.fin ?_
      intro v4 hm
      have HB4 := hid (HB.call hm)
      clear hm HF BY HAW HSC HFI HIS HSA HRA HB
      go_wp2_with fail
      go_ret
      exact ⟨_, rfl, rfl, HB4.out⟩
end Go.Proofs.YtiblmojdjnfoaaaGreat

namespace Go.Proofs.YtiblmojdjnfoaaaGreat
open Go.RowKit Fl Lm Rg

section
variable {S : Parts} {n : Nat} {D : List Nd} {O : List Nat}
/-- The places stand in the order of their nodes, from i on. -/
def asc : List (Plc S n D O) → Nat → Prop
  | [], _ => True
  | a :: st, i => i ≤ a.1.1 ∧ asc st (a.1.1 + szL S a.1.2.2)
theorem asc_less : ∀ {st : List (Plc S n D O)} {i j : Nat}, asc st j → i ≤ j → asc st i
  | [], _, _, _, _ => trivial
  | _ :: _, _, _, h, hl => ⟨Nat.le_trans hl h.1, h.2⟩
theorem asc_ge : ∀ {st : List (Plc S n D O)} {i : Nat}, asc st i → ∀ a, a ∈ st → i ≤ a.1.1
  | [], _, _, _, h => by cases h
  | b :: st, i, h, a, ha => by
    rcases List.mem_cons.1 ha with e | e
    · rw [e]; exact h.1
    · have := asc_ge h.2 a e
      have := h.1
      omega
/-- Is a node one of these? -/
def kin (st : List (Plc S n D O)) (j : Nat) : Bool := decide (j ∈ st.map fun a => a.1.1)
theorem kin_cons (a : Plc S n D O) (st : List (Plc S n D O)) (j : Nat) : kin (a :: st) j = (decide (j = a.1.1) || kin st j) := by
  unfold kin
  rw [List.map_cons, Bool.eq_iff_iff, Bool.or_eq_true, decide_eq_true_eq, decide_eq_true_eq, decide_eq_true_eq, List.mem_cons]
theorem kin_less {st : List (Plc S n D O)} {i j : Nat} (h : asc st i) (hj : j < i) : kin st j = false := by
  unfold kin
  rw [decide_eq_false_iff_not, List.mem_map]
  rintro ⟨a, ha, e⟩
  have := asc_ge h a ha
  omega
/-- A step of the law's loop: node i is one of them, the first one; or none is. -/
theorem asc_step {st : List (Plc S n D O)} {i : Nat} (h : asc st i) : (∃ a st', st = a :: st' ∧ a.1.1 = i ∧ asc st' (i + szL S a.1.2.2)) ∨ (kin st i = false ∧ asc st (i + 1)) := by
  match st, h with
  | [], _ => exact .inr ⟨rfl, trivial⟩
  | a :: st', h =>
    by_cases e : a.1.1 = i
    · exact .inl ⟨a, st', rfl, e, by rw [← e]; exact h.2⟩
    · have h1 : i + 1 ≤ a.1.1 := by have := h.1; omega
      exact .inr ⟨kin_less (i := i + 1) ⟨h1, h.2⟩ (Nat.lt_succ_self i), h1, h.2⟩
theorem asc_end {st : List (Plc S n D O)} (h : asc st D.length) : st = [] := by
  match st, h with
  | [], _ => rfl
  | a :: st', h =>
    have := a.2.1.lt
    have := h.1
    omega
/-- Both parts of a place come before those that wait. -/
theorem asc_both {a b c : Plc S n D O} {st : List (Plc S n D O)} (h4 : 4 < a.1.2.2.length) (hb : b.1 = (a.1.1 + 1, a.1.2.1, (S.part a.1.2.2).1)) (hc : c.1 = (a.1.1 + 1 + szL S (S.part a.1.2.2).1, a.1.2.1 + (S.part a.1.2.2).1.length, (S.part a.1.2.2).2)) (h : asc st (a.1.1 + szL S a.1.2.2)) : asc (b :: c :: st) (a.1.1 + 1) := by
  have hs := sz_node S h4
  refine ⟨by rw [hb]; exact Nat.le_refl _, ?_, ?_⟩
  · rw [hb, hc]; exact Nat.le_refl _
  · rw [hc]
    refine asc_less h ?_
    show a.1.1 + 1 + szL S (S.part a.1.2.2).1 + szL S (S.part a.1.2.2).2 ≤ _
    omega
end

section
variable (T : Nat → Tr) (sur : Bool) (n : Nat) (O D : V3)
/-- The state of the law's loop at node q: W have been counted; B: the marks. -/
def Mark (q W : Nat) (B : Nat → Bool) : Prop :=
  ∃ st : List (Plc (treeT T sur) n (DT T sur n) (OT T sur n)), asc st q ∧ (∀ j, q ≤ j → B j = kin st j) ∧ W + visS bvT O D st = visT T sur n O D
theorem Mark.start : Mark T sur n O D 0 0 (fun i => if i = 0 then true else false) := by
  refine ⟨[rootT T sur n], ⟨Nat.zero_le _, trivial⟩, fun j _ => ?_, ?_⟩
  · rw [kin_cons]
    show (if j = 0 then true else false) = (decide (j = 0) || kin [] j)
    have : kin ([] : List (Plc (treeT T sur) n (DT T sur n) (OT T sur n))) j = false := rfl
    rw [this, Bool.or_false]
    by_cases h : j = 0 <;> simp [h]
  · rw [visS_cons]
    show 0 + (visT T sur n O D + 0) = _
    omega
variable {T sur n O D} {q W : Nat} {B : Nat → Bool}
theorem Mark.le (h : Mark T sur n O D q W B) : W ≤ visT T sur n O D := by
  obtain ⟨st, _, _, h3⟩ := h
  omega
theorem Mark.fin (h : Mark T sur n O D (DT T sur n).length W B) : W = visT T sur n O D := by
  obtain ⟨st, h1, _, h3⟩ := h
  have := asc_end h1
  subst this
  have e : visS bvT O D ([] : List (Plc (treeT T sur) n (DT T sur n) (OT T sur n))) = 0 := rfl
  rw [e] at h3
  omega
theorem Mark.step (h : Mark T sur n O D q W B) : (B q = false ∧ Mark T sur n O D (q + 1) W B) ∨
    (B q = true ∧ (goB O D ((DT T sur n).getD q nd0).box = none → Mark T sur n O D (q + 1) W B) ∧
      ∀ z, goB O D ((DT T sur n).getD q nd0).box = some z → (((DT T sur n).getD q nd0).left = 0 ∧ Mark T sur n O D (q + 1) (W + 1) B) ∨
        (0 < ((DT T sur n).getD q nd0).left ∧ ((DT T sur n).getD q nd0).left < (DT T sur n).length ∧ ((DT T sur n).getD q nd0).right < (DT T sur n).length ∧
          Mark T sur n O D (q + 1) (W + 1) (fun i => if i = ((DT T sur n).getD q nd0).right then true else if i = ((DT T sur n).getD q nd0).left then true else B i))) := by
  obtain ⟨st, h1, h2, h3⟩ := h
  rcases asc_step h1 with ⟨a, st', rfl, ha, hs⟩ | ⟨hk, hs⟩
  · refine .inr ?_
    have hB : ∀ j, q + 1 ≤ j → B j = kin st' j := fun j hj => by
      rw [h2 j (by omega), kin_cons, ha, decide_eq_false (by omega), Bool.false_or]
    have hp := sz_pos (treeT T sur) a.1.2.2
    have hs1 : asc st' (q + 1) := asc_less hs (by omega)
    have hx : (DT T sur n).getD q nd0 = a.nd := by rw [← ha]; rfl
    rw [hx]
    rw [visS_cons] at h3
    refine ⟨?_, fun hg => ⟨st', hs1, hB, ?_⟩, fun z hg => ?_⟩
    · rw [h2 q (Nat.le_refl _), kin_cons, ha, decide_eq_true rfl, Bool.true_or]
    · have := vis_off bvT O D (a := a) (.inr hg)
      omega
    · have hv := vis_on bvT O D (a := a) (z := z) rfl hg
      by_cases h4 : 4 < a.1.2.2.length
      · refine .inr ?_
        obtain ⟨b1, b2, b3⟩ := a.one h4
        obtain ⟨c1, c2, c3⟩ := a.two h4
        have hn : bvT.next a = [⟨(a.1.1 + 1, a.1.2.1, ((treeT T sur).part a.1.2.2).1), b1, b2, b3⟩, ⟨(a.1.1 + 1 + szL (treeT T sur) ((treeT T sur).part a.1.2.2).1, a.1.2.1 + ((treeT T sur).part a.1.2.2).1.length, ((treeT T sur).part a.1.2.2).2), c1, c2, c3⟩] := dif_pos h4
        rw [hn] at hv
        have hb := asc_both (a := a) (b := ⟨(a.1.1 + 1, a.1.2.1, ((treeT T sur).part a.1.2.2).1), b1, b2, b3⟩) (c := ⟨(a.1.1 + 1 + szL (treeT T sur) ((treeT T sur).part a.1.2.2).1, a.1.2.1 + ((treeT T sur).part a.1.2.2).1.length, ((treeT T sur).part a.1.2.2).2), c1, c2, c3⟩) (st := st') h4 rfl rfl (by rw [ha]; exact hs)
        rw [a.node h4]
        refine ⟨Nat.succ_pos _, b1.lt, c1.lt, _, by rw [← ha]; exact hb, fun j hj => ?_, ?_⟩
        · rw [kin_cons, kin_cons, ← hB j hj]
          show (if j = a.1.1 + 1 + szL (treeT T sur) ((treeT T sur).part a.1.2.2).1 then true else if j = a.1.1 + 1 then true else B j) = (decide (j = a.1.1 + 1) || (decide (j = a.1.1 + 1 + szL (treeT T sur) ((treeT T sur).part a.1.2.2).1) || B j))
          by_cases e1 : j = a.1.1 + 1 + szL (treeT T sur) ((treeT T sur).part a.1.2.2).1
          · rw [if_pos e1, decide_eq_true e1, Bool.true_or, Bool.or_true]
          · rw [if_neg e1, decide_eq_false e1, Bool.false_or]
            by_cases e2 : j = a.1.1 + 1
            · rw [if_pos e2, decide_eq_true e2, Bool.true_or]
            · rw [if_neg e2, decide_eq_false e2, Bool.false_or]
        · rw [visS_cons, visS_cons]
          simp only [List.map_cons, List.map_nil, List.sum_cons, List.sum_nil] at hv
          omega
      · refine .inl ?_
        have hn : bvT.next a = [] := dif_neg h4
        rw [hn] at hv
        refine ⟨by rw [a.leaf (by omega)]; rfl, st', hs1, hB, ?_⟩
        simp only [List.map_nil, List.sum_nil] at hv
        omega
  · exact .inl ⟨by rw [h2 q (Nat.le_refl _)]; exact hk, st, hs, fun j hj => h2 j (by omega), h3⟩
theorem visT_le (hn : n ≤ 500) : visT T sur n O D ≤ 2000 := Nat.le_trans (vis_le bvT O D _ _ (Nat.le_refl _)) (root_sz T sur n hn)
end

/-- A block of marks. -/
def Mks (w : World) (g n : Nat) (B : Nat → Bool) : Prop := ∃ vs : Array Value, Lp.Bk w g vs 4 ∧ vs.size = n ∧ ∀ i, i < n → vs[i]? = some (.bool (B i))
section
variable {w w' : World} {g n : Nat} {B : Nat → Bool}
theorem Mks.keep (h : Mks w g n B) (hb : Below w.heap.size w w') : Mks w' g n B := by
  obtain ⟨vs, h1, h2⟩ := h
  exact ⟨vs, h1.keep hb, h2⟩
theorem Mks.lt (h : Mks w g n B) : g < w.heap.size := by
  obtain ⟨vs, h1, h2⟩ := h
  exact h1.lt
theorem Mks.frz (h : Mks w g n B) (i : Nat) : w.frozen? ⟨g, i, none⟩ = false := by
  obtain ⟨vs, h1, h2⟩ := h
  exact h1.frz i
theorem Mks.get (h : Mks w g n B) {i : Nat} (hi : i < n) : w.cell? ⟨g, i, none⟩ = some (.bool (B i)) := by
  obtain ⟨vs, h1, h2, h3⟩ := h
  rw [h1.cell i, h3 i hi]
theorem Mks.set (h : Mks w g n B) (j : Nat) (b : Bool) : Mks (w.setCell ⟨g, j, none⟩ (.bool b)) g n (fun i => if i = j then b else B i) := by
  obtain ⟨vs, h1, h2, h3⟩ := h
  refine ⟨vs.setIfInBounds j (.bool b), h1.set j _, by simp [h2], fun i hi => ?_⟩
  by_cases e : j = i
  · subst e
    rw [Array.getElem?_setIfInBounds_self_of_lt (by omega)]
    show _ = some (Value.bool (if j = j then b else B j))
    rw [if_pos rfl]
  · rw [Array.getElem?_setIfInBounds_ne e]
    show _ = some (Value.bool (if i = j then b else B i))
    rw [if_neg (fun k : i = j => e k.symm)]
    exact h3 i hi
end
theorem under_bools : Tryz.prog.underlying 50 = some (.slice 4) := by kernel_rfl
theorem info_bool : ∃ i, Tryz.prog.info? 4 = some i ∧ i.zero = some (.bool false) ∧ i.size = 1 ∧ i.bytes = 1 := by
  have h : (Tryz.prog.info? 4).map (fun i => (i.zero, i.size, i.bytes)) = some (some (.bool false), 1, 1) := by kernel_rfl
  obtain ⟨i, hi, hz⟩ := Option.map_eq_some_iff.1 h
  simp only [Prod.mk.injEq] at hz
  exact ⟨i, hi, hz⟩
theorem made_bools (n : Nat) (w : World) (h : n ≤ 4194304) : (Instr.makeSlice 50 (.int .i64 (n : Int)) (.int .i64 (n : Int))).run Tryz.prog w = .ok (.slice (some ⟨w.heap.size, 0, none⟩) n n) (w.alloc (.cells (madeCells #[.bool false] n) 4)) := by
  obtain ⟨i, hi, z0, z1, z2⟩ := info_bool
  have := run_make (P := Tryz.prog) w 50 4 i (.bool false) under_bools hi z0 .i64 .i64 (n : Int) (n : Int) (by omega) (Int.le_refl _) (by rw [z2]; omega) (by omega)
  rw [this, z1, Nat.mul_one]
  rfl
theorem made_mks (w : World) (n : Nat) : Mks (w.alloc (.cells (madeCells #[.bool false] n) 4)) w.heap.size n (fun _ => false) :=
  ⟨_, Lp.Bk.al _ _ _, by simp [madeCells], fun i hi => by simp [madeCells, hi, Nat.mod_one]⟩
end Go.Proofs.YtiblmojdjnfoaaaGreat

namespace Go.Proofs.YtiblmojdjnfoaaaGreat
open Go.RowKit Fl Lm Rg

theorem out_four (g : Option (Nat × Nat)) : ∃ y z b, outT g = .tuple #[.float .f64 y, .float .f64 z, .bool b] ∧ b = g.isSome := by
  rcases g with _ | ⟨y, z⟩ <;> exact ⟨_, _, _, rfl, rfl⟩
theorem bl_call {a b c : World} (h : Below a.heap.size a b) (k : Below b.heap.size b c) : Below a.heap.size a c := h.trans (k.mono h.size)
theorem made_mks1 (w : World) (n : Nat) : Mks (w.alloc (.cells ((madeCells #[.bool false] n).setIfInBounds 0 (.bool true)) 4)) w.heap.size n (fun i => if i = 0 then true else false) := by
  refine ⟨_, Lp.Bk.al _ _ _, by simp [madeCells], fun i hi => ?_⟩
  by_cases e : i = 0
  · subst e
    rw [Array.getElem?_setIfInBounds_self_of_lt (by simpa [madeCells] using hi)]
    rfl
  · rw [Array.getElem?_setIfInBounds_ne (fun k => e k.symm)]
    show _ = some (Value.bool (if i = 0 then true else false))
    rw [if_neg e]
    simp [madeCells, hi, Nat.mod_one]
theorem tree_len (T : Nat → Tr) (sur : Bool) (n : Nat) (hn : n ≤ 500) : 0 < (DT T sur n).length ∧ (DT T sur n).length ≤ 2000 := by
  have h : (DT T sur n).length = szL (treeT T sur) (List.range n) := nd_len _ _ _ _
  rw [h]
  exact ⟨sz_pos _ _, root_sz T sur n hn⟩
set_option maxRecDepth 100000 in
set_option maxHeartbeats 4000000 in
theorem visits_law (T : Nat → Tr) (sur : Bool) (n c : Nat) (O D : V3) (az : Option Addr) (w : World) (hL : Sl w az n 9 fun i => tcs (T i)) :
    Ret Tryz.prog 5 #[.slice az n c, .agg #[.float .f64 O.x, .float .f64 O.y, .float .f64 O.z, .float .f64 D.x, .float .f64 D.y, .float .f64 D.z], .bool sur] w (fun v => v = .bool true) := by
  unfold Ret
  obtain ⟨N, T1, hl5, hT1, hT2, hF⟩ := few_is T n c az w hL
  have HFW := hid hF
  have HTM := hid hT1
  have HTN := hid hT2
  have HV5 := aside (visT_le (T := T1) (sur := sur) (O := O) (D := D) (n := N) (by omega))
  obtain ⟨m, hmm⟩ : ∃ m, m = (DT T1 sur N).length := ⟨_, rfl⟩
  have hm5 : 0 < m ∧ m ≤ 2000 := hmm ▸ tree_len T1 sur N (by omega)
  have HMM := aside hmm
  clear hL hT1 hT2 hF hmm
  go_enter Tryz.func5, Tryz.ntmps5
  go_wp2_with fail
  refine Lp.settleC (fun w' => Lp.Bk w' w.heap.size #[.float .f64 O.x, .float .f64 O.y, .float .f64 O.z, .float .f64 D.x, .float .f64 D.y, .float .f64 D.z] 27 ∧ Cl w w') ⟨Lp.Bk.al _ _ _, (Below.refl _ _).alloc (Nat.le_refl _) _⟩ ?_
  rintro v1 ⟨BY, HB⟩
  refine Calls.mono (HFW.out _ HB) ?_
  rintro e v2 ⟨v, rfl, hO, hm⟩
  obtain ⟨al, cl, rfl⟩ := hO.slice
  have HL := hid (hO.sl fun _ _ => rfl)
  replace BY := BY.keep hm
  replace HB := HB.call hm
  clear hm hO HFW
  go_wp2_with fail
  refine Calls.mono (new_any T1 HTM.out sur N cl al v2 HL.out (by omega) HTN.out) ?_
  rintro e v3 ⟨t, rfl, h0, _, hm⟩
  have hR : TreeR v3 t (DT T1 sur N) (OT T1 sur N) := h0
  have HR := hid hR
  replace HL := hid (HL.out.keep hm)
  replace BY := BY.keep hm
  replace HB := HB.call hm
  clear hm h0 hR HTN
  go_wp2_with fail
  refine Calls.mono (nodes_any t _ _ v3 HR.out (by rw [← HMM.out]; exact hm5.1) (by rw [← HMM.out]; omega)) ?_
  rintro e v4 ⟨gD, cD, he, hED, _, hm⟩
  rw [← HMM.out] at he
  subst he
  have HED := hid hED
  replace HR := hid (HR.out.keep hm)
  replace HL := hid (HL.out.keep hm)
  replace BY := BY.keep hm
  replace HB := HB.call hm
  clear hm hED
  have HM : ∀ w, _ := fun w => made_bools m w (by omega)
  have hlt : (0 : Int) < (m : Int) := by omega
  have hMK0 := made_mks v4 m
  have h00 := hMK0.get (i := 0) hm5.1
  have h01 := hMK0.frz 0
  have h02 := hMK0.lt
  go_wp2_with fail
  go_loopg [11, 12] m (fun k want i wr => ∃ (q W : Nat) (B : Nat → Bool), k + q = m ∧ i = .int .i64 (q : Int) ∧ want = .int .i64 (W : Int) ∧ Mark T1 sur N O D q W B ∧ Mks wr v4.heap.size m B ∧ Below v4.heap.size v4 wr)
  case atStart => exact ⟨0, 0, _, Nat.add_zero _, rfl, rfl, Mark.start T1 sur N O D, made_mks1 v4 m, (Below.refl _ _).alloc (Nat.le_refl _) _⟩
  case round =>
    clear hMK0 h00 h01 h02 HM
    obtain ⟨g0, hg0⟩ : ∃ g0, g0 = gk := ⟨_, rfl⟩
    subst hg0
    obtain ⟨wo, hwo⟩ : ∃ wo, wo = wr := ⟨_, rfl⟩
    subst hwo
    obtain ⟨q, W, B, hk, rfl, rfl, hMark, hMks, hB⟩ := hrel
    have HK := aside hk
    have HB4 := hid hB
    have HMks := hid hMks
    have HBY := hid (BY.keep hB)
    clear hk hMks
    by_cases hq : q < m
    · have hd : ((q : Int) < (m : Int)) = True := eq_true (by omega)
      have hq5 : q < 5000 := by omega
      have hST := hMark.step
      rw [← HMM.out] at hST
      have hW5 : W ≤ 2000 := Nat.le_trans hMark.le HV5.out
      have HDT := hid (fun w' (hw : Below v4.heap.size v4 w') => dat0 (HED.out.keep hw) (i := q) (by rw [← HMM.out]; exact hq))
      generalize (DT T1 sur N).getD q nd0 = x at hST HDT
      have HTH := hid (fun w' => show Ret Tryz.prog 18 #[.agg #[.float .f64 x.box.a0, .float .f64 x.box.a1, .float .f64 x.box.a2, .float .f64 x.box.a3, .float .f64 x.box.a4, .float .f64 x.box.a5], .agg #[.float .f64 O.x, .float .f64 O.y, .float .f64 O.z, .float .f64 D.x, .float .f64 D.y, .float .f64 D.z]] w' (fun v => v = outT (goB O D x.box)) from rthrough_any _ _ _ _ _ _ _ _ _ _ _ _ w')
      generalize goB O D x.box = g at hST HTH
      obtain ⟨y, z, b, e5, e6⟩ := out_four g
      rw [e5] at HTH
      have HST := aside (And.intro hST e6)
      have HQ := aside hq
      have hgD : gD < v4.heap.size := HED.out.lt
      have hgl := hB.size
      clear hST e5 e6 hMark hB hq
      go_wp2_with fail
      apply Lw.region _ _ 14 (by kernel_rfl) (by kernel_rfl) (by kernel_rfl) (Below.refl _ _)
      apply Lw.facts
      · intro w1 hw
        exact And.intro (HBY.out.cl hw).cell (HDT.out _ (bl_call HB4.out hw))
      intro HF
      iterate 6 (
        apply Lw.one ?_ rfl
        · intro w3 hw
          obtain ⟨k0, k1, k2, k3, k4, k5, k6, k7, k8, k9, k10⟩ := HF.out _ hw
          go_simp
          exact rfl
        intro K0 hK0
        go_simp
        refine hK0.out _ ?_
        clear hK0 K0)
      apply Lw.any rfl
      · intro w3 hw
        go_simp
        exact Lw.ret (HTH.out _)
      intro K0 hK0
      rintro v e0
      subst v
      go_simp
      refine hK0.out _ ?_
      clear hK0 K0
      iterate 7 (
        apply Lw.one ?_ rfl
        · intro w3 hw
          have k0 := HF.out _ hw
          go_simp
          exact rfl
        intro K0 hK0
        go_simp
        refine hK0.out _ ?_
        clear hK0 K0)
      rotate_left
      exact []
      refine Lw.fin ?_
      intro v5 hm
      have HB5 := hid (bl_call HB4.out hm)
      have HM5 := hid (HMks.out.keep hm)
      clear hm HF HB4 HMks HBY HTH
      have hgl5 := HB5.out.size
      have kB := HM5.out.get HQ.out
      obtain ⟨hST, hgb⟩ := HST.out
      clear HST
      rcases hST with ⟨hBq, hM1⟩ | ⟨hBq, hM2, hM3⟩
      · rw [hBq] at kB
        have HM1 := hid hM1
        clear hM1 hBq hgb
        go_wp2_with fail
        go_roundg (g0 - 1)
        case measure => have := HK.out; have := HQ.out; omega
        case rel => exact ⟨q + 1, W, B, by have := HK.out; have := HQ.out; omega, by go_num, rfl, HM1.out, HM5.out, HB5.out⟩
      · rw [hBq] at kB
        rcases g with _ | ⟨zy, zz⟩
        · obtain rfl : b = false := hgb
          have HM1 := hid (hM2 rfl)
          clear hM2 hM3 hBq
          go_wp2_with fail
          go_roundg (g0 - 1)
          case measure => have := HK.out; have := HQ.out; omega
          case rel => exact ⟨q + 1, W, B, by have := HK.out; have := HQ.out; omega, by go_num, rfl, HM1.out, HM5.out, HB5.out⟩
        · obtain rfl : b = true := hgb
          have kD := HDT.out _ HB5.out
          obtain ⟨k0, k1, k2, k3, k4, k5, k6, k7, k8, k9⟩ := kD
          rcases hM3 _ rfl with ⟨hl, hM⟩ | ⟨hl, hlm, hrm, hM⟩
          · have HM1 := hid hM
            rw [hl] at k6
            clear hM2 hM3 hBq hM hl
            go_wp2_with fail
            go_roundg (g0 - 1)
            case measure => have := HK.out; have := HQ.out; omega
            case rel => exact ⟨q + 1, W + 1, B, by have := HK.out; have := HQ.out; omega, by go_num, by go_num, HM1.out, HM5.out, HB5.out⟩
          · have HM1 := hid hM
            have hl1 : (0 < (x.left : Int)) = True := eq_true (by omega)
            have hl0 : (0 < x.left) = True := eq_true hl
            have hl2 : ((x.left : Int) < (m : Int)) = True := eq_true (by omega)
            have hl3 : ((x.right : Int) < (m : Int)) = True := eq_true (by omega)
            have s0 := HM5.out.get hlm
            have s1 := HM5.out.frz x.left
            have s2 := HM5.out.lt
            have s3 := (HM5.out.set x.left true).get hrm
            have s4 := (HM5.out.set x.left true).frz x.right
            have hne : (gD = v4.heap.size) = False := eq_false (Nat.ne_of_lt hgD)
            clear hM2 hM3 hBq hM hl
            go_wp2_with fail
            go_roundg (g0 - 1)
            case measure => have := HK.out; have := HQ.out; omega
            case rel => exact ⟨q + 1, W + 1, _, by have := HK.out; have := HQ.out; omega, by go_num, by go_num, HM1.out, (HM5.out.set x.left true).set x.right true, (HB5.out.setCell (Nat.le_refl _) _).setCell (Nat.le_refl _) _⟩
    · have hd : ((q : Int) < (m : Int)) = False := eq_false (by omega)
      obtain rfl : q = m := by have := HK.out; omega
      have hMf : Mark T1 sur N O D (DT T1 sur N).length W B := by rw [← HMM.out]; exact hMark
      have hfin : W = visT T1 sur N O D := hMf.fin
      have HVI := hid (fun w' (hw : Below v4.heap.size v4 w') => Ret.of (visits_is T1 sur N t O D w' (by omega) (HR.out.keep hw)))
      have HFN := hid (fun w' (hw : Below v4.heap.size v4 w') => Ret.of (show Calls Tryz.prog 15 #[.pointer none, .slice al N cl, .agg #[.float .f64 O.x, .float .f64 O.y, .float .f64 O.z, .float .f64 D.x, .float .f64 D.y, .float .f64 D.z], .slice none 0 0] w' _ from first_no T1 N cl 0 [] O D al none w' HTM.out (HL.out.keep hw) (by omega) (.inl rfl) (by decide)))
      have HAN := hid (fun w' (hw : Below v4.heap.size v4 w') => Ret.of (show Calls Tryz.prog 16 #[.pointer none, .slice al N cl, .agg #[.float .f64 O.x, .float .f64 O.y, .float .f64 O.z, .float .f64 D.x, .float .f64 D.y, .float .f64 D.z], .float .f64 4607182418800017408, .slice none 0 0] w' _ from any_no T1 N cl 0 [] O D al none w' 4607182418800017408 HTM.out (HL.out.keep hw) (by omega) (.inl rfl) (by decide)))
      have HVN := hid (fun w' => Ret.of (visits_no O D w'))
      have HAW := hid (fun w' => awake_any w')
      rw [← hfin] at HVI
      have heq := eql_four (-1) 0 0 0 (by decide) (by decide) (by decide)
      clear hfin hMf hMark hB HMks HED HV5
      replace BY := HBY.out
      clear HBY
      have kY := BY.cell
      go_wp2_with fail
      refine Calls.mono (HAW.out _) ?_
      rintro e u1 ⟨v, rfl, rfl, hm⟩
      have HB1x := hid (bl_call HB4.out hm)
      replace BY := BY.keep hm
      clear hm kY
      have kY := BY.cell
      go_wp2_with fail
      refine Calls.mono (HVI.out _ HB1x.out) ?_
      rintro e u2 ⟨v, rfl, rfl, hm⟩
      have HB2x := hid (bl_call HB1x.out hm)
      replace BY := BY.keep hm
      clear hm kY
      have kY := BY.cell
      go_wp2_with fail
      refine Calls.mono (HFN.out _ HB2x.out) ?_
      rintro e u3 ⟨v, rfl, rfl, hm⟩
      have HB3x := hid (bl_call HB2x.out hm)
      replace BY := BY.keep hm
      clear hm kY
      have kY := BY.cell
      go_wp2_with fail
      refine Calls.mono (HAN.out _ HB3x.out) ?_
      rintro e u4 ⟨v, rfl, rfl, hm⟩
      have HB4x := hid (bl_call HB3x.out hm)
      replace BY := BY.keep hm
      clear hm kY
      have kY := BY.cell
      go_wp2_with fail
      refine Calls.mono (HVN.out _) ?_
      rintro e u5 ⟨v, rfl, rfl, hm⟩
      have HB5x := hid (bl_call HB4x.out hm)
      replace BY := BY.keep hm
      clear hm kY
      have kY := BY.cell
      go_wp2_with fail
      go_ret
      exact ⟨_, rfl, rfl, HB.call HB5x.out⟩
end Go.Proofs.YtiblmojdjnfoaaaGreat

namespace Go.Proofs.YtiblmojdjnfoaaaGreat.Fl
section
variable {H : Type} {enc : TypeId × Value → H} {P : Program} {w : World} {base : Nat} {spare : Nat → Bool} {held : Bool} {fuel : Nat} {t : TypeId} {cs : List Value} {x : DataW H × List MemPlace}
theorem trod_float {k : FloatKind} (ht : P.underlying t = some (.float k)) (h : DataW.trod enc P w base spare held fuel t cs = some x) : ∃ n, cs = [.float k n] ∧ x = (.lit (.float k n), []) ∧ (Lit.float k n).wf = true := by
  cases fuel with
  | zero => simp [DataW.trod] at h
  | succ n =>
    unfold DataW.trod at h
    rw [ht] at h
    split at h <;> simp_all
end
end Go.Proofs.YtiblmojdjnfoaaaGreat.Fl
namespace Go.Proofs.YtiblmojdjnfoaaaGreat
open Go.ChangeShapes Go.WideShapes Go.ChangeAt Go.RowKit Fl Go.Joins

theorem Tryz.own : ownKnob Tryz.prog.godebug = none := by kernel_rfl
theorem Tryz.laidOut : laidOutB Tryz.prog = true := by kernel_rfl

theorem Tryz.cells25 : Tryz.prog.cellsOf 25 = 3 := by kernel_rfl

set_option maxRecDepth 100000 in
theorem open_vec {H : Type} {enc : TypeId × Value → H} {W : World} {base : Nat} {spare : Nat → Bool} {held : Bool} {r : Reach} {b0 : Nat} {v : Value} {d : DataW H} {ps : List MemPlace} (hv : Value.okWide Tryz.prog W r b0 25 v) (h : DataW.Trod enc Tryz.prog W base spare held 25 v d ps) :
    ∃ x y z, v = .agg #[.float .f64 x, .float .f64 y, .float .f64 z] ∧ d = .agg [.lit (.float .f64 x), .lit (.float .f64 y), .lit (.float .f64 z)] ∧ ps = [] ∧
      (Lit.float .f64 x).wf = true ∧ (Lit.float .f64 y).wf = true ∧ (Lit.float .f64 z).wf = true := by
  obtain ⟨c0, c1, c2, y0, y1, y2, m, rfl, rfl, rfl, h0, h1, h2⟩ := open_agg3 Tryz.underlying25 (by kernel_rfl) Tryz.cells25 hv h
  obtain ⟨x, e0, rfl, wx⟩ := trod_float Tryz.underlying23 h0
  obtain ⟨y, e1, rfl, wy⟩ := trod_float Tryz.underlying23 h1
  obtain ⟨z, e2, rfl, wz⟩ := trod_float Tryz.underlying23 h2
  simp at e0 e1 e2
  subst e0 e1 e2
  exact ⟨x, y, z, rfl, rfl, rfl, wx, wy, wz⟩

theorem shut_vec {H : Type} {enc : TypeId × Value → H} {W : World} {base : Nat} {spare : Nat → Bool} {held : Bool} {x y z : Nat} (wx : (Lit.float .f64 x).wf = true) (wy : (Lit.float .f64 y).wf = true) (wz : (Lit.float .f64 z).wf = true) :
    DataW.Trod enc Tryz.prog W base spare held 25 (.agg #[.float .f64 x, .float .f64 y, .float .f64 z]) (.agg [.lit (.float .f64 x), .lit (.float .f64 y), .lit (.float .f64 z)]) [] :=
  shut_agg3 (y0 := (.lit (.float .f64 x), [])) (y1 := (.lit (.float .f64 y), [])) (y2 := (.lit (.float .f64 z), [])) Tryz.underlying25 (by kernel_rfl) Tryz.cells25
    ⟨1, by simp [DataW.trod, Tryz.underlying23, wx]⟩ ⟨1, by simp [DataW.trod, Tryz.underlying23, wy]⟩ ⟨1, by simp [DataW.trod, Tryz.underlying23, wz]⟩

end Go.Proofs.YtiblmojdjnfoaaaGreat
