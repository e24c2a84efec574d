/- The reference: First. HitScans: the walk. A vector that comes in, opened and shut. Structs of two and of three vectors that come in, opened and shut. Triangles that come in. Structs of triangles, a ray, a number and who is skipped, that come in. -/
import Derived.Deep.RegionHeld3
import Derived.ProofKit
import Derived.Lib.SmallJoins
import Derived.Deep.Slices
import Derived.Carry
import Derived.Test.YtiblmojdjnfoaaaGreatG16
import Derived.Test.YtiblmojdjnfoaaaGreatG24
import Derived.Test.YtiblmojdjnfoaaaGreatRows
import Derived.Test.YtiblmojdjnfoaaaGreatG3
import Derived.Test.YtiblmojdjnfoaaaGreatG23
import Derived.Test.YtiblmojdjnfoaaaGreatG15
namespace Go.Proofs.YtiblmojdjnfoaaaGreat
open Go.RowKit Fl Lm

set_option maxRecDepth 100000 in
set_option maxHeartbeats 4000000 in
theorem rfirst_c (T : Nat → Tr) (n c cs : Nat) (K : List Int) (O D : V3) (ao az : Option Addr) (w : World)
    (hL : Sl w ao n 9 fun i => tcs (T i)) (hK : Sl w az K.length 1 (kvs K)) (hn : n ≤ 1000) (h5 : K.length ≤ 1000) :
    Calls Tryz.prog 10 #[.slice ao n c, .agg #[.float .f64 O.x, .float .f64 O.y, .float .f64 O.z, .float .f64 D.x, .float .f64 D.y, .float .f64 D.z], .slice az K.length cs] w fun e W' => ∃ b, e = .returned (hitN b) ∧ Best (metK T K O D) n b [] ∧ Cl w W' := by
  have HL := hid hL
  have HK := hid hK
  have HK5 := aside h5
  clear hL hK
  go_enter Tryz.func10, Tryz.ntmps10
  go_wp2_with fail
  go_loopg [8] n (fun k i wr => ∃ b : Hit, k ≤ n ∧ i = .int .i64 ((k : Int) - 1) ∧ Best (metK T K O D) n b (List.range k) ∧ (∀ j e, b = some (j, e) → k ≤ j) ∧ Lp.Bk wr w.heap.size #[.float .f64 O.x, .float .f64 O.y, .float .f64 O.z, .float .f64 D.x, .float .f64 D.y, .float .f64 D.z] 27 ∧ Lp.Bk wr (w.heap.size + 1) #[.int .i64 0, .float .f64 0, .float .f64 0, .float .f64 0] 35 ∧ Lp.Bk wr (w.heap.size + 1 + 1) (hcs b) 35 ∧ Cl w wr)
  case atStart => exact ⟨none, Nat.le_refl _, by go_num, Best.start, fun _ _ h => (by cases h), ((Lp.Bk.al _ _ _).alo _).alo _, (Lp.Bk.al1 _ _ _ _).alo _, Lp.Bk.al2 _ _ _ _ _, (((Below.refl _ _).alloc (Nat.le_refl _) _).alloc (by simp) _).alloc (by simp <;> omega) _⟩
  case round =>
    obtain ⟨g0, hg0⟩ : ∃ g0, g0 = gk := ⟨_, rfl⟩
    subst hg0
    obtain ⟨wo, hwo⟩ : ∃ wo, wo = wr := ⟨_, rfl⟩
    subst hwo
    obtain ⟨bh, hgn, rfl, hBest, hLow, BY, BR, BH, HB⟩ := hrel
    have HBE := aside (And.intro hBest hLow)
    clear hBest hLow
    by_cases h0 : g0 = 0
    · subst h0
      have HF := aside (hitN_is bh)
      obtain ⟨q0, q1, q2, q3, e4⟩ := hcsQ bh
      rw [e4] at BH HF
      have kH := BH.cell
      have kR := BR.cell
      have zR := BR.frz
      have HBB := hid HB
      clear e4 HB
      go_wp2_with fail
      refine bodyPost_ret (v := .agg #[.int .i64 q0, .float .f64 q1, .float .f64 q2, .float .f64 q3]) (by simp [results, go_sem, kR]) rfl ⟨bh, by rw [HF.out], by simpa using HBE.out.1, ?_⟩
      repeat (refine Below.setCell ?_ (by dsimp only; omega) _)
      exact HBB.out
    · obtain ⟨j, rfl⟩ : ∃ j, g0 = j + 1 := ⟨g0 - 1, by omega⟩
      have hj : j < n := by omega
      have hj5 : j < 1000 := by omega
      have ei : (((j + 1 : Nat) : Int) - 1) = (j : Int) := by omega
      rw [ei]
      have hd : ((0 : Int) ≤ (j : Int)) = True := eq_true (by omega)
      have hd2 : ((j : Int) < (n : Int)) = True := eq_true (by omega)
      have HGN := aside hgn
      clear h0 ei hgn
      obtain ⟨gz, oz, haz, EZ0⟩ := HL.out.get hj
      subst haz
      have EZ := hid (EZ0.keep HB)
      clear EZ0
      have HMT := hid (fun w' => rmeet_c O D (T j) w')
      generalize htt : T j = t at HMT
      have HT := aside htt
      clear htt
      have hM : ∃ x y z b0, outM (meetT O D t) = .tuple #[.float .f64 x, .float .f64 y, .float .f64 z, .bool b0] ∧ b0 = (meetT O D t).isSome ∧ ∀ h, meetT O D t = some h → x = h.x ∧ y = h.y ∧ z = h.z := by
        cases meetT O D t with
        | none => exact ⟨_, _, _, _, rfl, rfl, fun _ h => by cases h⟩
        | some h => exact ⟨_, _, _, _, rfl, rfl, fun _ e => by cases e; exact ⟨rfl, rfl, rfl⟩⟩
      obtain ⟨mx, my, mz, mb, e5, e6, e7⟩ := hM
      rw [e5] at HMT
      have HMM := aside (And.intro e6 e7)
      clear e5 e6 e7
      have HJ := aside hj
      clear hj
      go_wp2_with fail
      apply Lw.region _ _ 15 (by kernel_rfl) (by kernel_rfl) (by kernel_rfl) (Below.refl _ _)
      apply Lw.facts
      · intro w1 hw
        exact And.intro (BY.cl hw).cell (tat (EZ.out.keep hw) HJ.out)
      intro HF
      iterate 5 (
        apply Lw.one ?_ rfl
        · intro w3 hw
          obtain ⟨k1, k2⟩ := HF.out _ hw
          rw [HT.out] at k2
          obtain ⟨t0, t1, t2, t3, t4, t5, t6, t7, t8⟩ := k2
          go_simp
          exact rfl
        intro K0 hK0
        go_simp
        refine hK0.out _ ?_
        clear hK0 K0)
      apply Lw.any rfl
      · intro w3 hw
        go_simp
        exact Lw.ret (HMT.out _)
      intro K0 hK0
      rintro v rfl
      go_simp
      refine hK0.out _ ?_
      clear hK0 K0
      iterate 9 (
        apply Lw.one ?_ rfl
        · intro w3 hw
          go_simp
          exact rfl
        intro K0 hK0
        go_simp
        refine hK0.out _ ?_
        clear hK0 K0)
      rotate_left
      exact []
      refine Lw.fin ?_
      intro v3 hm
      have HB3 := hid (HB.call hm)
      have HBY := hid (BY.keep hm)
      have HBR := hid (BR.keep hm)
      have HBH := hid (BH.keep hm)
      clear hm HF BY HB BR BH EZ HMT
      go_wp2_with fail
      go_loopg [12, 13] K.length (fun k o i wr => ∃ (m : Nat) (b : Bool), k + m = K.length ∧ i = .int .i64 (m : Int) ∧ o = .bool b ∧ b = (mb && neB K (j : Int) m) ∧ wr = v3)
      case atStart => exact ⟨0, mb, Nat.add_zero _, rfl, rfl, by simp [neB], rfl⟩
      case round =>
        obtain ⟨g1, hg1⟩ : ∃ g1, g1 = gk := ⟨_, rfl⟩
        subst hg1
        obtain ⟨m, b, hk1, rfl, rfl, hbv, hwr⟩ := hrel
        subst hwr
        have HP1 := aside hk1
        have HBV := aside hbv
        clear hk1 hbv
        by_cases hm1 : m < K.length
        · have hd1 : ((m : Int) < (K.length : Int)) = True := eq_true (by omega)
          have hm5 : m < 1000 := by have := HK5.out; omega
          have HM1 := aside hm1
          cases b with
          | false =>
            have HNX := aside (show false = (mb && neB K (j : Int) (m + 1)) by unfold neB; rw [← Bool.and_assoc, ← HBV.out, Bool.false_and])
            clear hm1
            go_wp2_with fail
            go_roundg (g1 - 1)
            case measure => have := HP1.out; have := HM1.out; omega
            case rel => exact ⟨m + 1, false, by have := HP1.out; have := HM1.out; omega, by go_num, rfl, HNX.out, rfl⟩
          | true =>
            obtain ⟨gk1, ok1, hak, EK⟩ := HK.out.get hm1
            have kK := kat (EK.keep HB3.out) hm1
            subst hak
            clear EK
            by_cases hx : K.getD m 0 = (j : Int)
            · have HNX := aside (show false = (mb && neB K (j : Int) (m + 1)) by unfold neB; rw [← Bool.and_assoc, ← HBV.out, Bool.true_and, decide_eq_false (by rw [hx]; exact fun h => h rfl)])
              rw [hx] at kK
              clear hm1 hx
              go_wp2_with fail
              go_roundg (g1 - 1)
              case measure => have := HP1.out; have := HM1.out; omega
              case rel => exact ⟨m + 1, false, by have := HP1.out; have := HM1.out; omega, by go_num, rfl, HNX.out, rfl⟩
            · have HNX := aside (show true = (mb && neB K (j : Int) (m + 1)) by unfold neB; rw [← Bool.and_assoc, ← HBV.out, Bool.true_and, decide_eq_true hx])
              generalize hy : K.getD m 0 = y at kK hx
              have hx1 : (y = (j : Int)) = False := eq_false hx
              have hx2 : (y == (j : Int)) = false := beq_eq_false_iff_ne.2 hx
              have hx3 : (y != (j : Int)) = true := bne_iff_ne.2 hx
              clear hm1 hy
              go_wp2_with fail
              go_roundg (g1 - 1)
              case measure => have := HP1.out; have := HM1.out; omega
              case rel => exact ⟨m + 1, true, by have := HP1.out; have := HM1.out; omega, by go_num, rfl, HNX.out, rfl⟩
        · have hd1 : ((m : Int) < (K.length : Int)) = False := eq_false (by omega)
          obtain rfl : m = K.length := by have := HP1.out; omega
          have hMK := metK_some (T := T) (K := K) (O := O) (D := D) (i := j) b (by rw [HT.out, HBV.out, HMM.out.1])
          rw [HT.out] at hMK
          clear hm1
          have hstep : ∀ b', b' = aheadN (askN (metK T K O D) j) bh → Best (metK T K O D) n b' (List.range j) := fun b' e => by
            rw [e]
            exact (HBE.out.1.more (M := j :: List.range j) fun i hi => by
              rw [List.mem_range] at hi
              rcases Nat.lt_succ_iff_lt_or_eq.1 hi with h | h
              · exact List.mem_cons_of_mem _ (List.mem_range.2 h)
              · rw [h]; exact List.mem_cons_self ..).step HJ.out
          have hlow : ∀ k e, bh = some (k, e) → j ≤ k := fun k e h => by have := HBE.out.2 k e h; omega
          cases b with
          | false =>
            have hMN := hMK.2 rfl
            have HST := aside (And.intro (hstep bh (by unfold askN; rw [hMN]; rfl)) hlow)
            clear hMK hMN hstep hlow
            go_wp2_with fail
            go_roundg j
            case measure => omega
            case rel => exact ⟨bh, by have := HGN.out; omega, by go_num, HST.out.1, HST.out.2, HBY.out, HBR.out, HBH.out, HB3.out⟩
          | true =>
            obtain ⟨hM1, hM2⟩ := hMK.1 rfl
            obtain ⟨h, hh⟩ := Option.isSome_iff_exists.1 hM2
            have ex := HMM.out.2 h hh
            have hask : askN (metK T K O D) j = some (j, h) := by unfold askN; rw [hM1, hh]; rfl
            have hbt := ref_step (f := metK T K O D) (g := h) (i := j) HBE.out.1 (fun k e hb => by have := HBE.out.2 k e hb; omega)
            have hne : (w.heap.size + 1 + 1 = w.heap.size) = False := eq_false (by omega)
            obtain ⟨ex1, ex2, ex3⟩ := ex
            have hnew : betN (some (j, h)) bh = true → Best (metK T K O D) n (some (j, h)) (List.range j) := fun e => hstep _ (by rw [hask]; unfold aheadN; rw [e]; rfl)
            have hold : betN (some (j, h)) bh = false → Best (metK T K O D) n bh (List.range j) := fun e => hstep _ (by rw [hask]; unfold aheadN; rw [e]; rfl)
            have hcell : hcs (some (j, h)) = #[.int .i64 (j : Nat), .float .f64 mx, .float .f64 my, .float .f64 mz] := by rw [ex1, ex2, ex3]; rfl
            rcases bh with _ | ⟨k, e⟩
            · have HST := aside (And.intro (hnew rfl) (And.intro hcell (show ∀ (k : Nat) (e : V3), (some (j, h) : Hit) = some (k, e) → j ≤ k from fun k e q => by cases q; exact Nat.le_refl _)))
              have BH := HBH.out
              unfold hcs at BH
              have kH := BH.cell
              have zH := BH.frz
              clear hMK hstep hlow hM1 hM2 hh ex1 ex2 ex3 hask hbt hnew hold hcell HBE BH
              go_wp2_with fail
              have HBX := hid HBH.out
              unfold hcs at HBX
              have hfin : Lp.Bk ((((wr.setCell ⟨w.heap.size + 1 + 1, 0, none⟩ (.int .i64 (j : Nat))).setCell ⟨w.heap.size + 1 + 1, 1, none⟩ (.float .f64 mx)).setCell ⟨w.heap.size + 1 + 1, 2, none⟩ (.float .f64 my)).setCell ⟨w.heap.size + 1 + 1, 3, none⟩ (.float .f64 mz)) (w.heap.size + 1 + 1) (hcs (some (j, h))) 35 := by rw [HST.out.2.1]; exact (((HBX.out.set 0 _).set 1 _).set 2 _).set 3 _
              go_roundg j
              case measure => omega
              case rel => exact ⟨some (j, h), by have := HGN.out; omega, by go_num, HST.out.1, HST.out.2.2, (((HBY.out.seto (by dsimp only; omega) _).seto (by dsimp only; omega) _).seto (by dsimp only; omega) _).seto (by dsimp only; omega) _, (((HBR.out.seto (by dsimp only; omega) _).seto (by dsimp only; omega) _).seto (by dsimp only; omega) _).seto (by dsimp only; omega) _, hfin, Below.setCell (Below.setCell (Below.setCell (Below.setCell HB3.out (by dsimp only; omega) _) (by dsimp only; omega) _) (by dsimp only; omega) _) (by dsimp only; omega) _⟩
            · have hbt' : leB mx e.x = betN (some (j, h)) (some (k, e)) := by rw [ex1]; exact hbt
              have hc0 := le_w (Sm.refl mx) (Sm.refl e.x)
              have hkn : ((k : Int) < 0) = False := eq_false (by omega)
              cases hl : leB mx e.x with
              | false =>
                have HST := aside (And.intro (hold (by rw [← hbt', hl])) hlow)
                rw [hl] at hc0
                have BH := HBH.out
                unfold hcs at BH
                have kH := BH.cell
                clear hMK hstep hlow hM1 hM2 hh ex1 ex2 ex3 hask hbt hbt' hnew hold hcell HBE BH hl
                go_wp2_with fail
                go_roundg j
                case measure => omega
                case rel => exact ⟨some (k, e), by have := HGN.out; omega, by go_num, HST.out.1, HST.out.2, HBY.out, HBR.out, HBH.out, HB3.out⟩
              | true =>
                have HST := aside (And.intro (hnew (by rw [← hbt', hl])) (And.intro hcell (show ∀ (k : Nat) (e : V3), (some (j, h) : Hit) = some (k, e) → j ≤ k from fun k e q => by cases q; exact Nat.le_refl _)))
                rw [hl] at hc0
                have BH := HBH.out
                unfold hcs at BH
                have kH := BH.cell
                have zH := BH.frz
                clear hMK hstep hlow hM1 hM2 hh ex1 ex2 ex3 hask hbt hbt' hnew hold hcell HBE BH hl
                go_wp2_with fail
                have HBX := hid HBH.out
                unfold hcs at HBX
                have hfin : Lp.Bk ((((wr.setCell ⟨w.heap.size + 1 + 1, 0, none⟩ (.int .i64 (j : Nat))).setCell ⟨w.heap.size + 1 + 1, 1, none⟩ (.float .f64 mx)).setCell ⟨w.heap.size + 1 + 1, 2, none⟩ (.float .f64 my)).setCell ⟨w.heap.size + 1 + 1, 3, none⟩ (.float .f64 mz)) (w.heap.size + 1 + 1) (hcs (some (j, h))) 35 := by rw [HST.out.2.1]; exact (((HBX.out.set 0 _).set 1 _).set 2 _).set 3 _
                go_roundg j
                case measure => omega
                case rel => exact ⟨some (j, h), by have := HGN.out; omega, by go_num, HST.out.1, HST.out.2.2, (((HBY.out.seto (by dsimp only; omega) _).seto (by dsimp only; omega) _).seto (by dsimp only; omega) _).seto (by dsimp only; omega) _, (((HBR.out.seto (by dsimp only; omega) _).seto (by dsimp only; omega) _).seto (by dsimp only; omega) _).seto (by dsimp only; omega) _, hfin, Below.setCell (Below.setCell (Below.setCell (Below.setCell HB3.out (by dsimp only; omega) _) (by dsimp only; omega) _) (by dsimp only; omega) _) (by dsimp only; omega) _⟩
end Go.Proofs.YtiblmojdjnfoaaaGreat

namespace Go.Proofs.YtiblmojdjnfoaaaGreat
open Go.RowKit Fl Lm Rg

theorem Ret.of {P : Program} {f : FuncId} {args : Array Value} {w : World} {X : Value} (h : Calls P f args w fun e W' => e = .returned X ∧ Cl w W') : Ret P f args w (fun v => v = X) := Calls.mono h fun _ _ ⟨h1, h2⟩ => ⟨_, h1, rfl, h2⟩
theorem rfirst_is (T : Nat → Tr) (n c cs : Nat) (K : List Int) (O D : V3) (ao az : Option Addr) (w : World) (hL : Sl w ao n 9 fun i => tcs (T i)) (hK : Sl w az K.length 1 (kvs K)) (hn : n ≤ 1000) (h5 : K.length ≤ 1000) :
    Calls Tryz.prog 10 #[.slice ao n c, .agg #[.float .f64 O.x, .float .f64 O.y, .float .f64 O.z, .float .f64 D.x, .float .f64 D.y, .float .f64 D.z], .slice az K.length cs] w fun e W' => e = .returned (.agg (hcs (fstF (metK T K O D) n))) ∧ Cl w W' :=
  Calls.mono (rfirst_c T n c cs K O D ao az w hL hK hn h5) fun e W' ⟨b, h1, h2, h3⟩ => ⟨by rw [h1, h2.is (metK_num T K O D), hitN_is], h3⟩
set_option maxRecDepth 100000 in
set_option maxHeartbeats 4000000 in
theorem scans_any (T : Nat → Tr) (n c m cs x : Nat) (K : List Int) (O D : V3) (ao az : Option Addr) (w : World) (hL : Sl w ao n 9 fun i => tcs (T i)) (hc : n ≤ c) (hm : m ≤ cs) (hK1 : min 10 m = K.length) (hK : Sl w az K.length 1 (kvs K)) :
    Ret Tryz.prog 3 #[.agg #[.slice ao n c, .float .f64 O.x, .float .f64 O.y, .float .f64 O.z, .float .f64 D.x, .float .f64 D.y, .float .f64 D.z, .float .f64 x, .slice az m cs]] w (fun v => v = .bool true) := by
  unfold Ret
  have hk5 : K.length ≤ 1000 := by omega
  have HSK := hid (fun w' => show Calls Tryz.prog 6 #[.slice az m cs] w' (fun e W' => e = .returned (.slice az K.length cs) ∧ W' = w') from hK1 ▸ skips_any m cs az w' hm)
  have HL := hid hL
  have HK := hid hK
  have HK5 := aside hk5
  clear hL hK hm hK1 hk5
  go_enter Tryz.func3, Tryz.ntmps3
  go_wp2_with fail
  refine Lp.settle (fun w' => Lp.Bk w' w.heap.size #[.slice ao n c, .float .f64 O.x, .float .f64 O.y, .float .f64 O.z, .float .f64 D.x, .float .f64 D.y, .float .f64 D.z, .float .f64 x, .slice az m cs] 30 ∧ Cl w w') ⟨Lp.Bk.al _ _ _, (Below.refl _ _).alloc (Nat.le_refl _) _⟩ ?_
  rintro v1 ⟨BQ, HB⟩
  by_cases h1 : 100 < n
  · have hd : (100 < (n : Int)) = True := eq_true (by omega)
    have h2 : (100 : Int) ≤ (c : Int) := by omega
    have h3 : 100 ≤ c := by omega
    have HLN := hid (HL.out.less (m := 100) (Nat.le_of_lt h1))
    clear HL hc
    have HS := hid (fun w' (hb : Below v1.heap.size v1 w') => show Below v1.heap.size v1 w' ∧ w'.cell? ⟨w.heap.size, 0, none⟩ = some (.slice ao n c) ∧ w'.cell? ⟨w.heap.size, 1, none⟩ = some (.float .f64 O.x) ∧ w'.cell? ⟨w.heap.size, 2, none⟩ = some (.float .f64 O.y) ∧ w'.cell? ⟨w.heap.size, 3, none⟩ = some (.float .f64 O.z) ∧ w'.cell? ⟨w.heap.size, 4, none⟩ = some (.float .f64 D.x) ∧ w'.cell? ⟨w.heap.size, 5, none⟩ = some (.float .f64 D.y) ∧ w'.cell? ⟨w.heap.size, 6, none⟩ = some (.float .f64 D.z) ∧ w'.cell? ⟨w.heap.size, 7, none⟩ = some (.float .f64 x) ∧ w'.cell? ⟨w.heap.size, 8, none⟩ = some (.slice az m cs) from by
      have a0 := (BQ.keep hb).cell
      exact ⟨hb, a0 0, a0 1, a0 2, a0 3, a0 4, a0 5, a0 6, a0 7, a0 8⟩)
    have HB1 := hid HB
    clear BQ HB
    go_region_held3 (fun w' => Below v1.heap.size v1 w' ∧ w'.cell? ⟨w.heap.size, 0, none⟩ = some (.slice ao n c) ∧ w'.cell? ⟨w.heap.size, 1, none⟩ = some (.float .f64 O.x) ∧ w'.cell? ⟨w.heap.size, 2, none⟩ = some (.float .f64 O.y) ∧ w'.cell? ⟨w.heap.size, 3, none⟩ = some (.float .f64 O.z) ∧ w'.cell? ⟨w.heap.size, 4, none⟩ = some (.float .f64 D.x) ∧ w'.cell? ⟨w.heap.size, 5, none⟩ = some (.float .f64 D.y) ∧ w'.cell? ⟨w.heap.size, 6, none⟩ = some (.float .f64 D.z) ∧ w'.cell? ⟨w.heap.size, 7, none⟩ = some (.float .f64 x) ∧ w'.cell? ⟨w.heap.size, 8, none⟩ = some (.slice az m cs)) (first | assumption | exact HS.out _ (by (repeat (first | exact Below.refl _ _ | assumption | exact Below.drew (Below.refl _ _) | refine Below.drew ?_ | refine Below.alloc ?_ (by simp) _ | refine Below.alloc ?_ (by have := Below.size (by assumption : Below v1.heap.size v1 _); omega) _ | refine Below.setCell ?_ (by simp) _ | refine Below.setCell ?_ (by have := Below.size (by assumption : Below v1.heap.size v1 _); dsimp only; omega) _))))
      (first
       | (go_at_call 6; refine Calls.mono (HSK.out _) ?_; rintro e w5 ⟨rfl, h5⟩; obtain rfl := h5.symm)
       | fail)
    all_goals
      go_wp2_with fail
      refine Lp.settle (fun w' => Lp.Bk w' v1.heap.size #[.float .f64 O.x, .float .f64 O.y, .float .f64 O.z, .float .f64 D.x, .float .f64 D.y, .float .f64 D.z] 27 ∧ Cl w w') ⟨Lp.Bk.al v1 _ _, Below.drew (HB1.out.alloc _)⟩ ?_
      clear HS HB1 HSK
      rintro v3 ⟨BY, HB⟩
      have HAW := hid (fun w' => awake_any w')
      have HSC := hid (fun w' (hw : Below v3.heap.size v3 w') => Ret.of (scan_is T 100 c cs K O D ao az w' ((HLN.out.keep HB).keep hw) ((HK.out.keep HB).keep hw) (by omega) HK5.out))
      have HFI := hid (fun w' (hw : Below v3.heap.size v3 w') => Ret.of (rfirst_is T 100 c cs K O D ao az w' ((HLN.out.keep HB).keep hw) ((HK.out.keep HB).keep hw) (by omega) HK5.out))
      have HIS := hid (fun w' => ris_hit (fstF (metK T K O D) 100) w')
      have HSA := hid (fun w' (hw : Below v3.heap.size v3 w') => Ret.of (scanany_any T 100 c cs x K O D ao az w' ((HLN.out.keep HB).keep hw) ((HK.out.keep HB).keep hw) (by omega) HK5.out))
      have HRA := hid (fun w' (hw : Below v3.heap.size v3 w') => Ret.of (rany_c T 100 c cs x K O D ao az w' ((HLN.out.keep HB).keep hw) ((HK.out.keep HB).keep hw) (by omega) HK5.out))
      generalize Value.agg (hcs (fstF (metK T K O D) 100)) = bv at HSC HFI HIS
      generalize anyN (metK T K O D) 100 x = bb at HSA HRA
      have hbb : (bb == bb) = true := by cases bb <;> rfl
      apply Lw.region _ _ 25 (by kernel_rfl) (by kernel_rfl) (by kernel_rfl) (Below.refl _ _)
      apply Lw.facts
      · intro w1 hw
        exact (BY.cl hw).cell
      intro HF
      apply Lw.any rfl
      · intro w3 hw
        go_simp
        exact Lw.ret (HAW.out _)
      intro K0 hK0
      rintro v e0
      subst v
      go_simp
      refine hK0.out _ ?_
      clear hK0 K0
      iterate 4 (
        apply Lw.one ?_ rfl
        · intro w3 hw
          have k0 := HF.out _ hw
          go_simp
          exact rfl
        intro K0 hK0
        go_simp
        refine hK0.out _ ?_
        clear hK0 K0)
      apply Lw.any rfl
      · intro w3 hw
        go_simp
        exact Lw.ret (HSC.out _ hw)
      intro K0 hK0
      rintro v e0
      subst v
      go_simp
      refine hK0.out _ ?_
      clear hK0 K0
      iterate 3 (
        apply Lw.one ?_ rfl
        · intro w3 hw
          have k0 := HF.out _ hw
          go_simp
          exact rfl
        intro K0 hK0
        go_simp
        refine hK0.out _ ?_
        clear hK0 K0)
      apply Lw.any rfl
      · intro w3 hw
        go_simp
        exact Lw.ret (HFI.out _ hw)
      intro K0 hK0
      rintro v e0
      subst v
      go_simp
      refine hK0.out _ ?_
      clear hK0 K0
      apply Lw.any rfl
      · intro w3 hw
        go_simp
        exact Lw.ret (HIS.out _)
      intro K0 hK0
      rintro v e0
      subst v
      go_simp
      refine hK0.out _ ?_
      clear hK0 K0
      iterate 6 (
        apply Lw.one ?_ rfl
        · intro w3 hw
          have k0 := HF.out _ hw
          go_simp
          exact rfl
        intro K0 hK0
        go_simp
        refine hK0.out _ ?_
        clear hK0 K0)
      apply Lw.any rfl
      · intro w3 hw
        go_simp
        exact Lw.ret (HSA.out _ hw)
      intro K0 hK0
      rintro v e0
      subst v
      go_simp
      refine hK0.out _ ?_
      clear hK0 K0
      iterate 4 (
        apply Lw.one ?_ rfl
        · intro w3 hw
          have k0 := HF.out _ hw
          go_simp
          exact rfl
        intro K0 hK0
        go_simp
        refine hK0.out _ ?_
        clear hK0 K0)
      apply Lw.any rfl
      · intro w3 hw
        go_simp
        exact Lw.ret (HRA.out _ hw)
      intro K0 hK0
      rintro v e0
      subst v
      go_simp
      refine hK0.out _ ?_
      clear hK0 K0
      iterate 2 (
        apply Lw.one ?_ rfl
        · intro w3 hw
          have k0 := HF.out _ hw
          go_simp
          exact rfl
        intro K0 hK0
        go_simp
        refine hK0.out _ ?_
        clear hK0 K0)
      rotate_left
      exact []
      refine Lw.fin ?_
      intro v4 hm
      have HB4 := hid (HB.call hm)
      clear hm HF BY HAW HSC HFI HIS HSA HRA HB
      go_wp2_with fail
      go_ret
      exact ⟨_, rfl, rfl, HB4.out⟩
  · have hd : (100 < (n : Int)) = False := eq_false (by omega)
    have hn5 : n ≤ 100 := by omega
    have HLN := hid HL.out
    clear HL hc h1
    have HS := hid (fun w' (hb : Below v1.heap.size v1 w') => show Below v1.heap.size v1 w' ∧ w'.cell? ⟨w.heap.size, 0, none⟩ = some (.slice ao n c) ∧ w'.cell? ⟨w.heap.size, 1, none⟩ = some (.float .f64 O.x) ∧ w'.cell? ⟨w.heap.size, 2, none⟩ = some (.float .f64 O.y) ∧ w'.cell? ⟨w.heap.size, 3, none⟩ = some (.float .f64 O.z) ∧ w'.cell? ⟨w.heap.size, 4, none⟩ = some (.float .f64 D.x) ∧ w'.cell? ⟨w.heap.size, 5, none⟩ = some (.float .f64 D.y) ∧ w'.cell? ⟨w.heap.size, 6, none⟩ = some (.float .f64 D.z) ∧ w'.cell? ⟨w.heap.size, 7, none⟩ = some (.float .f64 x) ∧ w'.cell? ⟨w.heap.size, 8, none⟩ = some (.slice az m cs) from by
      have a0 := (BQ.keep hb).cell
      exact ⟨hb, a0 0, a0 1, a0 2, a0 3, a0 4, a0 5, a0 6, a0 7, a0 8⟩)
    have HB1 := hid HB
    clear BQ HB
    go_region_held3 (fun w' => Below v1.heap.size v1 w' ∧ w'.cell? ⟨w.heap.size, 0, none⟩ = some (.slice ao n c) ∧ w'.cell? ⟨w.heap.size, 1, none⟩ = some (.float .f64 O.x) ∧ w'.cell? ⟨w.heap.size, 2, none⟩ = some (.float .f64 O.y) ∧ w'.cell? ⟨w.heap.size, 3, none⟩ = some (.float .f64 O.z) ∧ w'.cell? ⟨w.heap.size, 4, none⟩ = some (.float .f64 D.x) ∧ w'.cell? ⟨w.heap.size, 5, none⟩ = some (.float .f64 D.y) ∧ w'.cell? ⟨w.heap.size, 6, none⟩ = some (.float .f64 D.z) ∧ w'.cell? ⟨w.heap.size, 7, none⟩ = some (.float .f64 x) ∧ w'.cell? ⟨w.heap.size, 8, none⟩ = some (.slice az m cs)) (first | assumption | exact HS.out _ (by (repeat (first | exact Below.refl _ _ | assumption | exact Below.drew (Below.refl _ _) | refine Below.drew ?_ | refine Below.alloc ?_ (by simp) _ | refine Below.alloc ?_ (by have := Below.size (by assumption : Below v1.heap.size v1 _); omega) _ | refine Below.setCell ?_ (by simp) _ | refine Below.setCell ?_ (by have := Below.size (by assumption : Below v1.heap.size v1 _); dsimp only; omega) _))))
      (first
       | (go_at_call 6; refine Calls.mono (HSK.out _) ?_; rintro e w5 ⟨rfl, h5⟩; obtain rfl := h5.symm)
       | fail)
    all_goals
      go_wp2_with fail
      refine Lp.settle (fun w' => Lp.Bk w' v1.heap.size #[.float .f64 O.x, .float .f64 O.y, .float .f64 O.z, .float .f64 D.x, .float .f64 D.y, .float .f64 D.z] 27 ∧ Cl w w') ⟨Lp.Bk.al v1 _ _, Below.drew (HB1.out.alloc _)⟩ ?_
      clear HS HB1 HSK
      rintro v3 ⟨BY, HB⟩
      have HAW := hid (fun w' => awake_any w')
      have HSC := hid (fun w' (hw : Below v3.heap.size v3 w') => Ret.of (scan_is T n c cs K O D ao az w' ((HLN.out.keep HB).keep hw) ((HK.out.keep HB).keep hw) (by omega) HK5.out))
      have HFI := hid (fun w' (hw : Below v3.heap.size v3 w') => Ret.of (rfirst_is T n c cs K O D ao az w' ((HLN.out.keep HB).keep hw) ((HK.out.keep HB).keep hw) (by omega) HK5.out))
      have HIS := hid (fun w' => ris_hit (fstF (metK T K O D) n) w')
      have HSA := hid (fun w' (hw : Below v3.heap.size v3 w') => Ret.of (scanany_any T n c cs x K O D ao az w' ((HLN.out.keep HB).keep hw) ((HK.out.keep HB).keep hw) (by omega) HK5.out))
      have HRA := hid (fun w' (hw : Below v3.heap.size v3 w') => Ret.of (rany_c T n c cs x K O D ao az w' ((HLN.out.keep HB).keep hw) ((HK.out.keep HB).keep hw) (by omega) HK5.out))
      generalize Value.agg (hcs (fstF (metK T K O D) n)) = bv at HSC HFI HIS
      generalize anyN (metK T K O D) n x = bb at HSA HRA
      have hbb : (bb == bb) = true := by cases bb <;> rfl
      apply Lw.region _ _ 25 (by kernel_rfl) (by kernel_rfl) (by kernel_rfl) (Below.refl _ _)
      apply Lw.facts
      · intro w1 hw
        exact (BY.cl hw).cell
      intro HF
      apply Lw.any rfl
      · intro w3 hw
        go_simp
        exact Lw.ret (HAW.out _)
      intro K0 hK0
      rintro v e0
      subst v
      go_simp
      refine hK0.out _ ?_
      clear hK0 K0
      iterate 4 (
        apply Lw.one ?_ rfl
        · intro w3 hw
          have k0 := HF.out _ hw
          go_simp
          exact rfl
        intro K0 hK0
        go_simp
        refine hK0.out _ ?_
        clear hK0 K0)
      apply Lw.any rfl
      · intro w3 hw
        go_simp
        exact Lw.ret (HSC.out _ hw)
      intro K0 hK0
      rintro v e0
      subst v
      go_simp
      refine hK0.out _ ?_
      clear hK0 K0
      iterate 3 (
        apply Lw.one ?_ rfl
        · intro w3 hw
          have k0 := HF.out _ hw
          go_simp
          exact rfl
        intro K0 hK0
        go_simp
        refine hK0.out _ ?_
        clear hK0 K0)
      apply Lw.any rfl
      · intro w3 hw
        go_simp
        exact Lw.ret (HFI.out _ hw)
      intro K0 hK0
      rintro v e0
      subst v
      go_simp
      refine hK0.out _ ?_
      clear hK0 K0
      apply Lw.any rfl
      · intro w3 hw
        go_simp
        exact Lw.ret (HIS.out _)
      intro K0 hK0
      rintro v e0
      subst v
      go_simp
      refine hK0.out _ ?_
      clear hK0 K0
      iterate 6 (
        apply Lw.one ?_ rfl
        · intro w3 hw
          have k0 := HF.out _ hw
          go_simp
          exact rfl
        intro K0 hK0
        go_simp
        refine hK0.out _ ?_
        clear hK0 K0)
      apply Lw.any rfl
      · intro w3 hw
        go_simp
        exact Lw.ret (HSA.out _ hw)
      intro K0 hK0
      rintro v e0
      subst v
      go_simp
      refine hK0.out _ ?_
      clear hK0 K0
      iterate 4 (
        apply Lw.one ?_ rfl
        · intro w3 hw
          have k0 := HF.out _ hw
          go_simp
          exact rfl
        intro K0 hK0
        go_simp
        refine hK0.out _ ?_
        clear hK0 K0)
      apply Lw.any rfl
      · intro w3 hw
        go_simp
        exact Lw.ret (HRA.out _ hw)
      intro K0 hK0
      rintro v e0
      subst v
      go_simp
      refine hK0.out _ ?_
      clear hK0 K0
      iterate 2 (
        apply Lw.one ?_ rfl
        · intro w3 hw
          have k0 := HF.out _ hw
          go_simp
          exact rfl
        intro K0 hK0
        go_simp
        refine hK0.out _ ?_
        clear hK0 K0)
      rotate_left
      exact []
      refine Lw.fin ?_
      intro v4 hm
      have HB4 := hid (HB.call hm)
      clear hm HF BY HAW HSC HFI HIS HSA HRA HB
      go_wp2_with fail
      go_ret
      exact ⟨_, rfl, rfl, HB4.out⟩
end Go.Proofs.YtiblmojdjnfoaaaGreat

namespace Go.Proofs.YtiblmojdjnfoaaaGreat.Fl
section
variable {H : Type} {enc : TypeId × Value → H} {P : Program} {w : World} {base : Nat} {spare : Nat → Bool} {held : Bool} {fuel : Nat} {t : TypeId} {cs : List Value} {x : DataW H × List MemPlace}
theorem trod_float {k : FloatKind} (ht : P.underlying t = some (.float k)) (h : DataW.trod enc P w base spare held fuel t cs = some x) : ∃ n, cs = [.float k n] ∧ x = (.lit (.float k n), []) ∧ (Lit.float k n).wf = true := by
  cases fuel with
  | zero => simp [DataW.trod] at h
  | succ n =>
    unfold DataW.trod at h
    rw [ht] at h
    split at h <;> simp_all
end
end Go.Proofs.YtiblmojdjnfoaaaGreat.Fl
namespace Go.Proofs.YtiblmojdjnfoaaaGreat
open Go.ChangeShapes Go.WideShapes Go.ChangeAt Go.RowKit Fl Go.Joins

theorem Tryz.own : ownKnob Tryz.prog.godebug = none := by kernel_rfl
theorem Tryz.laidOut : laidOutB Tryz.prog = true := by kernel_rfl

theorem Tryz.cells25 : Tryz.prog.cellsOf 25 = 3 := by kernel_rfl

set_option maxRecDepth 100000 in
theorem open_vec {H : Type} {enc : TypeId × Value → H} {W : World} {base : Nat} {spare : Nat → Bool} {held : Bool} {r : Reach} {b0 : Nat} {v : Value} {d : DataW H} {ps : List MemPlace} (hv : Value.okWide Tryz.prog W r b0 25 v) (h : DataW.Trod enc Tryz.prog W base spare held 25 v d ps) :
    ∃ x y z, v = .agg #[.float .f64 x, .float .f64 y, .float .f64 z] ∧ d = .agg [.lit (.float .f64 x), .lit (.float .f64 y), .lit (.float .f64 z)] ∧ ps = [] ∧
      (Lit.float .f64 x).wf = true ∧ (Lit.float .f64 y).wf = true ∧ (Lit.float .f64 z).wf = true := by
  obtain ⟨c0, c1, c2, y0, y1, y2, m, rfl, rfl, rfl, h0, h1, h2⟩ := open_agg3 Tryz.underlying25 (by kernel_rfl) Tryz.cells25 hv h
  obtain ⟨x, e0, rfl, wx⟩ := trod_float Tryz.underlying23 h0
  obtain ⟨y, e1, rfl, wy⟩ := trod_float Tryz.underlying23 h1
  obtain ⟨z, e2, rfl, wz⟩ := trod_float Tryz.underlying23 h2
  simp at e0 e1 e2
  subst e0 e1 e2
  exact ⟨x, y, z, rfl, rfl, rfl, wx, wy, wz⟩

theorem shut_vec {H : Type} {enc : TypeId × Value → H} {W : World} {base : Nat} {spare : Nat → Bool} {held : Bool} {x y z : Nat} (wx : (Lit.float .f64 x).wf = true) (wy : (Lit.float .f64 y).wf = true) (wz : (Lit.float .f64 z).wf = true) :
    DataW.Trod enc Tryz.prog W base spare held 25 (.agg #[.float .f64 x, .float .f64 y, .float .f64 z]) (.agg [.lit (.float .f64 x), .lit (.float .f64 y), .lit (.float .f64 z)]) [] :=
  shut_agg3 (y0 := (.lit (.float .f64 x), [])) (y1 := (.lit (.float .f64 y), [])) (y2 := (.lit (.float .f64 z), [])) Tryz.underlying25 (by kernel_rfl) Tryz.cells25
    ⟨1, by simp [DataW.trod, Tryz.underlying23, wx]⟩ ⟨1, by simp [DataW.trod, Tryz.underlying23, wy]⟩ ⟨1, by simp [DataW.trod, Tryz.underlying23, wz]⟩

end Go.Proofs.YtiblmojdjnfoaaaGreat

namespace Go.Proofs.YtiblmojdjnfoaaaGreat
open Go.ChangeShapes Go.WideShapes Go.ChangeAt Go.RowKit Fl Go.Joins Go.Deep

theorem array6 {α : Type} {cs : Array α} (h : cs.size = 6) : ∃ c0 c1 c2 c3 c4 c5, cs = #[c0, c1, c2, c3, c4, c5] := by
  obtain ⟨l⟩ := cs
  match l, h with
  | [c0, c1, c2, c3, c4, c5], _ => exact ⟨c0, c1, c2, c3, c4, c5, rfl⟩
theorem array9 {α : Type} {cs : Array α} (h : cs.size = 9) : ∃ c0 c1 c2 c3 c4 c5 c6 c7 c8, cs = #[c0, c1, c2, c3, c4, c5, c6, c7, c8] := by
  obtain ⟨l⟩ := cs
  match l, h with
  | [c0, c1, c2, c3, c4, c5, c6, c7, c8], _ => exact ⟨c0, c1, c2, c3, c4, c5, c6, c7, c8, rfl⟩
/-- Three words. -/
def Wf3 (x y z : Nat) : Prop := (Lit.float .f64 x).wf = true ∧ (Lit.float .f64 y).wf = true ∧ (Lit.float .f64 z).wf = true

theorem trod_vec {H : Type} {enc : TypeId × Value → H} {W : World} {base : Nat} {spare : Nat → Bool} {held : Bool} {n : Nat} {c0 c1 c2 : Value} {y : DataW H × List MemPlace} (h : DataW.trod enc Tryz.prog W base spare held n 25 [c0, c1, c2] = some y) :
    ∃ x y' z, c0 = .float .f64 x ∧ c1 = .float .f64 y' ∧ c2 = .float .f64 z ∧ y = (.agg [.lit (.float .f64 x), .lit (.float .f64 y'), .lit (.float .f64 z)], []) ∧ Wf3 x y' z := by
  obtain ⟨y0, y1, y2, m, hx, _, h0, h1, h2⟩ := trod_struct3 Tryz.underlying25 h
  have k : Tryz.prog.cellsOf 23 = 1 := by kernel_rfl
  simp only [k, List.drop_zero, List.drop_succ_cons, List.take_succ_cons, List.take_zero] at h0 h1 h2
  obtain ⟨x, e0, rfl, wx⟩ := trod_float Tryz.underlying23 h0
  obtain ⟨y', e1, rfl, wy⟩ := trod_float Tryz.underlying23 h1
  obtain ⟨z, e2, rfl, wz⟩ := trod_float Tryz.underlying23 h2
  simp at e0 e1 e2
  subst e0 e1 e2 hx
  exact ⟨x, y', z, rfl, rfl, rfl, rfl, wx, wy, wz⟩

theorem trod_vec_mk {H : Type} {enc : TypeId × Value → H} {W : World} {base : Nat} {spare : Nat → Bool} {held : Bool} {x y z : Nat} (h : Wf3 x y z) :
    DataW.trod enc Tryz.prog W base spare held 2 25 [.float .f64 x, .float .f64 y, .float .f64 z] = some (.agg [.lit (.float .f64 x), .lit (.float .f64 y), .lit (.float .f64 z)], []) := by
  have k : Tryz.prog.cellsOf 23 = 1 := by kernel_rfl
  refine trod_struct3_mk (n := 1) (y0 := (.lit (.float .f64 x), [])) (y1 := (.lit (.float .f64 y), [])) (y2 := (.lit (.float .f64 z), [])) Tryz.underlying25 (by rw [Tryz.cells25]; rfl) ?_ ?_ ?_ <;>
  simp only [k, List.drop_zero, List.drop_succ_cons, List.take_succ_cons, List.take_zero] <;> simp [DataW.trod, Tryz.underlying23, h.1, h.2.1, h.2.2]

theorem Tryz.cells54 : Tryz.prog.cellsOf 54 = 6 := by kernel_rfl

set_option maxRecDepth 100000 in
theorem open_box {H : Type} {enc : TypeId × Value → H} {W : World} {base : Nat} {spare : Nat → Bool} {held : Bool} {r : Reach} {b0 : Nat} {v : Value} {d : DataW H} {ps : List MemPlace} (hv : Value.okWide Tryz.prog W r b0 54 v) (h : DataW.Trod enc Tryz.prog W base spare held 54 v d ps) :
    ∃ x0 x1 x2 x3 x4 x5, v = .agg #[.float .f64 x0, .float .f64 x1, .float .f64 x2, .float .f64 x3, .float .f64 x4, .float .f64 x5] ∧ d = .agg [.agg [.lit (.float .f64 x0), .lit (.float .f64 x1), .lit (.float .f64 x2)], .agg [.lit (.float .f64 x3), .lit (.float .f64 x4), .lit (.float .f64 x5)]] ∧ ps = [] ∧ Wf3 x0 x1 x2 ∧ Wf3 x3 x4 x5 := by
  obtain ⟨cs, rfl, hsz⟩ := okWide_struct Tryz.underlying54 hv
  obtain ⟨c0, c1, c2, c3, c4, c5, rfl⟩ := array6 (hsz.trans Tryz.cells54)
  obtain ⟨fuel, hf⟩ := h
  obtain ⟨y0, y1, m, hx, _, h0, h1⟩ := trod_struct2 Tryz.underlying54 hf
  simp only [Value.cells, Tryz.cells25, List.drop_zero, List.drop_succ_cons, List.take_succ_cons, List.take_zero] at h0 h1
  obtain ⟨x0, x1, x2, rfl, rfl, rfl, rfl, w0⟩ := trod_vec h0
  obtain ⟨x3, x4, x5, rfl, rfl, rfl, rfl, w1⟩ := trod_vec h1
  simp only [Prod.mk.injEq] at hx
  exact ⟨x0, x1, x2, x3, x4, x5, rfl, hx.1, hx.2, w0, w1⟩

theorem shut_box {H : Type} {enc : TypeId × Value → H} {W : World} {base : Nat} {spare : Nat → Bool} {held : Bool} {x0 x1 x2 x3 x4 x5 : Nat} (w0 : Wf3 x0 x1 x2) (w1 : Wf3 x3 x4 x5) : DataW.Trod enc Tryz.prog W base spare held 54 (.agg #[.float .f64 x0, .float .f64 x1, .float .f64 x2, .float .f64 x3, .float .f64 x4, .float .f64 x5]) (.agg [.agg [.lit (.float .f64 x0), .lit (.float .f64 x1), .lit (.float .f64 x2)], .agg [.lit (.float .f64 x3), .lit (.float .f64 x4), .lit (.float .f64 x5)]]) [] := by
  refine ⟨3, ?_⟩
  refine trod_struct2_mk (n := 2) (y0 := (_, [])) (y1 := (_, [])) Tryz.underlying54 (by rw [Tryz.cells54]; rfl) ?_ ?_ <;>
  simp only [Value.cells, Tryz.cells25, List.drop_zero, List.drop_succ_cons, List.take_succ_cons, List.take_zero]
  · exact trod_vec_mk w0
  · exact trod_vec_mk w1

theorem Tryz.cells27 : Tryz.prog.cellsOf 27 = 6 := by kernel_rfl

set_option maxRecDepth 100000 in
theorem open_ray {H : Type} {enc : TypeId × Value → H} {W : World} {base : Nat} {spare : Nat → Bool} {held : Bool} {r : Reach} {b0 : Nat} {v : Value} {d : DataW H} {ps : List MemPlace} (hv : Value.okWide Tryz.prog W r b0 27 v) (h : DataW.Trod enc Tryz.prog W base spare held 27 v d ps) :
    ∃ x0 x1 x2 x3 x4 x5, v = .agg #[.float .f64 x0, .float .f64 x1, .float .f64 x2, .float .f64 x3, .float .f64 x4, .float .f64 x5] ∧ d = .agg [.agg [.lit (.float .f64 x0), .lit (.float .f64 x1), .lit (.float .f64 x2)], .agg [.lit (.float .f64 x3), .lit (.float .f64 x4), .lit (.float .f64 x5)]] ∧ ps = [] ∧ Wf3 x0 x1 x2 ∧ Wf3 x3 x4 x5 := by
  obtain ⟨cs, rfl, hsz⟩ := okWide_struct Tryz.underlying27 hv
  obtain ⟨c0, c1, c2, c3, c4, c5, rfl⟩ := array6 (hsz.trans Tryz.cells27)
  obtain ⟨fuel, hf⟩ := h
  obtain ⟨y0, y1, m, hx, _, h0, h1⟩ := trod_struct2 Tryz.underlying27 hf
  simp only [Value.cells, Tryz.cells25, List.drop_zero, List.drop_succ_cons, List.take_succ_cons, List.take_zero] at h0 h1
  obtain ⟨x0, x1, x2, rfl, rfl, rfl, rfl, w0⟩ := trod_vec h0
  obtain ⟨x3, x4, x5, rfl, rfl, rfl, rfl, w1⟩ := trod_vec h1
  simp only [Prod.mk.injEq] at hx
  exact ⟨x0, x1, x2, x3, x4, x5, rfl, hx.1, hx.2, w0, w1⟩

set_option maxRecDepth 100000 in
theorem shut_ray {H : Type} {enc : TypeId × Value → H} {W : World} {base : Nat} {spare : Nat → Bool} {held : Bool} {x0 x1 x2 x3 x4 x5 : Nat} (w0 : Wf3 x0 x1 x2) (w1 : Wf3 x3 x4 x5) : DataW.Trod enc Tryz.prog W base spare held 27 (.agg #[.float .f64 x0, .float .f64 x1, .float .f64 x2, .float .f64 x3, .float .f64 x4, .float .f64 x5]) (.agg [.agg [.lit (.float .f64 x0), .lit (.float .f64 x1), .lit (.float .f64 x2)], .agg [.lit (.float .f64 x3), .lit (.float .f64 x4), .lit (.float .f64 x5)]]) [] := by
  refine ⟨3, ?_⟩
  refine trod_struct2_mk (n := 2) (y0 := (_, [])) (y1 := (_, [])) Tryz.underlying27 (by rw [Tryz.cells27]; rfl) ?_ ?_ <;>
  simp only [Value.cells, Tryz.cells25, List.drop_zero, List.drop_succ_cons, List.take_succ_cons, List.take_zero]
  · exact trod_vec_mk w0
  · exact trod_vec_mk w1

theorem Tryz.cells60 : Tryz.prog.cellsOf 60 = 9 := by kernel_rfl

set_option maxRecDepth 100000 in
set_option maxRecDepth 100000 in
theorem open_tri {H : Type} {enc : TypeId × Value → H} {W : World} {base : Nat} {spare : Nat → Bool} {held : Bool} {r : Reach} {b0 : Nat} {v : Value} {d : DataW H} {ps : List MemPlace} (hv : Value.okWide Tryz.prog W r b0 60 v) (h : DataW.Trod enc Tryz.prog W base spare held 60 v d ps) :
    ∃ x0 x1 x2 x3 x4 x5 x6 x7 x8, v = .agg #[.float .f64 x0, .float .f64 x1, .float .f64 x2, .float .f64 x3, .float .f64 x4, .float .f64 x5, .float .f64 x6, .float .f64 x7, .float .f64 x8] ∧ d = .agg [.agg [.lit (.float .f64 x0), .lit (.float .f64 x1), .lit (.float .f64 x2)], .agg [.lit (.float .f64 x3), .lit (.float .f64 x4), .lit (.float .f64 x5)], .agg [.lit (.float .f64 x6), .lit (.float .f64 x7), .lit (.float .f64 x8)]] ∧ ps = [] ∧ Wf3 x0 x1 x2 ∧ Wf3 x3 x4 x5 ∧ Wf3 x6 x7 x8 := by
  obtain ⟨cs, rfl, hsz⟩ := okWide_struct Tryz.underlying60 hv
  obtain ⟨c0, c1, c2, c3, c4, c5, c6, c7, c8, rfl⟩ := array9 (hsz.trans Tryz.cells60)
  obtain ⟨fuel, hf⟩ := h
  obtain ⟨y0, y1, y2, m, hx, _, h0, h1, h2⟩ := trod_struct3 Tryz.underlying60 hf
  simp only [Value.cells, Tryz.cells25, List.drop_zero, List.drop_succ_cons, List.take_succ_cons, List.take_zero] at h0 h1 h2
  obtain ⟨x0, x1, x2, rfl, rfl, rfl, rfl, w0⟩ := trod_vec h0
  obtain ⟨x3, x4, x5, rfl, rfl, rfl, rfl, w1⟩ := trod_vec h1
  obtain ⟨x6, x7, x8, rfl, rfl, rfl, rfl, w2⟩ := trod_vec h2
  simp only [Prod.mk.injEq] at hx
  exact ⟨x0, x1, x2, x3, x4, x5, x6, x7, x8, rfl, hx.1, hx.2, w0, w1, w2⟩

set_option maxRecDepth 100000 in
theorem shut_tri {H : Type} {enc : TypeId × Value → H} {W : World} {base : Nat} {spare : Nat → Bool} {held : Bool} {x0 x1 x2 x3 x4 x5 x6 x7 x8 : Nat} (w0 : Wf3 x0 x1 x2) (w1 : Wf3 x3 x4 x5) (w2 : Wf3 x6 x7 x8) : DataW.Trod enc Tryz.prog W base spare held 60 (.agg #[.float .f64 x0, .float .f64 x1, .float .f64 x2, .float .f64 x3, .float .f64 x4, .float .f64 x5, .float .f64 x6, .float .f64 x7, .float .f64 x8]) (.agg [.agg [.lit (.float .f64 x0), .lit (.float .f64 x1), .lit (.float .f64 x2)], .agg [.lit (.float .f64 x3), .lit (.float .f64 x4), .lit (.float .f64 x5)], .agg [.lit (.float .f64 x6), .lit (.float .f64 x7), .lit (.float .f64 x8)]]) [] := by
  refine ⟨3, ?_⟩
  refine trod_struct3_mk (n := 2) (y0 := (_, [])) (y1 := (_, [])) (y2 := (_, [])) Tryz.underlying60 (by rw [Tryz.cells60]; rfl) ?_ ?_ ?_ <;>
  simp only [Value.cells, Tryz.cells25, List.drop_zero, List.drop_succ_cons, List.take_succ_cons, List.take_zero]
  · exact trod_vec_mk w0
  · exact trod_vec_mk w1
  · exact trod_vec_mk w2

end Go.Proofs.YtiblmojdjnfoaaaGreat

namespace Go.Proofs.YtiblmojdjnfoaaaGreat
open Go.ChangeShapes Go.WideShapes Go.ChangeAt Go.RowKit Fl Lm Go.Joins Go.Deep

theorem trod_tri {H : Type} {enc : TypeId × Value → H} {W : World} {base : Nat} {spare : Nat → Bool} {held : Bool} {fuel : Nat} {cs : List Value} {x : DataW H × List MemPlace} (hsz : cs.length = 9) (h : DataW.trod enc Tryz.prog W base spare held fuel 60 cs = some x) : ∃ t : Tr, cs = tcs t := by
  match cs, hsz with
  | [c0, c1, c2, c3, c4, c5, c6, c7, c8], _ =>
    obtain ⟨y0, y1, y2, m, hx, _, h0, h1, h2⟩ := trod_struct3 Tryz.underlying60 h
    simp only [Tryz.cells25, List.drop_zero, List.drop_succ_cons, List.take_succ_cons, List.take_zero] at h0 h1 h2
    obtain ⟨x0, x1, x2, rfl, rfl, rfl, rfl, w0⟩ := trod_vec h0
    obtain ⟨x3, x4, x5, rfl, rfl, rfl, rfl, w1⟩ := trod_vec h1
    obtain ⟨x6, x7, x8, rfl, rfl, rfl, rfl, w2⟩ := trod_vec h2
    exact ⟨⟨x0, x1, x2, x3, x4, x5, x6, x7, x8⟩, rfl⟩

theorem came_tris {H : Type} {enc : TypeId × Value → H} {W : World} {v : Value} {d : DataW H} {p : List MemPlace}
    (hv : ∃ a l c, v = .slice a l c) (h : DataW.Trod enc Tryz.prog W 0 (fun _ => true) true 22 v d p) :
    ∃ (n : Nat) (T : Nat → Tr) (ao : Option Addr) (cz : Nat), v = .slice ao n cz ∧ n ≤ cz ∧ Sl W ao n 9 (fun i => tcs (T i)) ∧ ∀ i, n ≤ i → T i = ⟨0, 0, 0, 0, 0, 0, 0, 0, 0⟩ := by
  obtain ⟨a, l, c, rfl⟩ := hv
  obtain ⟨fuel, hf⟩ := h
  rcases open_slice under_tris hf with ⟨hcs, _⟩ | ⟨ad, len, cap, m, n, D, Pl, hcs, _, hl, hm, hmm, _, hx⟩
  · simp [Value.cells] at hcs
    obtain ⟨rfl, rfl, rfl⟩ := hcs
    exact ⟨0, fun _ => ⟨0, 0, 0, 0, 0, 0, 0, 0, 0⟩, none, 0, rfl, Nat.le_refl _, .inl rfl, fun _ _ => rfl⟩
  · simp [Value.cells] at hcs
    obtain ⟨rfl, rfl, rfl⟩ := hcs
    simp at hmm
    rw [Tryz.cells60] at hx
    by_cases h0 : l = 0
    · subst h0
      exact ⟨0, fun _ => ⟨0, 0, 0, 0, 0, 0, 0, 0, 0⟩, _, _, rfl, hl, .inl rfl, fun _ _ => rfl⟩
    · obtain ⟨b, off, spot⟩ := ad
      have each : ∀ i, i < l → ∃ t : Tr, ∀ j, j < 9 → W.cell? (((⟨b, off, spot⟩ : Addr).add (i * 9)).add j) = (tcs t)[j]? := by
        intro i hi
        obtain ⟨cs, k1, k2⟩ := hx i (by omega)
        obtain ⟨_, hlen, hcell⟩ := World.cells?_some k1
        obtain ⟨t, rfl⟩ := trod_tri hlen k2
        exact ⟨t, fun j hj => hcell j hj⟩
      obtain ⟨t0, ht0⟩ := each 0 (by omega)
      have hc0 := (ht0 0 (by decide)).trans (show (tcs t0)[0]? = some (.float .f64 t0.t0) from rfl)
      have hspot : spot = none := by simpa [Addr.add] using World.cell?_spot hc0
      subst hspot
      have hb : b < W.heap.size := by
        have := World.block_lt_of_cell? W _ hc0
        rw [addr_off, addr_off] at this
        exact this
      have : Inhabited Tr := ⟨⟨0, 0, 0, 0, 0, 0, 0, 0, 0⟩⟩
      obtain ⟨F, hF⟩ := choose_lt each
      refine ⟨l, fun i => if i < l then F i else ⟨0, 0, 0, 0, 0, 0, 0, 0, 0⟩, some ⟨b, off, none⟩, c, rfl, hl, .inr ⟨b, off, rfl, hb, fun i hi j hj => ?_⟩, fun i hi => if_neg (by omega)⟩
      have := hF i hi j hj
      rw [addr_off, addr_off, Nat.add_assoc] at this
      rw [this]
      show _ = (tcs (if i < l then F i else _))[j]?
      rw [if_pos hi]
end Go.Proofs.YtiblmojdjnfoaaaGreat

namespace Go.Proofs.YtiblmojdjnfoaaaGreat
open Go.ChangeShapes Go.WideShapes Go.ChangeAt Go.RowKit Fl Lm Go.Joins Go.Deep

theorem Tryz.cells30 : Tryz.prog.cellsOf 30 = 9 := by kernel_rfl
def numK : Value → Int
  | .int _ n => n
  | _ => 0
theorem under_ks : Tryz.prog.underlying 28 = some (.slice 3) := by kernel_rfl
theorem cells_k : Tryz.prog.cellsOf 3 = 1 := by kernel_rfl

theorem came_skips {H : Type} {enc : TypeId × Value → H} {W : World} {fuel : Nat} {c : Value} {y : DataW H × List MemPlace} (hf : DataW.trod enc Tryz.prog W 0 (fun _ => true) true fuel 28 [c] = some y) :
    ∃ (K : List Int) (ao : Option Addr) (cz : Nat), c = .slice ao K.length cz ∧ K.length ≤ cz ∧ Sl W ao K.length 1 (kvs K) := by
  rcases open_slice1 under_ks cells_k hf with ⟨hcs, _⟩ | ⟨ad, len, cap, m, n, V, D, Pl, hcs, _, hl, hm, hmm, _, hx⟩
  · simp only [List.cons.injEq, and_true] at hcs
    subst hcs
    exact ⟨[], none, 0, rfl, Nat.le_refl _, .inl rfl⟩
  · simp only [List.cons.injEq, and_true] at hcs
    subst hcs
    simp at hmm
    subst hmm
    by_cases h0 : len = 0
    · subst h0
      exact ⟨[], _, _, rfl, hl, .inl rfl⟩
    · obtain ⟨b, off, spot⟩ := ad
      have hspot : spot = none := by simpa [Addr.add] using World.cell?_spot (hx 0 (by omega)).1
      subst hspot
      have hb : b < W.heap.size := by
        have := World.block_lt_of_cell? W _ (hx 0 (by omega)).1
        rw [addr_off] at this
        exact this
      have each : ∀ k, k < len → W.cell? ⟨b, off + k, none⟩ = some (.int .i64 (((List.range len).map fun i => numK (V i)).getD k 0)) := by
        intro k hk
        obtain ⟨k1, k2⟩ := hx k (by omega)
        obtain ⟨x, e0, _, wf⟩ := DataW.trod_int Tryz.underlying3 k2
        simp at e0
        rw [addr_off, e0] at k1
        have hg : ((List.range len).map fun i => numK (V i)).getD k 0 = x := by
          rw [List.getD_eq_getElem?_getD, List.getElem?_map, List.getElem?_range hk]
          simp [e0, numK]
        rw [hg]
        exact k1
      refine ⟨(List.range len).map fun i => numK (V i), some ⟨b, off, none⟩, m, by simp, by simpa using hl, .inr ⟨b, off, rfl, hb, fun i hi j hj => ?_⟩⟩
      obtain rfl : j = 0 := by omega
      rw [Nat.mul_one, Nat.add_zero, each i (by simpa using hi)]
      rfl

theorem slice_tris {H : Type} {enc : TypeId × Value → H} {W : World} {fuel : Nat} {c : Value} {y : DataW H × List MemPlace} (hf : DataW.trod enc Tryz.prog W 0 (fun _ => true) true fuel 22 [c] = some y) : ∃ a l k, c = .slice a l k := by
  rcases open_slice under_tris hf with ⟨hcs, _⟩ | ⟨ad, len, cap, m, n, D, Pl, hcs, _⟩
  · simp only [List.cons.injEq, and_true] at hcs
    exact ⟨_, _, _, hcs⟩
  · simp only [List.cons.injEq, and_true] at hcs
    exact ⟨_, _, _, hcs⟩

set_option maxRecDepth 100000 in
theorem open_four {H : Type} {enc : TypeId × Value → H} {W : World} {r : Reach} {b0 : Nat} {v : Value} {d : DataW H} {ps : List MemPlace} (hv : Value.okWide Tryz.prog W r b0 30 v) (h : DataW.Trod enc Tryz.prog W 0 (fun _ => true) true 30 v d ps) :
    ∃ (n c cs x : Nat) (T : Nat → Tr) (O D : V3) (K : List Int) (ao az : Option Addr), v = .agg #[.slice ao n c, .float .f64 O.x, .float .f64 O.y, .float .f64 O.z, .float .f64 D.x, .float .f64 D.y, .float .f64 D.z, .float .f64 x, .slice az K.length cs] ∧ n ≤ c ∧ Sl W ao n 9 (fun i => tcs (T i)) ∧ K.length ≤ cs ∧ Sl W az K.length 1 (kvs K) := by
  obtain ⟨cs, rfl, hsz⟩ := okWide_struct Tryz.underlying30 hv
  obtain ⟨c0, c1, c2, c3, c4, c5, c6, c7, c8, rfl⟩ := array9 (hsz.trans Tryz.cells30)
  obtain ⟨fuel, hf⟩ := h
  obtain ⟨xs, n, _, hx, hl, hlen, hfs⟩ := DataW.trod_struct Tryz.underlying30 hf
  have k0 : Tryz.prog.cellsOf 22 = 1 := by kernel_rfl
  have k1 : Tryz.prog.cellsOf 27 = 6 := by kernel_rfl
  have k2 : Tryz.prog.cellsOf 23 = 1 := by kernel_rfl
  have k3 : Tryz.prog.cellsOf 28 = 1 := by kernel_rfl
  match xs, hlen with
  | [y0, y1, y2, y3], _ =>
    have h0 : DataW.trod enc Tryz.prog W 0 (fun _ => true) true n 22 [c0] = some y0 := by simpa [Value.cells, k0] using hfs 0 _ rfl
    have h1 : DataW.trod enc Tryz.prog W 0 (fun _ => true) true n 27 [c1, c2, c3, c4, c5, c6] = some y1 := by simpa [Value.cells, k1] using hfs 1 _ rfl
    have h2 : DataW.trod enc Tryz.prog W 0 (fun _ => true) true n 23 [c7] = some y2 := by simpa [Value.cells, k2] using hfs 2 _ rfl
    have h3 : DataW.trod enc Tryz.prog W 0 (fun _ => true) true n 28 [c8] = some y3 := by simpa [Value.cells, k3] using hfs 3 _ rfl
    obtain ⟨a, l, k, rfl⟩ := slice_tris h0
    obtain ⟨m, T, ao, c, e0, hc, hS, _⟩ := came_tris ⟨_, _, _, rfl⟩ (⟨n, h0⟩ : DataW.Trod enc Tryz.prog W 0 (fun _ => true) true 22 (.slice a l k) y0.1 y0.2)
    rw [e0]
    obtain ⟨u0, u1, m', hu, _, hu0, hu1⟩ := trod_struct2 Tryz.underlying27 h1
    simp only [Tryz.cells25, List.drop_zero, List.drop_succ_cons, List.take_succ_cons, List.take_zero] at hu0 hu1
    obtain ⟨o0, o1, o2, rfl, rfl, rfl, _, _⟩ := trod_vec hu0
    obtain ⟨d0, d1, d2, rfl, rfl, rfl, _, _⟩ := trod_vec hu1
    obtain ⟨x, e7, _, _⟩ := trod_float Tryz.underlying23 h2
    simp only [List.cons.injEq, and_true] at e7
    subst e7
    obtain ⟨K, az, cz, rfl, hK, hSK⟩ := came_skips h3
    exact ⟨m, c, cz, x, T, ⟨o0, o1, o2⟩, ⟨d0, d1, d2⟩, K, ao, az, rfl, hc, hS, hK, hSK⟩
end Go.Proofs.YtiblmojdjnfoaaaGreat
