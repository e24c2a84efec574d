/- Package alias: the walk of AliasRight. -/
import Derived.Deep.LoopGhost
import Derived.Deep.QuietTactic
import Derived.BigQuiet
import Derived.Test.YtmnemandmpoioaaAn
namespace Go.Proofs.Ytmnemandmpoioaa
open Go.RowKit Fl

/-- How often i has been met in the first j columns. -/
def gotF (t : Int) (T : Nat → Int) (A : Nat → Nat) (j i : Nat) : Int := (if i < j then T i else 0) + gave t T A j i
theorem got_step (t : Int) (T : Nat → Int) (A : Nat → Nat) (j i : Nat) : upd (upd (gotF t T A j) j (gotF t T A j j + T j)) (A j) (upd (gotF t T A j) j (gotF t T A j j + T j) (A j) + (t - T j)) i = gotF t T A (j + 1) i := by
  have e : gave t T A (j + 1) i = gave t T A j i + if A j = i then t - T j else 0 := rfl
  have e1 : ∀ i, upd (gotF t T A j) j (gotF t T A j j + T j) i = gotF t T A j i + if i = j then T j else 0 := by
    intro i
    by_cases h : i = j
    · subst h; rw [upd_self, if_pos rfl]
    · rw [upd_ne h, if_neg h]; omega
  have e2 : gotF t T A (j + 1) i = gotF t T A j i + (if i = j then T j else 0) + if A j = i then t - T j else 0 := by
    unfold gotF
    rw [e]
    by_cases h : i = j
    · subst h
      rw [if_pos (Nat.lt_succ_self _), if_neg (Nat.lt_irrefl _), if_pos rfl]; omega
    · rw [if_neg h]
      by_cases h2 : i < j
      · rw [if_pos (show i < j + 1 by omega), if_pos h2]; omega
      · rw [if_neg (show ¬ i < j + 1 by omega), if_neg h2]; omega
  rw [e2, ← e1]
  by_cases h : i = A j
  · subst h
    rw [upd_self, if_pos rfl]
  · rw [upd_ne h, if_neg (Ne.symm h)]; omega
theorem got_range {t : Int} {T : Nat → Int} {A : Nat → Nat} {n j : Nat} (h : ∀ i, i < n → 0 ≤ T i ∧ T i ≤ t) (ht : 0 ≤ t) (hj : j ≤ n) (i : Nat) (hi : i < n) : 0 ≤ gotF t T A j i ∧ gotF t T A j i ≤ t + j * t := by
  have a := sumN_nonneg (f := fun k => if A k = i then t - T k else 0) (n := j) (fun k hk => by have := h k (by omega); split <;> omega)
  have b := sumN_le (f := fun k => if A k = i then t - T k else 0) (n := j) (c := t) (fun k hk => by have := h k (by omega); split <;> omega)
  have c := h i hi
  unfold gotF gave
  split <;> omega

section
variable (zs : List Int) (ai : Option Addr) (cz : Nat) (w : World)
set_option maxRecDepth 100000 in
set_option maxHeartbeats 8000000 in
theorem right_walk (hz : zs.length = 0 ∨ ∃ b off, ai = some ⟨b, off, none⟩ ∧ b < w.heap.size ∧ ∀ k, k < zs.length → w.cell? ⟨b, off + k, none⟩ = some (.int .u16 (zs.getD k 0))) (hzr : ∀ k, k < zs.length → 0 ≤ zs.getD k 0 ∧ zs.getD k 0 ≤ 65535) :
    Ret Try.prog 4 #[.slice ai zs.length cz] w (fun v => v = .bool true) := by
  unfold Ret
  obtain ⟨i0, hi, hz0, hz1, hz2⟩ := info_int
  have HA := hid (fun w => awake_any w)
  obtain ⟨n, hn⟩ : ∃ n, n = zs.length := ⟨_, rfl⟩
  obtain ⟨f, hf⟩ : ∃ f : Nat → Int, f = fun i => zs.getD i 0 := ⟨_, rfl⟩
  have hz' : n = 0 ∨ ∃ b off, ai = some ⟨b, off, none⟩ ∧ b < w.heap.size ∧ ∀ k, k < n → w.cell? ⟨b, off + k, none⟩ = some (.int .u16 (f k)) := by rw [hn, hf]; exact hz
  have hzr' : ∀ k, k < n → 0 ≤ f k ∧ f k ≤ 65535 := by rw [hn, hf]; exact hzr
  rw [← hn]
  clear hz hzr hn hf
  have HZ := hid hz'
  have HZR := hid hzr'
  clear hz' hzr'
  obtain ⟨m, hm⟩ : ∃ m, m = min n 30 := ⟨_, rfl⟩
  have hm1 : m ≤ n ∧ m ≤ 30 ∧ (m = n ∨ m = 30) := by omega
  have HM := hid hm1
  clear hm hm1
  go_enter Try.func4, Try.ntmps4
  go_wp2_with fail
  go_loopg [3, 4, 5] m (fun k lv sv i wr => ∃ (j : Nat) (al : Option Addr) (cl : Nat), k + j = m ∧ i = .int .i64 (j : Int) ∧ lv = .slice al j cl ∧ sv = .int .i64 (sumN f j) ∧ wr.ownsRow 0 3 1 (.slice al j cl) j (vals j f) ∧ (∀ k, (Value.slice al j cl).ownBlock = some k → w.heap.size ≤ k) ∧ Below w.heap.size w wr)
  case atStart => exact ⟨0, none, 0, by omega, rfl, rfl, rfl, World.ownsRow_nil _ _ _ _, fun k h => (by cases h), Below.refl _ _⟩
  case round =>
    obtain ⟨g0, hg0⟩ : ∃ g0, g0 = gk := ⟨_, rfl⟩
    subst hg0
    obtain ⟨j, al, cl, hk, rfl, rfl, rfl, hO, hl, hB⟩ := hrel
    have HK := aside hk
    have HO := hid hO
    have HL := hid hl
    have HB := hid hB
    clear hk hO hl hB
    by_cases hj : j < m
    · have hd : ((j : Int) < (n : Int)) = True := eq_true (by have := HM.out; omega)
      have hd2 : ((j : Int) < 30) = True := eq_true (by have := HM.out; omega)
      rcases HZ.out with h | ⟨b, off, rfl, hb, hc⟩
      · have := HM.out; omega
      have kZ := (HB.out.cell (p := ⟨b, off + j, none⟩) hb).trans (hc j (by have := HM.out; omega))
      have hx := HZR.out j (by have := HM.out; omega)
      have hs := sumN_nonneg (f := f) (n := j) (fun i hi => (HZR.out i (by have := HM.out; omega)).1)
      have hs2 := sumN_le (f := f) (n := j) (c := 65535) (fun i hi => (HZR.out i (by have := HM.out; omega)).2)
      have hs3 : sumN f j ≤ 1966050 := by have := HM.out; omega
      have HC := hid (hc j (by have := HM.out; omega))
      have HBB := hid hb
      have HE := aside (sum_step f j)
      have HFJ := aside (show f j = f j from rfl)
      clear hc hs2 hb
      generalize hfj : f j = x at *
      have HF2 := aside hfj
      clear hfj HFJ
      generalize sumN f j = s at *
      obtain ⟨x0, x1⟩ := hx
      have hj30 : j < 30 := by have := HM.out; omega
      go_wp2_with (first
        | (at_builtin; refine wpList_push _ rfl _ _ 22 rfl 3 i0 (.int .i64 0) 1 8 under_ints hi hz0 hz1 hz2 rfl (by decide) (.slice al j cl) j (vals j f) rfl (HO.out.alloc (.cells #[.int .i64 x] 3)) ⟨wr.heap.size, 0, none⟩ 1 1 [.int .i64 x] rfl rfl (news_one ((Lp.Bk.al wr #[.int .i64 x] 3).cell 0)) (one_int _) (max_small (by omega)) (by omega) ?_)
        | fail)
      intro v' w1 hown hg hb
      obtain ⟨al1, cl1, rfl, -⟩ := owns_slice hown
      have HB1 := hid ((HB.out.alloc HB.out.size (.cells #[.int .i64 x] 3)).grown hg (by have := HB.out.size; simp; omega) HL.out)
      have HL1 : Hid (∀ k, (Value.slice al1 (j + 1) cl1).ownBlock = some k → w.heap.size ≤ k) := fun k hk => by
        rcases hb with e | e
        · exact HL.out k (e ▸ hk)
        · have := e k hk; have := HB.out.size; omega
      have HO1 := hid (owns_more hown HF2.out)
      clear hown hg hb kZ
      have kZ := (HB1.out.cell (p := ⟨b, off + j, none⟩) HBB.out).trans HC.out
      go_wp2_with fail
      go_roundg (g0 - 1)
      case measure => have := HK.out; omega
      case rel => exact ⟨j + 1, al1, cl1, by have := HK.out; omega, by go_num, rfl, by rw [← HE.out], HO1.out, HL1.out, HB1.out⟩
    · have hjm : j = m := by have := HK.out; omega
      subst hjm
      have hm := HM.out
      have HFB : Hid (firstBad f 0 j < 0) := by
        show firstBad f 0 j < 0
        rw [firstBad_none fun i _ h2 => by
          have := HZR.out i (by omega)
          unfold badW
          rw [decide_eq_false (by omega), decide_eq_false (by omega)]
          rfl]
        decide
      clear HZ
      by_cases h0 : j = 0
      · subst h0
        have HN := hid (new_none cl al wr)
        have HBW := HB
        have hdt : (((0 : Nat) : Int) < (n : Int)) = True ∨ (((0 : Nat) : Int) < (n : Int)) = False := by
          by_cases h : 0 < n
          · exact .inl (eq_true (by omega))
          · exact .inr (eq_false (by omega))
        have hn0 : n = 0 := by omega
        subst hn0
        clear hdt
        go_wp2_with fail
        refine Calls.mono HN.out ?_
        rintro e w1 ⟨rfl, hb⟩
        have HB1 := hid (HB.out.trans (hb.mono HB.out.size))
        clear hb
        go_wp2_with fail
        refine Calls.mono (HA.out _) ?_
        rintro e w2 ⟨v, rfl, rfl, hb⟩
        have HB2 := hid (HB1.out.trans (hb.mono HB1.out.size))
        clear hb
        go_wp2_with fail
        go_ret
        exact ⟨_, rfl, rfl, HB2.out⟩
      · obtain ⟨g, rfl, hI⟩ := owns_ir HO.out (by omega)
        have HI := hid hI
        have hNN := new_good j cl (some ⟨g, 0, none⟩) f wr (.inr ⟨g, 0, rfl, hI.rd⟩) (by omega) (by omega) HFB.out
        have hsr := sum_range (f := f) (n := j) (fun i hi => by have := HZR.out i (by omega); omega) (by omega)
        have hd2 : ((j : Int) == 0) = false := beq_eq_false_iff_ne.2 (by omega)
        have hd3 : ((j : Int) = 0) = False := eq_false (by omega)
        clear hI
        by_cases hs : sumN f j = 0
        · simp only [if_pos hs] at hNN
          have HN := hid hNN
          rw [hs]
          clear hNN hs hsr
          have hdt : (((j : Int) < (n : Int)) = True ∧ ((j : Int) < 30) = False) ∨ ((j : Int) < (n : Int)) = False := by
            by_cases h : j < n
            · exact .inl ⟨eq_true (by omega), eq_false (by omega)⟩
            · exact .inr (eq_false (by omega))
          rcases hdt with ⟨hd, hd4⟩ | hd
          all_goals
            go_wp2_with fail
            refine Calls.mono HN.out ?_
            rintro e w1 ⟨hb, rfl⟩
            have HB1 := hid (HB.out.trans (hb.mono HB.out.size))
            clear hb
            go_wp2_with fail
            refine Calls.mono (HA.out _) ?_
            rintro e w2 ⟨v, rfl, rfl, hb⟩
            have HB2 := hid (HB1.out.trans (hb.mono HB1.out.size))
            clear hb
            go_wp2_with fail
            go_ret
            exact ⟨_, rfl, rfl, HB2.out⟩
        · simp only [if_neg hs] at hNN
          have HN := hid hNN
          have HCR := hid (cols_right (M := 1048576) (ws := f) (n := j) rfl hsr.1 (fun i hi => by have := HZR.out i (by omega); omega) (fun i hi => by have := HZR.out i (by omega); omega))
          have hs1 : 1 ≤ sumN f j := by omega
          have hd5 : (sumN f j == 0) = false := beq_eq_false_iff_ne.2 hs
          have hd6 : (sumN f j = 0) = False := eq_false hs
          have HSR := hid (And.intro hs1 hsr.2)
          clear hNN hs hsr hs1
          generalize sumN f j = tot at *
          generalize colsF tot j f = F at *
          have HMK : ∀ w, _ := fun w => made_ints j w (by omega)
          have hdt : (((j : Int) < (n : Int)) = True ∧ ((j : Int) < 30) = False) ∨ ((j : Int) < (n : Int)) = False := by
            by_cases h : j < n
            · exact .inl ⟨eq_true (by omega), eq_false (by omega)⟩
            · exact .inr (eq_false (by omega))
          have HJ := hid (show 0 < j ∧ j ≤ 30 by omega)
          rcases hdt with ⟨hd, hd4⟩ | hd
          all_goals
            go_wp2_with fail
            refine Calls.mono HN.out ?_
            rintro e w1 ⟨hb, T, rfl, hTb⟩
            have HT1 := hid hTb
            have HI1 := hid (HI.out.keep hb)
            have HB1 := hid (HB.out.trans (hb.mono HB.out.size))
            clear hb hTb
            go_wp2_with fail
            have hgg := made_ir (Lp.Bk.al w1 (madeCells #[.int .i64 0] j) 3)
            have hb1 : Below w1.heap.size w1 (w1.alloc (.cells (madeCells #[.int .i64 0] j) 3)) := (Below.refl _ _).alloc (Nat.le_refl _) _
            go_loopg [9] j (fun k i wr => ∃ q : Nat, k + q = j ∧ i = .int .i64 (q : Int) ∧ Ir wr w1.heap.size j (gotF tot F.1 F.2 q) ∧ Below w1.heap.size w1 wr)
            case atStart => exact ⟨0, by omega, rfl, hgg.congr (fun i hi => by simp [gotF, gave, sumN]), hb1⟩
            case round =>
              clear hgg hb1
              obtain ⟨g1, hg1⟩ : ∃ g1, g1 = gk := ⟨_, rfl⟩
              subst hg1
              obtain ⟨q, hk, rfl, hG, hb⟩ := hrel
              have HK2 := aside hk
              have HG := hid hG
              have HW := hid hb
              clear hk hG hb
              by_cases hq : q < j
              · have hdq : ((q : Int) < (j : Int)) = True := eq_true (by omega)
                have HCL := hid (column_on q _ (HT1.out.keep HW.out) hq)
                obtain ⟨r0, r1, r2, -⟩ := HCR.out q hq
                have hgr := got_range (t := tot) (T := F.1) (A := F.2) (n := j) (j := q) (fun i hi => by have := HCR.out i hi; omega) (by have := HSR.out; omega) (by omega)
                have hq0 := hgr q hq
                have ha0 := hgr (F.2 q) r2
                have hmt : (q : Int) * tot ≤ 30 * tot := Int.mul_le_mul_of_nonneg_right (by have := HJ.out; omega) (by have := HSR.out; omega)
                have htt := HSR.out
                have HST := hid (fun i => got_step tot F.1 F.2 q i)
                generalize hG0 : gotF tot F.1 F.2 q = G at *
                clear hgr hG0
                generalize hp : F.1 q = p at *
                generalize ha : F.2 q = a at *
                clear hp ha
                have hG1 : 0 ≤ upd G q (G q + p) a ∧ upd G q (G q + p) a ≤ 40 * tot := by
                  unfold upd
                  split <;> omega
                have hd10 : (p < 0) = False := eq_false (by omega)
                have hd11 : (tot < p) = False := eq_false (by omega)
                have hd12 : ((a : Int) < 0) = False := eq_false (by omega)
                have hd13 : ((j : Int) ≤ (a : Int)) = False := eq_false (by omega)
                have hd14 : ((a : Int) < (j : Int)) = True := eq_true (by omega)
                go_wp2_with fail
                refine Calls.mono HCL.out ?_
                rintro e w3 ⟨v, rfl, rfl, hb⟩
                have hG3 := HG.out.keep hb
                have kG := hG3.at hq
                have zG := hG3.frz
                have hG4 := hG3.set hq (G q + p)
                have kG4 := hG4.at r2
                have HG5 := hid (hG4.set r2 (upd G q (G q + p) a + (tot - p)))
                have HW3 := hid (HW.out.trans (hb.mono HW.out.size))
                clear hb hG3 hG4 HCL
                generalize hu1 : upd G q (G q + p) a = u1 at *
                generalize hgq : G q = u0 at *
                have HU := aside (And.intro hu1 hgq)
                clear hu1 hgq
                obtain ⟨t0, t1⟩ := htt
                go_wp2_with fail
                go_roundg (g1 - 1)
                case measure => have := HK2.out; omega
                case rel => exact ⟨q + 1, by have := HK2.out; omega, by go_num, HG5.out.ext HST.out, (HW3.out.setCell (Nat.le_refl _) _).setCell (Nat.le_refl _) _⟩
              · have hdq : ((q : Int) < (j : Int)) = False := eq_false (by omega)
                have hqj : q = j := by have := HK2.out; omega
                subst hqj
                have HG2 := hid (HG.out.congr (f' := fun i => f i * q) fun i hi => by
                  have := (HCR.out i hi).2.2.2
                  unfold gotF
                  rw [if_pos hi]
                  exact this)
                clear HCR HG
                go_wp2_with fail
                go_loopg [12] q (fun k i wz => ∃ p : Nat, k + p = q ∧ i = .int .i64 (p : Int) ∧ Ir wz w1.heap.size q (fun i => f i * q) ∧ Below w1.heap.size w1 wz)
                case atStart => exact ⟨0, by omega, rfl, HG2.out, HW.out⟩
                case round =>
                  clear HG2 HW
                  obtain ⟨g2, hg2⟩ : ∃ g2, g2 = gk := ⟨_, rfl⟩
                  subst hg2
                  obtain ⟨p, hk, rfl, hG, hb⟩ := hrel
                  have HK3 := aside hk
                  have HG := hid hG
                  have HW := hid hb
                  clear hk hG hb
                  by_cases hp : p < q
                  · have hdp : ((p : Int) < (q : Int)) = True := eq_true (by omega)
                    have kG := HG.out.at hp
                    have kI := (HI1.out.keep HW.out).at hp
                    have hx := HZR.out p (by omega)
                    have hxq : 0 ≤ f p * (q : Int) ∧ f p * (q : Int) ≤ 65535 * 30 := ⟨Int.mul_nonneg hx.1 (by omega), Int.mul_le_mul hx.2 (by have := HJ.out; omega) (by omega) (by decide)⟩
                    generalize f p = x at *
                    have hwr : IntKind.i64.wrap (x * (q : Int)) = x * (q : Int) := by rw [IntKind.wrap_i64]; omega
                    obtain ⟨z0, z1⟩ := hxq
                    go_wp2_with fail
                    go_quiet (fail)
                    have HG3 := hid (HG.out.keep (below_dr (Below.refl _ _) nq))
                    have HW3 := hid (below_dr HW.out nq)
                    go_wp2_with fail
                    go_roundg (g2 - 1)
                    case measure => have := HK3.out; omega
                    case rel => exact ⟨p + 1, by have := HK3.out; omega, by go_num, HG3.out, HW3.out⟩
                  · have hdp : ((p : Int) < (q : Int)) = False := eq_false (by omega)
                    go_wp2_with fail
                    refine Calls.mono (HA.out _) ?_
                    rintro e w5 ⟨v, rfl, rfl, hb⟩
                    have HB5 := hid ((HB1.out.trans (HW.out.mono HB1.out.size)).trans (hb.mono (Nat.le_trans HB1.out.size HW.out.size)))
                    clear hb
                    go_wp2_with fail
                    go_ret
                    exact ⟨_, rfl, rfl, HB5.out⟩
end
end Go.Proofs.Ytmnemandmpoioaa
