/- Package alias: the walk of AliasMakes, where there is a table. -/
import Derived.Deep.LoopGhost
import Derived.Test.YtmnemandmpoioaaAo
namespace Go.Proofs.Ytmnemandmpoioaa
open Go.RowKit Fl

theorem ord_same {z : Nat} (h : isN z = false) : (FloatKind.f64.format.order z z != some .eq) = false := by
  have := ford_self z
  rw [h] at this
  show (ford z z != some .eq) = false
  unfold bne
  rw [this]
  rfl
theorem ord_zero : (FloatKind.f64.format.order 0 0 == some .eq) = true := by decide +kernel

set_option maxRecDepth 100000 in
set_option maxHeartbeats 8000000 in
theorem makes_good (n c : Nat) (ao : Option Addr) (f : Nat → Int) (at0 : Int) (w : World) (hF : Nms w ao n f) (h0 : 0 < n) (h : n ≤ 60) (hb : firstBad f 0 n < 0) (hs : sumN f n ≠ 0) : Ret Try.prog 3 #[.slice ao n c, .int .i64 at0] w (fun v => v = .bool true) := by
  unfold Ret
  have HA := hid (fun w => awake_any w)
  have hN := new_good n c ao f w hF (by omega) h0 hb
  simp only [if_neg hs] at hN
  have HN := hid hN
  have HG := hid (fun i (hi : i < n) => good_all hb i (Nat.zero_le _) (by omega))
  have hsr := sum_range HG.out (by omega)
  have hs1 : 1 ≤ sumN f n ∧ sumN f n ≤ 1073741824 := by omega
  have HT := hid (fun w1 (hb : Below w.heap.size w w1) => rtotal_any n c ao f w1 (hF.keep hb) (by omega))
  rw [show totF n f = sumN f n from if_neg (by omega)] at HT
  have HR := hid (fun w1 (hb : Below w.heap.size w w1) => rnew_first n c ao f w1 (hF.keep hb) h h0 HG.out (sumN f n) (by omega))
  obtain ⟨ga, off, rfl, hI⟩ : ∃ g off, ao = some ⟨g, off, none⟩ ∧ Rdo w g off n f := hF.resolve_left (by omega)
  have HI := hid hI
  have HSR := hid hs1
  have hd : (1100 < (n : Int)) = False := eq_false (by omega)
  have hd2 : (60 < (n : Int)) = False := eq_false (by omega)
  have hd4 : (1024 < (n : Int)) = False := eq_false (by omega)
  have hd5 : ((n : Int) = 0) = False := eq_false (by omega)
  have hd6 : ((n : Int) == 0) = false := beq_eq_false_iff_ne.2 (by omega)
  have hd7 : (sumN f n < 0) = False := eq_false (by omega)
  have hd8 : (sumN f n = 0) = False := eq_false hs
  have hd9 : (sumN f n == 0) = false := beq_eq_false_iff_ne.2 hs
  clear hF hb hs hN hsr hI hs1
  generalize sumN f n = tot at *
  generalize colsF tot n f = F at *
  go_enter Try.func3, Try.ntmps3
  go_wp2_with fail
  refine Calls.mono HN.out ?_
  rintro e w1 ⟨hb, T, rfl, hTb⟩
  have HB := hid hb
  have HTB := hid hTb
  clear hb hTb HN
  go_wp2_with fail
  refine Calls.mono (HT.out _ HB.out) ?_
  rintro e w2 ⟨rfl, hw⟩
  obtain rfl := hw.symm
  clear hw HT
  go_wp2_with fail
  refine Calls.mono (HR.out _ HB.out) ?_
  rintro e w2 ⟨gl, cl, rfl, hO, hb⟩
  have HTB2 := hid (HTB.out.keep hb)
  have HB2 := hid (HB.out.trans (hb.mono HB.out.size))
  have HO := hid hO
  clear hO hb HR HB HTB
  go_wp2_with fail
  refine Calls.mono HTB2.out.len ?_
  rintro e w3 ⟨rfl, hw⟩
  obtain rfl := hw.symm
  clear hw
  go_wp2_with fail
  refine Calls.mono HTB2.out.total ?_
  rintro e w3 ⟨rfl, hw⟩
  obtain rfl := hw.symm
  clear hw
  go_wp2_with fail
  go_loopg [9] n (fun k i wr => ∃ j : Nat, k + j = n ∧ i = .int .i64 (j : Int) ∧ Tbl wr T n tot f F.1 F.2 ∧ wr.ownsRow 0 35 2 (.slice (some ⟨gl, 0, none⟩) n cl) n (cols n F.1 F.2) ∧ Below w.heap.size w wr)
  case atStart => exact ⟨0, by omega, rfl, HTB2.out, HO.out, HB2.out⟩
  case round =>
    clear HTB2 HO HB2
    obtain ⟨g0, hg0⟩ : ∃ g0, g0 = gk := ⟨_, rfl⟩
    subst hg0
    obtain ⟨j, hk, rfl, hT, hO, hB⟩ := hrel
    have HK := aside hk
    have HT := hid hT
    have HO := hid hO
    have HB := hid hB
    clear hk hT hO hB
    by_cases hj : j < n
    · have hd : ((j : Int) < (n : Int)) = True := eq_true (by omega)
      have HCL := hid (column_on j wr HT.out hj)
      have hq := quot_ok (x := f j) (t := tot) (by have := HG.out j hj; omega) HSR.out
      have hm : ∀ w, _ := hq.1 Try.prog 37
      have hne := ord_same hq.2
      have HWT := hid (fun w1 (hw : Cl wr w1) => weight_on j w1 (HT.out.keep hw) hj)
      have HCH := hid (fun w1 (hw : Cl wr w1) => chance_on j w1 (HT.out.keep hw) hj (by have := HG.out j hj; omega) HSR.out)
      have HFA := hid (fun w1 (hw : Cl wr w1) => And.intro (((owns_same HO.out hw).cellAt (j * 2) (by omega)).trans (cols_at F.1 F.2 hj).1) (And.intro (((owns_same HO.out hw).cellAt (j * 2 + 1) (by omega)).trans (cols_at F.1 F.2 hj).2) ((HI.out.keep (HB.out.trans (Below.mono hw HB.out.size))).cell hj)))
      clear hq
      generalize f j = x at *
      generalize fdiv (fi x) (fi tot) = z at *
      generalize hF1 : F.1 j = p at *
      generalize hF2 : (F.2 j : Int) = q at *
      clear hF1 hF2
      go_wp2_with fail
      refine Calls.mono HCL.out ?_
      rintro e w3 ⟨v, rfl, rfl, hb⟩
      have HS3 := hid hb
      clear hb HCL
      go_wp2_with fail
      apply Lp.wp_region_loose _ _ 40 (by kernel_rfl) (by kernel_rfl) (by kernel_rfl) (Below.refl _ _)
      apply Lp.facts
      · intro w1 hw
        exact HFA.out w1 (HS3.out.trans (Below.mono hw HS3.out.size))
      intro HF
      iterate 19 (
        apply Lp.one ?_ rfl
        · intro w hw
          obtain ⟨k0, k1, k2⟩ := HF.out _ hw
          go_simp
          exact rfl
        intro K hK
        go_simp
        refine hK.out _ ?_
        clear hK K)
      apply Lp.any rfl
      · intro w hw
        go_simp
        exact Lp.ret (ret_one (HWT.out w (HS3.out.trans (Below.mono hw HS3.out.size))))
      intro K hK
      rintro v rfl
      go_simp
      refine hK.out _ ?_
      clear hK K
      iterate 9 (
        apply Lp.one ?_ rfl
        · intro w hw
          obtain ⟨k0, k1, k2⟩ := HF.out _ hw
          go_simp
          exact rfl
        intro K hK
        go_simp
        refine hK.out _ ?_
        clear hK K)
      apply Lp.any rfl
      · intro w hw
        go_simp
        exact Lp.ret (HCH.out w (HS3.out.trans (Below.mono hw HS3.out.size)))
      intro K hK
      rintro v rfl
      go_simp
      refine hK.out _ ?_
      clear hK K
      iterate 10 (
        apply Lp.one ?_ rfl
        · intro w hw
          obtain ⟨k0, k1, k2⟩ := HF.out _ hw
          go_simp
          exact rfl
        intro K hK
        go_simp
        refine hK.out _ ?_
        clear hK K)
      rotate_left
      exact []
      intro v1 hm1
      have HS4 := hid (HS3.out.trans (Below.mono hm1 HS3.out.size))
      clear hm1
      go_wp2_with fail
      go_roundg (g0 - 1)
      case measure => have := HK.out; omega
      case rel => exact ⟨j + 1, by have := HK.out; omega, by go_num, HT.out.keep HS4.out, owns_same HO.out HS4.out, HB.out.trans (HS4.out.mono HB.out.size)⟩
    · have hd : ((j : Int) < (n : Int)) = False := eq_false (by omega)
      by_cases ha : 0 ≤ at0 ∧ at0 < n
      · obtain ⟨i, rfl⟩ : ∃ i : Nat, at0 = i := ⟨at0.toNat, by omega⟩
        have hi : i < n := by omega
        have hd2 : ((0 : Int) ≤ (i : Int)) = True := eq_true (by omega)
        have hd3 : ((i : Int) < (n : Int)) = True := eq_true (by omega)
        have HCL := hid (column_on i wr HT.out hi)
        generalize hF1 : F.1 i = p at *
        generalize hF2 : (F.2 i : Int) = q at *
        clear hF1 hF2
        go_wp2_with fail
        refine Calls.mono HCL.out ?_
        rintro e w3 ⟨v, rfl, rfl, hb⟩
        have HB3 := hid (HB.out.trans (hb.mono HB.out.size))
        clear hb
        go_wp2_with fail
        refine Calls.mono (HA.out _) ?_
        rintro e w4 ⟨v, rfl, rfl, hb⟩
        have HB4 := hid (HB3.out.trans (hb.mono HB3.out.size))
        clear hb
        go_wp2_with fail
        go_ret
        exact ⟨_, rfl, rfl, HB4.out⟩
      · have HCL := hid (column_off (some ⟨T, 0, none⟩) at0 wr (ahas_off HT.out ha))
        have hoz := ord_zero
        by_cases ha0 : 0 ≤ at0
        · have hd2 : (0 ≤ at0) = True := eq_true ha0
          have hd3 : (at0 < (n : Int)) = False := eq_false (by omega)
          go_wp2_with fail
          refine Calls.mono HCL.out ?_
          rintro e w3 ⟨rfl, hw⟩
          obtain rfl := hw.symm
          clear hw
          go_wp2_with fail
          refine Calls.mono (HA.out _) ?_
          rintro e w4 ⟨v, rfl, rfl, hb⟩
          have HT4 := hid (HT.out.keep hb)
          have HB4 := hid (HB.out.trans (hb.mono HB.out.size))
          clear hb
          go_wp2_with fail
          refine Calls.mono (weight_off _ _ _ (ahas_off HT4.out ha)) ?_
          rintro e w5 ⟨rfl, hw⟩
          obtain rfl := hw.symm
          clear hw
          go_wp2_with fail
          refine Calls.mono (chance_off _ _ _ (ahas_off HT4.out ha)) ?_
          rintro e w5 ⟨rfl, hw⟩
          obtain rfl := hw.symm
          clear hw
          go_wp2_with fail
          go_ret
          exact ⟨_, rfl, rfl, HB4.out⟩
        · have hd2 : (0 ≤ at0) = False := eq_false ha0
          go_wp2_with fail
          refine Calls.mono HCL.out ?_
          rintro e w3 ⟨rfl, hw⟩
          obtain rfl := hw.symm
          clear hw
          go_wp2_with fail
          refine Calls.mono (HA.out _) ?_
          rintro e w4 ⟨v, rfl, rfl, hb⟩
          have HT4 := hid (HT.out.keep hb)
          have HB4 := hid (HB.out.trans (hb.mono HB.out.size))
          clear hb
          go_wp2_with fail
          refine Calls.mono (weight_off _ _ _ (ahas_off HT4.out ha)) ?_
          rintro e w5 ⟨rfl, hw⟩
          obtain rfl := hw.symm
          clear hw
          go_wp2_with fail
          refine Calls.mono (chance_off _ _ _ (ahas_off HT4.out ha)) ?_
          rintro e w5 ⟨rfl, hw⟩
          obtain rfl := hw.symm
          clear hw
          go_wp2_with fail
          go_ret
          exact ⟨_, rfl, rfl, HB4.out⟩

theorem makes_any (n c : Nat) (ao : Option Addr) (f : Nat → Int) (at0 : Int) (w : World) (hF : Nms w ao n f) : Ret Try.prog 3 #[.slice ao n c, .int .i64 at0] w (fun v => v = .bool true) := by
  by_cases h1 : 1100 < n ∨ (60 < n ∧ n ≤ 1024)
  · exact makes_out n c ao at0 w h1
  by_cases h2 : 1024 < n
  · exact makes_big n c ao f at0 w hF h2 (by omega)
  by_cases h3 : n = 0
  · subst h3; exact makes_none c ao at0 w
  by_cases h4 : 0 ≤ firstBad f 0 n
  · exact makes_bad n c ao f at0 w hF (by omega) (by omega) h4
  by_cases h5 : sumN f n = 0
  · exact makes_zero n c ao f at0 w hF (by omega) (by omega) (by omega) h5
  · exact makes_good n c ao f at0 w hF (by omega) (by omega) (by omega) h5
end Go.Proofs.Ytmnemandmpoioaa
