/- Package hit: Scan, ScanAny. Package hit: Visits. The law: what is met first, as one hit; hits are the same as themselves; the numbers that are skipped. The law: skips, few; the reference: Is. The law: awake. -/
import Derived.Laws.EntriesVeiled
import Derived.Laws.StructEq
import Derived.Test.YtiblmojdjnfoaaaGreatG22
import Derived.Test.YtiblmojdjnfoaaaGreatG16
import Derived.Test.YtiblmojdjnfoaaaGreatG23
namespace Go.Proofs.YtiblmojdjnfoaaaGreat
open Go.RowKit Fl Lm Rg

theorem range_at {j n : Nat} (h : j < n) : List.range' j (n - j) = j :: List.range' (j + 1) (n - (j + 1)) := by
  rw [show n - j = (n - (j + 1)) + 1 by omega, List.range'_succ]
theorem range_end {j n : Nat} (h : ¬ j < n) : List.range' j (n - j) = [] := by
  rw [show n - j = 0 by omega]; rfl

set_option maxRecDepth 100000 in
set_option maxHeartbeats 4000000 in
theorem scan_any (T : Nat → Tr) (n c cs : Nat) (K : List Int) (O D : V3) (ao az : Option Addr) (w : World)
    (hL : Sl w ao n 9 fun i => tcs (T i)) (hK : Sl w az K.length 1 (kvs K)) (hn : n ≤ 1000) (h5 : K.length ≤ 1000) :
    Calls Tryz.prog 9 #[.slice ao n c, .agg #[.float .f64 O.x, .float .f64 O.y, .float .f64 O.z, .float .f64 D.x, .float .f64 D.y, .float .f64 D.z], .slice az K.length cs] w fun e W' => ∃ b, e = .returned (hitN b) ∧ Best (metK T K O D) n b [] ∧ Cl w W' := by
  have HL := hid hL
  have HK := hid hK
  have HK5 := aside h5
  clear hL hK
  go_enter Tryz.func9, Tryz.ntmps9
  go_wp2_with fail
  refine Lp.settle (fun w' => Lp.Bk w' w.heap.size #[.float .f64 O.x, .float .f64 O.y, .float .f64 O.z, .float .f64 D.x, .float .f64 D.y, .float .f64 D.z] 27 ∧ Lp.Bk w' (w.heap.size + 1) #[.int .i64 0, .float .f64 0, .float .f64 0, .float .f64 0] 35 ∧ Cl w w') ⟨(Lp.Bk.al _ _ _).alo _, Lp.Bk.al1 _ _ _ _, ((Below.refl _ _).alloc (Nat.le_refl _) _).alloc (by simp) _⟩ ?_
  rintro v1 ⟨BY, BR, HB⟩
  apply Lw.region _ _ 6 (by kernel_rfl) (by kernel_rfl) (by kernel_rfl) (Below.refl _ _)
  apply Lw.facts
  · intro w1 hw
    exact (BY.cl hw).cell
  intro HF
  apply Lw.any rfl
  · intro w3 hw
    go_simp
    exact Lw.ret (nothing_any _)
  intro K0 hK0
  rintro v rfl
  go_simp
  refine hK0.out _ ?_
  clear hK0 K0
  iterate 3 (
    apply Lw.one ?_ rfl
    · intro w3 hw
      have k0 := HF.out _ hw
      go_simp
      exact rfl
    intro K0 hK0
    go_simp
    refine hK0.out _ ?_
    clear hK0 K0)
  apply Lw.anyW (V := fun v w' => ∃ gl gs gr, v = askV gl gs gr ∧ AskB w' gl gs gr ao n c az K.length cs O D ∧ (v1.heap.size ≤ gl ∧ v1.heap.size ≤ gs ∧ v1.heap.size ≤ gr)) rfl
  · exact fun v x y hb ⟨gl, gs, gr, e, h, hg⟩ => ⟨gl, gs, gr, e, h.keep hb, hg⟩
  · intro w3 hw _
    go_simp
    exact Calls.mono (asker_b O D n c K.length cs ao az _) fun e w' ⟨v, he, ⟨gl, gs, gr, h1, h2, h3⟩, hb⟩ => ⟨v, he, ⟨gl, gs, gr, h1, h2, by have := hw.size; omega⟩, hb⟩
  intro K0 hK0 v hv
  obtain ⟨_, _, gl, gs, gr, rfl, _, hgl⟩ := hv
  go_simp
  refine hK0.out _ _ ?_
  clear hK0 K0
  apply Lw.new _ rfl
  · intro w3 hw
    go_simp
    exact rfl
  intro K0 hK0 b5 hb5
  go_simp
  refine hK0.out _ _ ?_
  clear hK0 K0
  rotate_left
  exact []
  refine Lw.finE ?_
  intro v2 hm hE
  obtain ⟨gl', gs', gr', e, hA, _⟩ := (hE 4).1.2 rfl
  have hg3 : gl = gl' ∧ gs = gs' ∧ gr = gr' := by
    unfold askV at e
    simpa using e
  obtain ⟨rfl, rfl, rfl⟩ := hg3
  have BH : Lp.Bk v2 b5 #[.int .i64 0, .float .f64 0, .float .f64 0, .float .f64 0] 35 := ((hE 5).2 rfl).2
  have hw1 : w.heap.size + 1 < v1.heap.size := BR.lt
  replace BR := BR.keep hm
  replace HB := HB.call hm
  have nl5 : gl ≠ b5 := bk_ne hA.l BH (by decide)
  have ns5 : gs ≠ b5 := bk_ne hA.s BH (by decide)
  have nr5 : gr ≠ b5 := bk_ne hA.r BH (by decide)
  have kH := BH.cell
  have zH := BH.frz
  have HX := aside (And.intro hA (And.intro BH (And.intro BR (And.intro HB (And.intro nl5 (And.intro ns5 (And.intro nr5 (And.intro hb5 hw1))))))))
  clear hE hm e HF hA BH BR BY HB nl5 ns5 nr5 hgl hw1
  go_wp2_with fail
  obtain ⟨hA, BH, BR, HB, nl5, ns5, nr5, hb5, hw1⟩ := HX.out
  have hk2 := (((((Kept.refl (X := fun k => k = b5) v2).set (b := b5) (i := 0) rfl (.int .i64 (-1))).set (b := b5) (i := 1) rfl (.float .f64 0)).set (b := b5) (i := 2) rfl (.float .f64 0)).set (b := b5) (i := 3) rfl (.float .f64 0))
  have BH2 : Lp.Bk ((((v2.setCell ⟨b5, 0, none⟩ (.int .i64 (-1))).setCell ⟨b5, 1, none⟩ (.float .f64 0)).setCell ⟨b5, 2, none⟩ (.float .f64 0)).setCell ⟨b5, 3, none⟩ (.float .f64 0)) b5 (hcs none) 35 := (((BH.set 0 _).set 1 _).set 2 _).set 3 _
  have HNE := aside (And.intro nl5 (And.intro ns5 (And.intro nr5 (And.intro hb5 hw1))))
  have HS := hid (And.intro (hk2.bk BR (show w.heap.size + 1 ≠ b5 by omega)) (And.intro (hA.kept hk2 ⟨nl5, ns5, nr5⟩) (And.intro BH2 (hk2.cl HB (fun k h => by have : k = b5 := h; omega)))))
  clear HX hA BH BR HB nl5 ns5 nr5 hw1 hk2 BH2 kH zH
  go_loopg [17] n (fun k i wr => ∃ (j : Nat) (b : Hit), k + j = n ∧ i = .int .i64 (j : Int) ∧ Best (metK T K O D) n b (List.range' j (n - j)) ∧ b.Fine ∧ Lp.Bk wr b5 (hcs b) 35 ∧ AskB wr gl gs gr ao n c az K.length cs O D ∧ Lp.Bk wr (w.heap.size + 1) #[.int .i64 0, .float .f64 0, .float .f64 0, .float .f64 0] 35 ∧ Cl w wr)
  case atStart => exact ⟨0, none, Nat.add_zero _, rfl, Best.start.more fun i hi => by rw [Nat.sub_zero, ← List.range_eq_range']; exact hi, Hit.Fine.none, HS.out.2.2.1, HS.out.2.1, HS.out.1, HS.out.2.2.2⟩
  case round =>
    clear HS
    obtain ⟨g0, hg0⟩ : ∃ g0, g0 = gk := ⟨_, rfl⟩
    subst hg0
    obtain ⟨wo, hwo⟩ : ∃ wo, wo = wr := ⟨_, rfl⟩
    subst hwo
    obtain ⟨j, b, hk, rfl, hBest, hFine, BH, hA, BR, HB⟩ := hrel
    have HP := aside hk
    have HBE := aside (And.intro hBest hFine)
    have HA := hid hA
    clear hk hBest hA
    obtain ⟨q0, q1, q2, q3, e4⟩ := hcs_four b
    have HF4 := aside e4
    by_cases hj : j < n
    · have hd : ((j : Int) < (n : Int)) = True := eq_true (by omega)
      have HAR := hid (HA.out.asks HB HL.out HK.out)
      have HASK := hid (fun w' (hw : Below wo.heap.size wo w') => ask1_any T K O D n j gl gs gr w' (HAR.out.keep hw) hj hn HK5.out)
      have HAH := hid (fun w' => ahead_any (askN (metK T K O D) j) b (metK_fine T K O D j) hFine w')
      obtain ⟨r0, r1, r2, r3, e5⟩ := hcs_four (aheadN (askN (metK T K O D) j) b)
      have HF5 := aside e5
      rw [hitN_is b, hitN_is (aheadN (askN (metK T K O D) j) b), e4, e5] at HAH
      rw [e4] at BH
      have HST := aside (And.intro (show Best (metK T K O D) n (aheadN (askN (metK T K O D) j) b) (List.range' (j + 1) (n - (j + 1))) from by have h := HBE.out.1; rw [range_at hj] at h; exact h.step hj) ((metK_fine T K O D j).ahead hFine))
      generalize hitN (askN (metK T K O D) j) = va at HASK HAH
      have HJ := aside hj
      have hj5 : j < 1000 := by omega
      clear hj e4 e5 hFine HAR
      unfold askV
      go_wp2_with fail
      apply Lw.region _ _ 5 (by kernel_rfl) (by kernel_rfl) (by kernel_rfl) (Below.refl _ _)
      apply Lw.facts
      · intro w1 hw
        exact (BH.cl hw).cell
      intro HF
      iterate 2 (
        apply Lw.one ?_ rfl
        · intro w3 hw
          go_simp
          exact rfl
        intro K0 hK0
        go_simp
        refine hK0.out _ ?_
        clear hK0 K0)
      apply Lw.any rfl
      · intro w3 hw
        go_simp
        exact Lw.ret (HASK.out _ hw)
      intro K0 hK0
      rintro v e0
      subst v
      go_simp
      refine hK0.out _ ?_
      clear hK0 K0
      apply Lw.one ?_ rfl
      · intro w3 hw
        have k0 := HF.out _ hw
        go_simp
        exact rfl
      intro K0 hK0
      go_simp
      refine hK0.out _ ?_
      clear hK0 K0
      apply Lw.any rfl
      · intro w3 hw
        go_simp
        exact Lw.ret (HAH.out _)
      intro K0 hK0
      rintro v rfl
      go_simp
      refine hK0.out _ ?_
      clear hK0 K0
      rotate_left
      exact []
      refine Lw.fin ?_
      intro v3 hm
      replace BH := BH.keep hm
      replace BR := BR.keep hm
      replace HB := HB.call hm
      have hA3 := HA.out.keep hm
      have kH := BH.cell
      have zH := BH.frz
      have HX := aside (And.intro hA3 (And.intro BH (And.intro BR HB)))
      clear hm HF hA3 BH BR HB HA HASK HAH
      go_wp2_with fail
      obtain ⟨hA, BH, BR, HB⟩ := HX.out
      obtain ⟨nl5, ns5, nr5, hb5, hw1⟩ := HNE.out
      have hk3 := (((((Kept.refl (X := fun k => k = b5) v3).set (b := b5) (i := 0) rfl (.int .i64 r0)).set (b := b5) (i := 1) rfl (.float .f64 r1)).set (b := b5) (i := 2) rfl (.float .f64 r2)).set (b := b5) (i := 3) rfl (.float .f64 r3))
      have BH3 : Lp.Bk ((((v3.setCell ⟨b5, 0, none⟩ (.int .i64 r0)).setCell ⟨b5, 1, none⟩ (.float .f64 r1)).setCell ⟨b5, 2, none⟩ (.float .f64 r2)).setCell ⟨b5, 3, none⟩ (.float .f64 r3)) b5 (hcs (aheadN (askN (metK T K O D) j) b)) 35 := by rw [HF5.out]; exact (((BH.set 0 _).set 1 _).set 2 _).set 3 _
      have HS := hid (And.intro (hk3.bk BR (show w.heap.size + 1 ≠ b5 by omega)) (And.intro (hA.kept hk3 ⟨nl5, ns5, nr5⟩) (And.intro BH3 (hk3.cl HB (fun k h => by have : k = b5 := h; omega)))))
      clear HX hA BH BR HB nl5 ns5 nr5 hw1 hk3 BH3 kH zH
      go_roundg (g0 - 1)
      case measure => have := HP.out; have := HJ.out; omega
      case rel => exact ⟨j + 1, _, by have := HP.out; have := HJ.out; omega, by go_num, HST.out.1, HST.out.2, HS.out.2.2.1, HS.out.2.1, HS.out.1, HS.out.2.2.2⟩
    · have hd : ((j : Int) < (n : Int)) = False := eq_false (by omega)
      have HEN := aside (show Best (metK T K O D) n b [] from by have h := HBE.out.1; rw [range_end hj] at h; exact h)
      have HF := aside (hitN_is b)
      rw [e4] at BH HF
      have kH := BH.cell
      have kR := BR.cell
      have zR := BR.frz
      have eR : (w.heap.size + 1 = b5) = False := eq_false (by have := HNE.out; omega)
      have eR2 : (b5 = w.heap.size + 1) = False := eq_false (by have := HNE.out; omega)
      have HBB := hid HB
      clear e4 hj HBE HB
      go_wp2_with fail
      refine bodyPost_ret (v := .agg #[.int .i64 q0, .float .f64 q1, .float .f64 q2, .float .f64 q3]) (by simp [results, go_sem, kR]) rfl ⟨b, by rw [HF.out], HEN.out, ?_⟩
      repeat (refine Below.setCell ?_ (by dsimp only; omega) _)
      exact HBB.out

set_option maxRecDepth 100000 in
set_option maxHeartbeats 4000000 in
theorem scanany_any (T : Nat → Tr) (n c cs t : Nat) (K : List Int) (O D : V3) (ao az : Option Addr) (w : World)
    (hL : Sl w ao n 9 fun i => tcs (T i)) (hK : Sl w az K.length 1 (kvs K)) (hn : n ≤ 1000) (h5 : K.length ≤ 1000) :
    Calls Tryz.prog 11 #[.slice ao n c, .agg #[.float .f64 O.x, .float .f64 O.y, .float .f64 O.z, .float .f64 D.x, .float .f64 D.y, .float .f64 D.z], .float .f64 t, .slice az K.length cs] w fun e W' => e = .returned (.bool (anyN (metK T K O D) n t)) ∧ Cl w W' := by
  have HL := hid hL
  have HK := hid hK
  have HK5 := aside h5
  clear hL hK
  go_enter Tryz.func11, Tryz.ntmps11
  go_wp2_with fail
  refine Calls.mono (asker_b O D n c K.length cs ao az _) ?_
  rintro e v2 ⟨_, rfl, ⟨gl, gs, gr, rfl, hA, _⟩, hm⟩
  have HA := hid hA
  have HB : Hid (Cl w v2) := (show Cl w _ from (Below.refl _ _).alloc (Nat.le_refl _) _).call hm
  clear hA hm
  unfold askV
  go_wp2_with fail
  go_loopg [17] n (fun k i wr => ∃ j : Nat, k + j = n ∧ i = .int .i64 (j : Int) ∧ Free (metK T K O D) n t (List.range' j (n - j)) ∧ AskB wr gl gs gr ao n c az K.length cs O D ∧ Cl w wr)
  case atStart => exact ⟨0, Nat.add_zero _, rfl, fun i hi => .inl (by rw [Nat.sub_zero, ← List.range_eq_range']; exact List.mem_range.2 hi), HA.out, HB.out⟩
  case round =>
    clear HA HB
    obtain ⟨g0, hg0⟩ : ∃ g0, g0 = gk := ⟨_, rfl⟩
    subst hg0
    obtain ⟨wo, hwo⟩ : ∃ wo, wo = wr := ⟨_, rfl⟩
    subst hwo
    obtain ⟨j, hk, rfl, hFree, hA, hB⟩ := hrel
    have HP := aside hk
    have HFR := aside hFree
    have HA := hid hA
    have HB := hid hB
    clear hk hFree hA hB
    by_cases hj : j < n
    · have hd : ((j : Int) < (n : Int)) = True := eq_true (by omega)
      have HASK := hid (ask1_any T K O D n j gl gs gr wo (HA.out.asks HB.out HL.out HK.out) hj hn HK5.out)
      have HBLK := hid (fun w' => show Ret Tryz.prog 25 #[hitN (askN (metK T K O D) j), .float .f64 t] w' (fun v => v = .bool (blkB t (metK T K O D j))) from blocks_any (metK T K O D j) j t w')
      generalize hitN (askN (metK T K O D) j) = va at HASK HBLK
      have HJ := aside hj
      have hj5 : j < 1000 := by omega
      cases hb : blkB t (metK T K O D j) with
      | false =>
        have HST := aside (show Free (metK T K O D) n t (List.range' (j + 1) (n - (j + 1))) from fun i hi => by
          have h := HFR.out i hi
          rw [range_at hj] at h
          rcases h with h | h
          · rcases List.mem_cons.1 h with rfl | h
            · exact .inr hb
            · exact .inl h
          · exact .inr h)
        rw [hb] at HBLK
        clear hj hb
        go_wp2_with fail
        refine Calls.mono HASK.out ?_
        rintro e w1 ⟨v, rfl, rfl, hm⟩
        have HM := hid hm
        clear hm HASK
        go_wp2_with fail
        refine Calls.mono (HBLK.out _) ?_
        rintro e w2 ⟨v, rfl, rfl, hm⟩
        have HM2 := hid (Fl.Cl.call HM.out hm)
        clear hm HBLK HM
        go_wp2_with fail
        go_roundg (g0 - 1)
        case measure => have := HP.out; have := HJ.out; omega
        case rel => exact ⟨j + 1, by have := HP.out; have := HJ.out; omega, by go_num, HST.out, HA.out.keep HM2.out, HB.out.call HM2.out⟩
      | true =>
        have HST := aside (any_some (metK T K O D) n hj hb)
        rw [hb] at HBLK
        clear hj hb
        go_wp2_with fail
        refine Calls.mono HASK.out ?_
        rintro e w1 ⟨v, rfl, rfl, hm⟩
        have HM := hid hm
        clear hm HASK
        go_wp2_with fail
        refine Calls.mono (HBLK.out _) ?_
        rintro e w2 ⟨v, rfl, rfl, hm⟩
        have HM2 := hid (Fl.Cl.call HM.out hm)
        clear hm HBLK HM
        go_wp2_with fail
        go_ret
        exact ⟨by rw [HST.out]; rfl, HB.out.call HM2.out⟩
    · have hd : ((j : Int) < (n : Int)) = False := eq_false (by omega)
      have HEN := aside (show anyN (metK T K O D) n t = false from Free.no _ _ (by have h := HFR.out; rw [range_end hj] at h; exact h))
      clear hj
      go_wp2_with fail
      go_ret
      exact ⟨by rw [HEN.out]; rfl, HB.out⟩
end Go.Proofs.YtiblmojdjnfoaaaGreat

namespace Go.Proofs.YtiblmojdjnfoaaaGreat
open Go.RowKit Fl Lm Rg

section
variable {α : Type} (R : Tre α) (O D : V3)
/-- How many nodes a ray goes through, of which all those above are gone through, too. -/
def visN : Nat → α → Nat
  | 0, _ => 0
  | f + 1, a => if R.th a && (goB O D (R.nd a).box).isSome then 1 + ((R.next a).map (visN f)).sum else 0
def vis (a : α) : Nat := visN R O D (R.sz a) a
theorem visN_more : ∀ (f g : Nat) (a : α), R.sz a ≤ f → R.sz a ≤ g → visN R O D f a = visN R O D g a
  | 0, _, a, h, _ => by have := R.pos a; omega
  | f + 1, 0, a, _, h => by have := R.pos a; omega
  | f + 1, g + 1, a, hf, hg => by
    unfold visN
    cases hth : R.th a
    · rfl
    · by_cases hr : (R.nd a).right = 0
      · rw [R.leaf a hth hr]; rfl
      · obtain ⟨b, c, hn, _, _, hlt⟩ := R.inn a hth hr
        have := R.pos b
        have := R.pos c
        rw [hn]
        simp only [List.map_cons, List.map_nil]
        rw [visN_more f g b (by omega) (by omega), visN_more f g c (by omega) (by omega)]
theorem vis_off {a : α} (h : R.th a = false ∨ goB O D (R.nd a).box = none) : vis R O D a = 0 := by
  unfold vis
  obtain ⟨n, hn⟩ : ∃ n, R.sz a = n + 1 := ⟨R.sz a - 1, by have := R.pos a; omega⟩
  rw [hn]
  unfold visN
  rcases h with h | h
  · rw [h]; rfl
  · rw [h]; simp
theorem vis_on {a : α} {z : Nat × Nat} (h : R.th a = true) (g : goB O D (R.nd a).box = some z) : vis R O D a = 1 + ((R.next a).map (vis R O D)).sum := by
  have e : vis R O D a = visN R O D (R.sz a) a := rfl
  obtain ⟨n, hn⟩ : ∃ n, R.sz a = n + 1 := ⟨R.sz a - 1, by have := R.pos a; omega⟩
  rw [e, hn]
  unfold visN
  rw [h, g]
  rw [if_pos (show (true && (some z).isSome) = true from rfl)]
  by_cases hr : (R.nd a).right = 0
  · rw [R.leaf a h hr]; rfl
  · obtain ⟨b, c, hx, _, _, hlt⟩ := R.inn a h hr
    have := R.pos b
    have := R.pos c
    rw [hx]
    simp only [List.map_cons, List.map_nil]
    unfold vis
    rw [visN_more R O D n (R.sz b) b (by omega) (Nat.le_refl _), visN_more R O D n (R.sz c) c (by omega) (Nat.le_refl _)]
theorem vis_le : ∀ (f : Nat) (a : α), R.sz a ≤ f → visN R O D f a ≤ R.sz a
  | 0, a, h => by have := R.pos a; omega
  | f + 1, a, h => by
    unfold visN
    cases hth : R.th a
    · exact Nat.zero_le _
    · split
      · by_cases hr : (R.nd a).right = 0
        · rw [R.leaf a hth hr]; have := R.pos a; simp; omega
        · obtain ⟨b, c, hn, _, _, hlt⟩ := R.inn a hth hr
          have := R.pos b
          have := R.pos c
          have h1 := vis_le f b (by omega)
          have h2 := vis_le f c (by omega)
          rw [hn]
          simp only [List.map_cons, List.map_nil, List.sum_cons, List.sum_nil]
          omega
      · exact Nat.zero_le _
def visS (st : List α) : Nat := (st.map (vis R O D)).sum
theorem visS_cons (a : α) (st : List α) : visS R O D (a :: st) = vis R O D a + visS R O D st := by simp [visS]
theorem visS_app (s t : List α) : visS R O D (s ++ t) = visS R O D s + visS R O D t := by simp [visS]
end

attribute [local go_sem] Oper.semAt_some
set_option maxRecDepth 100000 in
set_option maxHeartbeats 4000000 in
theorem visits_any {α : Type} (R : Tre α) (O D : V3) (xp : Option Addr) (a0 : α) (w : World) (hk0 : R.kk a0 = 0) (hsz : R.sz a0 ≤ 2000) (hN : NodeC R (.pointer xp) w) :
    Calls Tryz.prog 19 #[.pointer xp, .agg #[.float .f64 O.x, .float .f64 O.y, .float .f64 O.z, .float .f64 D.x, .float .f64 D.y, .float .f64 D.z]] w fun e W' => e = .returned (.int .i64 (vis R O D a0 : Nat)) ∧ Cl w W' := by
  have HN := hid hN
  have HV := aside (show vis R O D a0 ≤ 2000 from Nat.le_trans (vis_le R O D _ a0 (Nat.le_refl _)) hsz)
  clear hN
  refine (callsIn_wide (n := 0)).1 (callsIn_of_wp_marks Tryz.func19 rfl trivial ?_ rfl)
  simp only [Tryz.ntmps19, List.size_toArray, List.length_cons, List.length_nil, Nat.reduceAdd, Nat.reduceSub, Array.replicate_succ, Array.replicate_zero, List.push_toArray, List.append_toArray, List.nil_append, List.cons_append]
  refine wpIn_wide.2 ?_
  go_wp2_with fail
  refine Calls.mono (entered_any xp (.func 41) #[] #[] O D _) ?_
  rintro e wL ⟨g1, g2, g3, rfl, hE2, hge, hm⟩
  have BC : Lp.Bk wL (w.heap.size + 1) #[.int .i64 0] 3 := (Lp.Bk.al1 w _ _ _).keep hm
  have hal : Cl w wL := (((Below.refl w.heap.size w).alloc (Nat.le_refl _) _).alloc (by simp) _).trans (hm.mono (by simp; omega))
  have HE2 := hid hE2
  have HGE := aside hge
  have HCL := hid hal
  have HBC := hid BC
  have HLC := aside BC.lt
  clear hm hal BC hE2 hge
  unfold entV
  go_wp2_with fail
  refine range_wp (gf := 62) (lb := #[.pointer (some ⟨g1, 0, none⟩), .pointer (some ⟨g2, 0, none⟩), .pointer (some ⟨g3, 0, none⟩)]) rfl (enters_of Tryz.func62 (by kernel_rfl) rfl) (fun W => Lp.Bk W (w.heap.size + 1) #[.int .i64 (vis R O D a0 : Nat)] 3 ∧ Cl w W) (fun _ _ => False) ?hI ?hIx ?hcall ?hdone ?hstop
  case hI =>
    rintro W o ⟨h1, h2⟩
    exact ⟨(World.putObj_heap_other (by have := HLC.out; omega)).trans h1, below_put h2 (by have := HCL.out.size; omega) o⟩
  case hIx =>
    rintro c W o h
    exact h
  case hdone =>
    rintro W ⟨h1, h2⟩ hK
    have k0 := h1.cell
    have hlt := HLC.out
    have hsz := HCL.out.size
    go_wp2_with fail
    refine ⟨by simp, .inl ⟨_, _, rfl, run_takeDeferred hK, ?_⟩⟩
    exact ⟨_, results_tmp rfl _ _ _, rfl, below_put h2 (by omega) _⟩
  case hstop =>
    rintro c W h
    exact h.elim
  case hcall =>
    intro fn rec W1 hrec hC1 hS1 hl1 hd1
    have HREC := aside hrec
    clear hrec
    have hlt := HLC.out
    refine Calls.mono (entered1_any R O D xp 41 #[] (wL.heap.size + 1) (fun k => k = w.heap.size + 1 ∨ k = wL.heap.size + 1) w
      (fun s W => (∃ c : Nat, c + visS R O D s = vis R O D a0 ∧ Lp.Bk W (w.heap.size + 1) #[.int .i64 (c : Nat)] 3) ∧ Cl w W ∧ W.heap[wL.heap.size + 1]? = some (.loop (rec .ready none)) ∧ W.heap[wL.heap.size]? = some (.deferred (some [])) ∧ W1.heap.size ≤ W.heap.size)
      (fun _ => False) a0 g1 g2 g3 W1 hk0 hsz (HE2.out.keep hC1) ?_ ?_ (enters_of Tryz.func41 (by kernel_rfl) rfl) HN.out ?_ ?_ ?_ ?_ ?_ ?_) ?_
    · obtain ⟨q1, q2, q3⟩ := HGE.out
      have l1 := HE2.out.x.lt
      have l2 := HE2.out.r.lt
      have l3 := HE2.out.g.lt
      simp at q1 q2 q3
      refine ⟨fun h => ?_, fun h => ?_, fun h => ?_⟩ <;> omega
    · rintro k (h | h) <;> omega
    · rintro s W ⟨_, h, _⟩
      exact h
    · rintro s W W' ⟨⟨c, h0, h1⟩, h2, h3, h4, h5⟩ hb
      have hs := HCL.out.size
      exact ⟨⟨c, h0, (hb.block _ (by omega)).trans h1⟩, h2.trans (hb.mono (by omega)), (hb.block _ (by omega)).trans h3, (hb.block _ (by omega)).trans h4, Nat.le_trans h5 hb.size⟩
    · rintro a s W ⟨⟨c, h0, h1⟩, h2⟩ hq
      rw [visS_cons, vis_off R O D hq] at h0
      exact ⟨⟨c, by omega, h1⟩, h2⟩
    · rintro a s W z h hz
      exact ⟨true, visits1_any _ _, fun e => by cases e⟩
    · rintro a s W z ⟨⟨c, h0, h1⟩, h2, h3, h4, h5⟩ hth hz
      rw [visS_cons, vis_on R O D hth hz] at h0
      refine round_at rfl HREC.out h3 ?_
      unfold dxv
      refine wpIn_skip (show _ ∧ _ from ⟨h3, ?_⟩)
      obtain ⟨v1, hv1⟩ : ∃ v1, v1 = W.putObj (wL.heap.size + 1) (.loop (rec .busy none)) := ⟨_, rfl⟩
      have hp1 : Below (wL.heap.size + 1) W v1 := by rw [hv1]; exact below_put (Below.refl _ _) (Nat.le_refl _) _
      have hr1 : v1.heap[wL.heap.size + 1]? = some (.loop (rec .busy none)) := by rw [hv1]; exact World.putObj_heap_same (Array.getElem?_eq_some_iff.1 h3).1
      have hk1 : Kept (fun k => k = w.heap.size + 1 ∨ k = wL.heap.size + 1) W v1 := by rw [hv1]; exact (Kept.refl W).put (.inr rfl) _
      rw [← hv1]
      clear hv1
      have BC : Lp.Bk v1 (w.heap.size + 1) #[.int .i64 (c : Nat)] 3 := (hp1.block _ (by omega)).trans h1
      have HW := aside (And.intro h0 (And.intro h4 (And.intro h5 (And.intro h2 (And.intro hp1 (And.intro hr1 (And.intro hk1 BC)))))))
      have kC := BC.cell
      have zC := BC.frz
      have hc5 : c ≤ 2000 := by have := HV.out; omega
      clear h0 h1 h2 h3 h4 h5 hp1 hr1 hk1 BC
      gi_wp2
      obtain ⟨h0, h4, h5, h2, hp1, hr1, hk1, BC⟩ := HW.out
      have hl := (Array.getElem?_eq_some_iff.1 hr1).1
      have hsz1 := HCL.out.size
      have hr2 : (v1.setCell ⟨w.heap.size + 1, 0, none⟩ (.int .i64 ((c : Int) + 1))).heap[wL.heap.size + 1]? = some (.loop (rec .busy none)) := (Below.heap_setCell _ _ _ _ (by dsimp only; omega)).trans hr1
      have hd2 : (v1.setCell ⟨w.heap.size + 1, 0, none⟩ (.int .i64 ((c : Int) + 1))).heap[wL.heap.size]? = some (.deferred (some [])) := (Below.heap_setCell _ _ _ _ (by dsimp only; omega)).trans ((hp1.block _ (by omega)).trans h4)
      have hk2 := (hk1.set (b := w.heap.size + 1) (i := 0) (.inl rfl) (.int .i64 ((c : Int) + 1))).put (r := wL.heap.size + 1) (.inr rfl) (.loop (rec .ready none))
      have BC2 : Lp.Bk ((v1.setCell ⟨w.heap.size + 1, 0, none⟩ (.int .i64 ((c : Int) + 1))).putObj (wL.heap.size + 1) (.loop (rec .ready none))) (w.heap.size + 1) #[.int .i64 ((c : Int) + 1)] 3 := (World.putObj_heap_other (by omega)).trans (BC.set 0 _)
      have e1 : ((c + 1 : Nat) : Int) = (c : Int) + 1 := by omega
      refine ⟨hr2, rfl, ⟨⟨c + 1, by rw [visS_app]; unfold visS at h0 ⊢; omega, by rw [e1]; exact BC2⟩, hk2.cl h2 (by rintro k (h | h) <;> omega), World.putObj_heap_same (Array.getElem?_eq_some_iff.1 hr2).1, (World.putObj_heap_other (by omega)).trans hd2, ?_⟩, hk2⟩
      exact Nat.le_trans (by omega) hk2.size
    · refine ⟨⟨0, by simp [visS], HBC.out.keep hC1⟩, HCL.out.call hC1, hl1, hd1, Nat.le_refl _⟩
    · rintro e W2 ⟨hv, ⟨⟨c, h0, h1⟩, h2, h3, h4, _⟩ | h⟩
      · refine ⟨hv, .inl ⟨⟨?_, h2⟩, h3, h4⟩⟩
        have : c = vis R O D a0 := by simpa [visS] using h0
        rw [← this]
        exact h1
      · exact h.elim
end Go.Proofs.YtiblmojdjnfoaaaGreat

namespace Go.Proofs.YtiblmojdjnfoaaaGreat
open Go.RowKit Fl Lm Rg

section
variable (f : Nat → Option V3)
/-- What is met first of the first n. -/
def fstF (n : Nat) : Hit := (List.range n).foldl (fun b i => aheadN (askN f i) b) none
theorem best_fold {n : Nat} : ∀ (L : List Nat) (b : Hit), (∀ i, i ∈ L → i < n) → Best f n b L → Best f n (L.foldl (fun b i => aheadN (askN f i) b) b) []
  | [], _, _, h => h
  | i :: L, _, hm, h => best_fold L _ (fun k hk => hm k (List.mem_cons_of_mem _ hk)) (h.step (hm i (List.mem_cons_self ..)))
theorem fstF_best (n : Nat) : Best f n (fstF f n) [] := best_fold f _ _ (fun _ hi => List.mem_range.1 hi) Best.start
end
theorem Best.is {f : Nat → Option V3} {n : Nat} {b : Hit} (hn : Num3 f) (h : Best f n b []) : b = fstF f n := h.one hn (fstF_best f n)
/-- Its words are numbers. -/
def Hit.Nums (b : Hit) : Prop := ∀ i h, b = some (i, h) → isN h.x = false ∧ isN h.y = false ∧ isN h.z = false
theorem fstF_nums (T : Nat → Tr) (K : List Int) (O D : V3) (n : Nat) : (fstF (metK T K O D) n).Nums := fun i h e => by
  have := ((fstF_best (metK T K O D) n).own i h e).2
  unfold metK at this
  split at this
  · cases this
  · exact meet_num this

set_option maxRecDepth 100000 in
set_option maxHeartbeats 1000000 in
theorem eql_four (i : Int) (x y z : Nat) (hx : isN x = false) (hy : isN y = false) (hz : isN z = false) (w : World) : (binOp .eql 35 (.agg #[.int .i64 i, .float .f64 x, .float .f64 y, .float .f64 z]) (.agg #[.int .i64 i, .float .f64 x, .float .f64 y, .float .f64 z])).run Tryz.prog w = .ok (.bool true) w := by
  have hS : Tryz.prog.underlying 35 = some (.struct (Tryz.prog.fieldsOf 35)) := by kernel_rfl
  have hp : Tryz.prog.stoodInHeld 35 = false := by kernel_rfl
  obtain ⟨d, hd⟩ : ∃ d : Nat, 10000 = d + 1 + 1 := ⟨9998, rfl⟩
  have gx : Op.floatEq FloatKind.f64 x x = true := f_self hx
  have gy : Op.floatEq FloatKind.f64 y y = true := f_self hy
  have gz : Op.floatEq FloatKind.f64 z z = true := f_self hz
  rw [run_eql_struct, hd, run_equalIn_agg w (d + 1) 35 _ _ hS hp]
  clear hd
  simp only [Program.fieldsOf, Tryz.underlying35]
  go_simp
theorem eql_hit (b : Hit) (h : b.Nums) (w : World) : (binOp .eql 35 (.agg (hcs b)) (.agg (hcs b))).run Tryz.prog w = .ok (.bool true) w := by
  rcases b with _ | ⟨i, g⟩
  · exact eql_four (-1) 0 0 0 (by decide) (by decide) (by decide) w
  · obtain ⟨h1, h2, h3⟩ := h i g rfl
    exact eql_four _ _ _ _ h1 h2 h3 w

/-! A tree of triangles in memory: what is met, whether a ray is blocked, how many nodes it goes through. -/
section
variable (T : Nat → Tr) (sur : Bool) (n c cs t : Nat) (K : List Int) (O D : V3) (ao az : Option Addr) (w : World)
theorem scan_is (hL : Sl w ao n 9 fun i => tcs (T i)) (hK : Sl w az K.length 1 (kvs K)) (hn : n ≤ 1000) (h5 : K.length ≤ 1000) :
    Calls Tryz.prog 9 #[.slice ao n c, .agg #[.float .f64 O.x, .float .f64 O.y, .float .f64 O.z, .float .f64 D.x, .float .f64 D.y, .float .f64 D.z], .slice az K.length cs] w fun e W' => e = .returned (.agg (hcs (fstF (metK T K O D) n))) ∧ Cl w W' :=
  Calls.mono (scan_any T n c cs K O D ao az w hL hK hn h5) fun e W' ⟨b, h1, h2, h3⟩ => ⟨by rw [h1, h2.is (metK_num T K O D), hitN_is], h3⟩
theorem first_is (hT : ∀ i, (T i).Mo) (hn : n ≤ 500) (hR : TreeR w t (DT T sur n) (OT T sur n)) (hL : Sl w ao n 9 fun i => tcs (T i)) (hK : Sl w az K.length 1 (kvs K)) (h5 : K.length ≤ 1000) :
    Calls Tryz.prog 15 #[.pointer (some ⟨t, 0, none⟩), .slice ao n c, .agg #[.float .f64 O.x, .float .f64 O.y, .float .f64 O.z, .float .f64 D.x, .float .f64 D.y, .float .f64 D.z], .slice az K.length cs] w fun e W' => e = .returned (.agg (hcs (fstF (metK T K O D) n))) ∧ Cl w W' :=
  Calls.mono (first_any bvT Plc.ls Plc.lst T n n c cs K O D (some ⟨t, 0, none⟩) ao az (rootT T sur n) w (bvT_c T sur n hT hn) rfl (root_sz T sur n hn) (bvT_n T sur n hR) (bvT_t T sur n hR) hL hK (Nat.le_refl _) (by omega) h5) fun e W' ⟨b, h1, h2, h3⟩ => ⟨by rw [h1, h2.is (metK_num T K O D), hitN_is], h3⟩
theorem any_is (x : Nat) (hT : ∀ i, (T i).Mo) (hn : n ≤ 500) (hR : TreeR w t (DT T sur n) (OT T sur n)) (hL : Sl w ao n 9 fun i => tcs (T i)) (hK : Sl w az K.length 1 (kvs K)) (h5 : K.length ≤ 1000) :
    Calls Tryz.prog 16 #[.pointer (some ⟨t, 0, none⟩), .slice ao n c, .agg #[.float .f64 O.x, .float .f64 O.y, .float .f64 O.z, .float .f64 D.x, .float .f64 D.y, .float .f64 D.z], .float .f64 x, .slice az K.length cs] w fun e W' => e = .returned (.bool (anyN (metK T K O D) n x)) ∧ Cl w W' :=
  any_any bvT Plc.ls Plc.lst T n n c cs x K O D (some ⟨t, 0, none⟩) ao az (rootT T sur n) w (bvT_c T sur n hT hn) rfl (root_sz T sur n hn) (bvT_n T sur n hR) (bvT_t T sur n hR) hL hK (Nat.le_refl _) (by omega) h5
/-- How many nodes of the tree a ray goes through. -/
def visT : Nat := vis (bvT (S := treeT T sur) (n := n) (D := DT T sur n) (O := OT T sur n)) O D (rootT T sur n)
theorem visits_is (hn : n ≤ 500) (hR : TreeR w t (DT T sur n) (OT T sur n)) :
    Calls Tryz.prog 19 #[.pointer (some ⟨t, 0, none⟩), .agg #[.float .f64 O.x, .float .f64 O.y, .float .f64 O.z, .float .f64 D.x, .float .f64 D.y, .float .f64 D.z]] w fun e W' => e = .returned (.int .i64 (visT T sur n O D : Nat)) ∧ Cl w W' :=
  visits_any bvT O D (some ⟨t, 0, none⟩) (rootT T sur n) w rfl (root_sz T sur n hn) (bvT_n T sur n hR)
/-- The tree that is not there. -/
theorem noT_T (hT : ∀ i, (T i).Mo) : TreC noT (fun _ => []) (fun _ => []) T 0 () where
  mo := hT
  box := fun _ h => by cases h
  off := fun _ _ => rfl
  nx := fun _ _ h => by cases h
  lt := fun _ _ h => by cases h
  all := fun _ h => by omega
  hi := fun _ h => by cases h
theorem first_no (hT : ∀ i, (T i).Mo) (hL : Sl w ao n 9 fun i => tcs (T i)) (hn : n ≤ 1000) (hK : Sl w az K.length 1 (kvs K)) (h5 : K.length ≤ 1000) :
    Calls Tryz.prog 15 #[.pointer none, .slice ao n c, .agg #[.float .f64 O.x, .float .f64 O.y, .float .f64 O.z, .float .f64 D.x, .float .f64 D.y, .float .f64 D.z], .slice az K.length cs] w fun e W' => e = .returned (.agg #[.int .i64 (-1), .float .f64 0, .float .f64 0, .float .f64 0]) ∧ Cl w W' :=
  Calls.mono (first_any noT (fun _ => []) (fun _ => []) T 0 n c cs K O D none ao az () w (noT_T T hT) rfl (by decide) (noT_n w) (noT_t w) hL hK (Nat.zero_le _) hn h5) fun e W' ⟨b, h1, h2, h3⟩ => ⟨by rw [h1, h2.is (metK_num T K O D), hitN_is]; rfl, h3⟩
theorem any_no (x : Nat) (hT : ∀ i, (T i).Mo) (hL : Sl w ao n 9 fun i => tcs (T i)) (hn : n ≤ 1000) (hK : Sl w az K.length 1 (kvs K)) (h5 : K.length ≤ 1000) :
    Calls Tryz.prog 16 #[.pointer none, .slice ao n c, .agg #[.float .f64 O.x, .float .f64 O.y, .float .f64 O.z, .float .f64 D.x, .float .f64 D.y, .float .f64 D.z], .float .f64 x, .slice az K.length cs] w fun e W' => e = .returned (.bool false) ∧ Cl w W' :=
  any_any noT (fun _ => []) (fun _ => []) T 0 n c cs x K O D none ao az () w (noT_T T hT) rfl (by decide) (noT_n w) (noT_t w) hL hK (Nat.zero_le _) hn h5
theorem visits_no :
    Calls Tryz.prog 19 #[.pointer none, .agg #[.float .f64 O.x, .float .f64 O.y, .float .f64 O.z, .float .f64 D.x, .float .f64 D.y, .float .f64 D.z]] w fun e W' => e = .returned (.int .i64 0) ∧ Cl w W' :=
  Calls.mono (visits_any noT O D none () w rfl (by decide) (noT_n w)) fun e W' ⟨h1, h2⟩ => ⟨by rw [h1, vis_off noT O D (.inl rfl)]; rfl, h2⟩
end
end Go.Proofs.YtiblmojdjnfoaaaGreat

namespace Go.Proofs.YtiblmojdjnfoaaaGreat
open Go.RowKit Fl Lm Rg

def tr0 : Tr := ⟨0, 0, 0, 0, 0, 0, 0, 0, 0⟩
theorem tr0_mo : tr0.Mo := Tr.may (by decide +kernel)
theorem Sl.less {w : World} {ao : Option Addr} {m n k : Nat} {e : Nat → List Value} (h : Sl w ao n k e) (hm : m ≤ n) : Sl w ao m k e := by
  rcases h with h | ⟨g, o, h0, h⟩
  · exact .inl (by omega)
  · exact .inr ⟨g, o, h0, h.less hm⟩
theorem Sl.congr {w : World} {ao : Option Addr} {n k : Nat} {e e' : Nat → List Value} (h : Sl w ao n k e) (he : ∀ i, i < n → e i = e' i) : Sl w ao n k e' := by
  rcases h with h | ⟨g, o, h0, h⟩
  · exact .inl h
  · exact .inr ⟨g, o, h0, h.congr he⟩
theorem Sl.skips {w : World} {ao : Option Addr} {K : List Int} (h : Sl w ao K.length 1 (kvs K)) : Sl w ao (K.take 10).length 1 (kvs (K.take 10)) :=
  (h.less (m := (K.take 10).length) (by rw [List.length_take]; exact Nat.min_le_right _ _)).congr fun i hi => by
    have hi' : i < 10 := by rw [List.length_take] at hi; omega
    unfold kvs
    rw [List.getD_eq_getElem?_getD, List.getD_eq_getElem?_getD, List.getElem?_take_of_lt hi']

set_option maxRecDepth 100000 in
set_option maxHeartbeats 1000000 in
theorem skips_any (n cs : Nat) (az : Option Addr) (w : World) (h : n ≤ cs) : Calls Tryz.prog 6 #[.slice az n cs] w fun e w' => e = .returned (.slice az (min 10 n) cs) ∧ w' = w := by
  by_cases h1 : 10 < n
  · have hc : (10 < (n : Int)) = True := eq_true (by omega)
    rw [Nat.min_eq_left (Nat.le_of_lt h1)]
    have h2 : (10 : Int) ≤ (cs : Int) := by omega
    have h3 : 10 ≤ cs := by omega
    go_enter Tryz.func6, Tryz.ntmps6
    go_wp2_with fail
    go_ret
    exact ⟨rfl, rfl⟩
  · have hc : (10 < (n : Int)) = False := eq_false (by omega)
    rw [Nat.min_eq_right (by omega)]
    go_enter Tryz.func6, Tryz.ntmps6
    go_wp2_with fail
    go_ret
    exact ⟨rfl, rfl⟩

/-- The first ones that may be. -/
def keepF (T : Nat → Tr) (j : Nat) : List Tr := ((List.range j).map T).filter Tr.mayB
theorem keep_step (T : Nat → Tr) (j : Nat) : keepF T (j + 1) = if (T j).mayB then keepF T j ++ [T j] else keepF T j := by
  unfold keepF
  rw [List.range_succ, List.map_append, List.filter_append]
  cases h : (T j).mayB <;> simp [h]
theorem keep_len (T : Nat → Tr) (j : Nat) : (keepF T j).length ≤ j := by
  unfold keepF
  refine Nat.le_trans (List.length_filter_le _ _) ?_
  simp
theorem keep_may {T : Nat → Tr} {j i : Nat} (h : i < (keepF T j).length) : ((keepF T j).getD i tr0).mayB = true := by
  rw [List.getD_eq_getElem?_getD, List.getElem?_eq_getElem h]
  exact (List.mem_filter.1 (List.getElem_mem h)).2
theorem keep_mo (T : Nat → Tr) (j i : Nat) : ((keepF T j).getD i tr0).Mo := by
  by_cases h : i < (keepF T j).length
  · exact Tr.may (keep_may h)
  · rw [List.getD_eq_getElem?_getD, List.getElem?_eq_none (by omega)]
    exact tr0_mo

set_option maxRecDepth 100000 in
set_option maxHeartbeats 1000000 in
theorem few_any (T : Nat → Tr) (n c : Nat) (az : Option Addr) (w : World) (hL : Sl w az n 9 fun i => tcs (T i)) : Calls Tryz.prog 13 #[.slice az n c, .int .i64 100] w fun e w' => ∃ v, e = .returned v ∧ Own w.heap.size w' 60 9 v (keepF T (min n 100)).length (fun i => tcs ((keepF T (min n 100)).getD i tr0)) ∧ Cl w w' := by
  obtain ⟨iT, hT0, hT1, hT2, hT3⟩ := info_tri
  have HL := hid hL
  clear hL
  go_enter Tryz.func13, Tryz.ntmps13
  go_wp2_with fail
  go_loopg [5, 6] (min n 100) (fun k sl i wr => ∃ j : Nat, k + j = min n 100 ∧ i = .int .i64 (j : Int) ∧ Own w.heap.size wr 60 9 sl (keepF T j).length (fun i => tcs ((keepF T j).getD i tr0)) ∧ Cl w wr)
  case atStart => exact ⟨0, Nat.add_zero _, rfl, Own.nil _ _ _ _ _, Below.refl _ _⟩
  case round =>
    obtain ⟨g0, hg0⟩ : ∃ g0, g0 = gk := ⟨_, rfl⟩
    subst hg0
    obtain ⟨wo, hwo⟩ : ∃ wo, wo = wr := ⟨_, rfl⟩
    subst hwo
    obtain ⟨j, hk, rfl, hO, HB⟩ := hrel
    have HK := aside hk
    clear hk
    have HB := hid HB
    by_cases hj : j < n
    · have hd : ((j : Int) < (n : Int)) = True := eq_true (by omega)
      by_cases hj1 : j < 100
      · have hd1 : ((j : Int) < 100) = True := eq_true (by omega)
        have HST := aside (keep_step T j)
        have HLE := aside (keep_len T j)
        obtain ⟨g, o, rfl, E⟩ := (HL.out.keep HB.out).get hj
        obtain ⟨k0, k1, k2, k3, k4, k5, k6, k7, k8⟩ := tat E hj
        have HE := hid E
        have HMAY := hid (fun w' => rmay_any (T j) w')
        have hjl := aside hj
        generalize hL0 : keepF T j = L at *
        generalize htj : T j = t at *
        have hTj := aside htj
        clear E hj hL0 htj
        unfold txv at HMAY
        cases hmy : t.mayB with
        | false =>
          rw [hmy] at HMAY
          rw [hmy, if_neg (by decide)] at HST
          have HO := hid hO
          clear hmy hO
          go_wp2_with fail
          refine Calls.mono (HMAY.out _) ?_
          rintro e w2 ⟨v, rfl, rfl, hm⟩
          have HB2 := hid (HB.out.call hm)
          have HO2 := hid (HO.out.keep hm)
          clear hm k0 k1 k2 k3 k4 k5 k6 k7 k8 HMAY HO HB
          go_wp2_with fail
          go_roundg (g0 - 1)
          case measure => have := HK.out; have := hjl.out; omega
          case rel => exact ⟨j + 1, by have := HK.out; have := hjl.out; omega, by go_num, by rw [HST.out]; exact HO2.out, HB2.out⟩
        | true =>
          rw [hmy] at HMAY
          rw [hmy, if_pos rfl] at HST
          obtain ⟨ao, co, rfl⟩ := hO.slice
          have HO := hid hO
          clear hmy hO
          go_wp2_with fail
          refine Calls.mono (HMAY.out _) ?_
          rintro e w2 ⟨v, rfl, rfl, hm⟩
          have HB2 := hid (HB.out.call hm)
          have HO2 := hid (HO.out.keep hm)
          have HS2 := hid (HL.out.keep HB2.out)
          clear hm k0 k1 k2 k3 k4 k5 k6 k7 k8 HMAY HO HB HE
          obtain ⟨g', o', ea, E⟩ := HS2.out.get hjl.out
          obtain ⟨rfl, rfl⟩ : g = g' ∧ o = o' := by simpa using ea
          obtain ⟨k0, k1, k2, k3, k4, k5, k6, k7, k8⟩ := tat E hjl.out
          rw [hTj.out] at k0 k1 k2 k3 k4 k5 k6 k7 k8
          clear ea E HS2
          generalize hl : L.length = m at *
          have HLL := aside hl
          clear hl
          go_wp2_with ((at_builtin; refine wpList_push _ rfl _ _ 22 rfl 60 iT (.agg #[.float .f64 0, .float .f64 0, .float .f64 0, .float .f64 0, .float .f64 0, .float .f64 0, .float .f64 0, .float .f64 0, .float .f64 0]) 9 72 under_tris hT0 hT1 hT2 hT3 rfl (by decide) (.slice ao m co) m (flat m fun i => tcs (L.getD i tr0)) rfl (HO2.out.alo (.cells #[.float .f64 t.t0, .float .f64 t.t1, .float .f64 t.t2, .float .f64 t.t3, .float .f64 t.t4, .float .f64 t.t5, .float .f64 t.t6, .float .f64 t.t7, .float .f64 t.t8] 60)).row ⟨w2.heap.size, 0, none⟩ 1 1 (tcs t) rfl rfl (cells_at0 (xs := tcs t) (Lp.Bk.al w2 _ _)) (tcs_one _) (max_small (by have := HLE.out; omega)) (by have := HLE.out; omega) ?_))
          intro v' w1 hown hg hb
          have hcl : Cl w w1 := Cl_grown (HB2.out.alloc _) hg (fun g e => HO2.out.lo g e)
          have hO3 := (HO2.out.alo (.cells #[.float .f64 t.t0, .float .f64 t.t1, .float .f64 t.t2, .float .f64 t.t3, .float .f64 t.t4, .float .f64 t.t5, .float .f64 t.t6, .float .f64 t.t7, .float .f64 t.t8] 60)).push (e' := fun i => tcs ((L ++ [t]).getD i tr0)) hown (hb.imp id fun h g e => by have := h g e; simp at this ⊢; omega) (by have := HB2.out.size; simp; omega) (fun i hi => by
            show tcs (L.getD i tr0) = tcs ((L ++ [t]).getD i tr0)
            rw [List.getD_eq_getElem?_getD, List.getD_eq_getElem?_getD, List.getElem?_append_left (by rw [HLL.out]; exact hi)]) (by
            show tcs ((L ++ [t]).getD m tr0) = tcs t
            rw [List.getD_eq_getElem?_getD, List.getElem?_append_right (by rw [HLL.out]; exact Nat.le_refl _), HLL.out, Nat.sub_self]
            rfl)
          have HO3 := hid hO3
          have HC3 := hid hcl
          clear hown hg hb hcl hO3 HB2 HO2 k0 k1 k2 k3 k4 k5 k6 k7 k8
          go_wp2_with fail
          go_roundg (g0 - 1)
          case measure => have := HK.out; have := hjl.out; omega
          case rel => exact ⟨j + 1, by have := HK.out; have := hjl.out; omega, by go_num, by rw [HST.out, List.length_append, HLL.out]; exact HO3.out, HC3.out⟩
      · have hd1 : ((j : Int) < 100) = False := eq_false (by omega)
        have HJM := aside (show min n 100 = j by have := HK.out; omega)
        obtain ⟨ao2, co2, rfl⟩ := hO.slice
        have HO := hid hO
        clear hO hj hj1
        go_wp2_with fail
        exact bodyPost_ret (v := .slice ao2 (keepF T j).length co2) (by simp [results, go_sem]) rfl ⟨_, rfl, by rw [HJM.out]; exact HO.out, HB.out⟩
    · have hd : ((j : Int) < (n : Int)) = False := eq_false (by omega)
      have HJM := aside (show min n 100 = j by have := HK.out; omega)
      obtain ⟨ao2, co2, rfl⟩ := hO.slice
      have HO := hid hO
      clear hO hj
      go_wp2_with fail
      exact bodyPost_ret (v := .slice ao2 (keepF T j).length co2) (by simp [results, go_sem]) rfl ⟨_, rfl, by rw [HJM.out]; exact HO.out, HB.out⟩

theorem few_is (T : Nat → Tr) (n c : Nat) (az : Option Addr) (w : World) (hL : Sl w az n 9 fun i => tcs (T i)) : ∃ (N : Nat) (T1 : Nat → Tr), N ≤ 100 ∧ (∀ i, (T1 i).Mo) ∧ (∀ i, i < N → (T1 i).mayB = true) ∧
    ∀ w', Cl w w' → Calls Tryz.prog 13 #[.slice az n c, .int .i64 100] w' fun e w'' => ∃ v, e = .returned v ∧ Own w'.heap.size w'' 60 9 v N (fun i => tcs (T1 i)) ∧ Cl w' w'' :=
  ⟨(keepF T (min n 100)).length, fun i => (keepF T (min n 100)).getD i tr0, Nat.le_trans (keep_len T (min n 100)) (Nat.min_le_right _ _), keep_mo T (min n 100), fun _ hi => keep_may hi, fun w' hw => few_any T n c az w' (hL.keep hw)⟩

set_option maxRecDepth 100000 in
set_option maxHeartbeats 1000000 in
theorem ris_four (i : Int) (x y z : Nat) (w : World) : Ret Tryz.prog 8 #[.agg #[.int .i64 i, .float .f64 x, .float .f64 y, .float .f64 z], .agg #[.int .i64 i, .float .f64 x, .float .f64 y, .float .f64 z]] w (fun v => v = .bool true) := by
  unfold Ret
  go_enter Tryz.func8, Tryz.ntmps8
  go_wp2_with fail
  refine Lp.settleC (fun w' => Lp.Bk w' (w.heap.size) #[.int .i64 i, .float .f64 x, .float .f64 y, .float .f64 z] 35 ∧ Lp.Bk w' (w.heap.size + 1) #[.int .i64 i, .float .f64 x, .float .f64 y, .float .f64 z] 35 ∧ Cl w w') ⟨((Lp.Bk.al _ _ _).alo _), (Lp.Bk.al1 _ _ _ _), ((Below.refl _ _).alloc (by simp <;> omega) _).alloc (by simp <;> omega) _⟩ ?_
  rintro v1 ⟨BA, BB, HB⟩
  refine Calls.mono (rsame_true (Sm.refl x) _) ?_
  rintro e v2 ⟨v, rfl, rfl, hm⟩
  replace BA := BA.keep hm
  replace BB := BB.keep hm
  replace HB := HB.call hm
  clear hm
  have kA := BA.cell
  have kB := BB.cell
  go_wp2_with fail
  clear kA kB
  refine Calls.mono (rsame_true (Sm.refl y) _) ?_
  rintro e v3 ⟨v, rfl, rfl, hm⟩
  replace BA := BA.keep hm
  replace BB := BB.keep hm
  replace HB := HB.call hm
  clear hm
  have kA := BA.cell
  have kB := BB.cell
  go_wp2_with fail
  clear kA kB
  refine Calls.mono (rsame_true (Sm.refl z) _) ?_
  rintro e v4 ⟨v, rfl, rfl, hm⟩
  replace BA := BA.keep hm
  replace BB := BB.keep hm
  replace HB := HB.call hm
  clear hm
  have kA := BA.cell
  have kB := BB.cell
  go_wp2_with fail
  clear kA kB
  go_ret
  exact ⟨_, rfl, rfl, HB⟩
theorem ris_hit (b : Hit) (w : World) : Ret Tryz.prog 8 #[.agg (hcs b), .agg (hcs b)] w (fun v => v = .bool true) := by
  obtain ⟨b0, b1, b2, b3, e⟩ := hcs_four b
  rw [e]
  exact ris_four b0 b1 b2 b3 w
end Go.Proofs.YtiblmojdjnfoaaaGreat

namespace Go.Proofs.YtiblmojdjnfoaaaGreat
open Go.RowKit Fl Lm Rg

@[go_sem] theorem fldh_0 (i : Int) (x y z : Nat) (w : World) : (Instr.field 35 (.agg #[.int .i64 i, .float .f64 x, .float .f64 y, .float .f64 z]) 0).run Tryz.prog w = .ok (.int .i64 i) w := by kernel_rfl
def T3 (i : Nat) : Tr := if i = 2 then ⟨0, 0, 4607182418800017408, 4607182418800017408, 0, 4607182418800017408, 0, 4607182418800017408, 4607182418800017408⟩ else if i < 2 then ⟨0, 0, 0, 4607182418800017408, 0, 0, 0, 4607182418800017408, 0⟩ else tr0
def O3 : V3 := ⟨4598175219545276416, 4598175219545276416, 4611686018427387904⟩
def D3 : V3 := ⟨0, 0, 13830554455654793216⟩
theorem t3_may (i : Nat) : (T3 i).mayB = true := by
  unfold T3
  split
  · decide +kernel
  · split
    · decide +kernel
    · decide +kernel
theorem t3_mo (i : Nat) : (T3 i).Mo := Tr.may (t3_may i)
theorem tris3 {w : World} {g : Nat} (h : Lp.Bk w g #[.float .f64 0, .float .f64 0, .float .f64 0, .float .f64 4607182418800017408, .float .f64 0, .float .f64 0, .float .f64 0, .float .f64 4607182418800017408, .float .f64 0, .float .f64 0, .float .f64 0, .float .f64 0, .float .f64 4607182418800017408, .float .f64 0, .float .f64 0, .float .f64 0, .float .f64 4607182418800017408, .float .f64 0, .float .f64 0, .float .f64 0, .float .f64 4607182418800017408, .float .f64 4607182418800017408, .float .f64 0, .float .f64 4607182418800017408, .float .f64 0, .float .f64 4607182418800017408, .float .f64 4607182418800017408] 60) : Sl w (some ⟨g, 0, none⟩) 3 9 fun i => tcs (T3 i) := by
  refine .inr ⟨g, 0, rfl, h.lt, fun i hi j hj => ?_⟩
  rw [Nat.zero_add, h.cell]
  match i, hi with
  | 0, _ =>
    match j, hj with
    | 0, _ => rfl
    | 1, _ => rfl
    | 2, _ => rfl
    | 3, _ => rfl
    | 4, _ => rfl
    | 5, _ => rfl
    | 6, _ => rfl
    | 7, _ => rfl
    | 8, _ => rfl
  | 1, _ =>
    match j, hj with
    | 0, _ => rfl
    | 1, _ => rfl
    | 2, _ => rfl
    | 3, _ => rfl
    | 4, _ => rfl
    | 5, _ => rfl
    | 6, _ => rfl
    | 7, _ => rfl
    | 8, _ => rfl
  | 2, _ =>
    match j, hj with
    | 0, _ => rfl
    | 1, _ => rfl
    | 2, _ => rfl
    | 3, _ => rfl
    | 4, _ => rfl
    | 5, _ => rfl
    | 6, _ => rfl
    | 7, _ => rfl
    | 8, _ => rfl
theorem num1 {w : World} {g : Nat} {a : Int} (h : Lp.Bk w g #[.int .i64 a] 3) : Sl w (some ⟨g, 0, none⟩) [a].length 1 (kvs [a]) := by
  refine .inr ⟨g, 0, rfl, h.lt, fun i hi j hj => ?_⟩
  rw [Nat.zero_add, h.cell]
  match i, hi with
  | 0, _ =>
    obtain rfl : j = 0 := by omega
    rfl
theorem num2 {w : World} {g : Nat} {a b : Int} (h : Lp.Bk w g #[.int .i64 a, .int .i64 b] 3) : Sl w (some ⟨g, 0, none⟩) [a, b].length 1 (kvs [a, b]) := by
  refine .inr ⟨g, 0, rfl, h.lt, fun i hi j hj => ?_⟩
  rw [Nat.zero_add, h.cell]
  match i, hi with
  | 0, _ =>
    obtain rfl : j = 0 := by omega
    rfl
  | 1, _ =>
    obtain rfl : j = 0 := by omega
    rfl
theorem hcs_fst {b : Hit} {i : Nat} (h : b.map Prod.fst = some i) : ∃ x y z, hcs b = #[.int .i64 (i : Int), .float .f64 x, .float .f64 y, .float .f64 z] := by
  match b, h with
  | some (j, e), h =>
    obtain rfl : j = i := by simpa using h
    exact ⟨_, _, _, rfl⟩
theorem b3_no : (fstF (metK T3 [] O3 D3) 3).map Prod.fst = some 2 := by decide +kernel
theorem b3_two : (fstF (metK T3 [2] O3 D3) 3).map Prod.fst = some 0 := by decide +kernel
theorem b3_both : (fstF (metK T3 [2, 0] O3 D3) 3).map Prod.fst = some 1 := by decide +kernel
theorem a3_far : anyN (metK T3 [] O3 D3) 3 4609434218613702656 = true := by decide +kernel
theorem a3_near : anyN (metK T3 [] O3 D3) 3 4607182418800017408 = false := by decide +kernel
theorem g3_box : (goB O3 D3 (bxs T3 (List.range 3))).isSome = true := by decide +kernel
theorem v3_is : visT T3 true 3 O3 D3 = 1 := by
  unfold visT
  obtain ⟨z, hz⟩ := Option.isSome_iff_exists.1 g3_box
  have hb : (bvT.nd (rootT T3 true 3)).box = bxs T3 (List.range 3) := (bvT_c T3 true 3 t3_mo (by decide)).box _ rfl
  rw [vis_on bvT O3 D3 (a := rootT T3 true 3) (z := z) rfl (by rw [hb]; exact hz)]
  have hn : bvT.next (rootT T3 true 3) = [] := by
    show Plc.next (rootT T3 true 3) = []
    unfold Plc.next
    rw [dif_neg (by decide)]
  rw [hn]
  rfl

set_option maxRecDepth 100000 in
set_option maxHeartbeats 4000000 in
theorem awake_any (w : World) : Ret Tryz.prog 7 #[] w (fun v => v = .bool true) := by
  unfold Ret
  go_enter Tryz.func7, Tryz.ntmps7
  go_wp2_with fail
  refine Lp.settleC (fun w' => Lp.Bk w' (w.heap.size + 1) #[.float .f64 0, .float .f64 0, .float .f64 0, .float .f64 4607182418800017408, .float .f64 0, .float .f64 0, .float .f64 0, .float .f64 4607182418800017408, .float .f64 0, .float .f64 0, .float .f64 0, .float .f64 0, .float .f64 4607182418800017408, .float .f64 0, .float .f64 0, .float .f64 0, .float .f64 4607182418800017408, .float .f64 0, .float .f64 0, .float .f64 0, .float .f64 4607182418800017408, .float .f64 4607182418800017408, .float .f64 0, .float .f64 4607182418800017408, .float .f64 0, .float .f64 4607182418800017408, .float .f64 4607182418800017408] 60 ∧ Lp.Bk w' (w.heap.size + 1 + 1) #[.float .f64 4598175219545276416, .float .f64 4598175219545276416, .float .f64 4611686018427387904, .float .f64 0, .float .f64 0, .float .f64 13830554455654793216] 27 ∧ Cl w w') ⟨(Lp.Bk.al1 _ _ _ _).alo _, Lp.Bk.al2 _ _ _ _ _, (((Below.refl _ _).alloc (Nat.le_refl _) _).alloc (by simp) _).alloc (by simp <;> omega) _⟩ ?_
  rintro v0 ⟨BT, BY, HB⟩
  have HS := hid (tris3 BT)
  clear BT
  refine Calls.mono (new_any T3 t3_mo true 3 3 (some ⟨w.heap.size + 1, 0, none⟩) v0 HS.out (by decide) fun i _ => t3_may i) ?_
  rintro e v1 ⟨t, rfl, hTR0, _, hm⟩
  have hTR : TreeR v1 t (DT T3 true 3) (OT T3 true 3) := hTR0
  clear hTR0
  replace HS := hid (HS.out.keep hm)
  replace BY := BY.keep hm
  replace HB := HB.call hm
  have HR := hid hTR
  clear hm hTR
  have kY := BY.cell
  go_wp2_with fail
  have HC2 := hid ((show Calls Tryz.prog 9 #[.slice (some ⟨w.heap.size + 1, 0, none⟩) 3 3, .agg #[.float .f64 4598175219545276416, .float .f64 4598175219545276416, .float .f64 4611686018427387904, .float .f64 0, .float .f64 0, .float .f64 13830554455654793216], .slice none 0 0] _ _ from scan_is T3 3 3 0 [] O3 D3 (some ⟨w.heap.size + 1, 0, none⟩) none _ HS.out (.inl rfl) (by decide) (by decide)))
  obtain ⟨x2, y2, z2, e2⟩ := hcs_fst b3_no
  rw [e2] at HC2
  clear e2
  refine Calls.mono HC2.out ?_
  rintro e v2 ⟨rfl, hm⟩
  have hm2 : Below v1.heap.size v1 v2 := hm
  replace HS := hid (HS.out.keep hm2)
  replace BY := BY.keep hm2
  replace HR := hid (HR.out.keep hm2)
  replace HB := HB.call hm2
  clear hm hm2 HC2 kY
  have kY := BY.cell
  go_wp2_with fail
  have HS3 := hid (HS.out.keep ((Below.refl _ _).alloc (Nat.le_refl _) (.cells #[.int .i64 2] 3)))
  have HR3 := hid (HR.out.keep ((Below.refl _ _).alloc (Nat.le_refl _) (.cells #[.int .i64 2] 3)))
  have HK3 := hid (Lp.Bk.al v2 #[.int .i64 2] 3)
  have HC3 := hid ((show Calls Tryz.prog 9 #[.slice (some ⟨w.heap.size + 1, 0, none⟩) 3 3, .agg #[.float .f64 4598175219545276416, .float .f64 4598175219545276416, .float .f64 4611686018427387904, .float .f64 0, .float .f64 0, .float .f64 13830554455654793216], .slice (some ⟨v2.heap.size, 0, none⟩) 1 1] _ _ from scan_is T3 3 3 1 [2] O3 D3 (some ⟨w.heap.size + 1, 0, none⟩) (some ⟨v2.heap.size, 0, none⟩) _ HS3.out (num1 HK3.out) (by decide) (by decide)))
  obtain ⟨x3, y3, z3, e3⟩ := hcs_fst b3_two
  rw [e3] at HC3
  clear e3
  refine Calls.mono HC3.out ?_
  rintro e v3 ⟨rfl, hm⟩
  have hm2 : Below v2.heap.size v2 v3 := ((Below.refl _ _).alloc (Nat.le_refl _) _).trans (hm.mono (by simp))
  replace HS := hid (HS.out.keep hm2)
  replace BY := BY.keep hm2
  replace HR := hid (HR.out.keep hm2)
  replace HB := HB.call hm2
  clear hm hm2 HC3 kY HS3 HR3 HK3
  have kY := BY.cell
  go_wp2_with fail
  have HS4 := hid (HS.out.keep ((Below.refl _ _).alloc (Nat.le_refl _) (.cells #[.int .i64 2] 3)))
  have HR4 := hid (HR.out.keep ((Below.refl _ _).alloc (Nat.le_refl _) (.cells #[.int .i64 2] 3)))
  have HK4 := hid (Lp.Bk.al v3 #[.int .i64 2] 3)
  have HC4 := hid ((show Calls Tryz.prog 15 #[.pointer (some ⟨t, 0, none⟩), .slice (some ⟨w.heap.size + 1, 0, none⟩) 3 3, .agg #[.float .f64 4598175219545276416, .float .f64 4598175219545276416, .float .f64 4611686018427387904, .float .f64 0, .float .f64 0, .float .f64 13830554455654793216], .slice (some ⟨v3.heap.size, 0, none⟩) 1 1] _ _ from first_is T3 true 3 3 1 t [2] O3 D3 (some ⟨w.heap.size + 1, 0, none⟩) (some ⟨v3.heap.size, 0, none⟩) _ t3_mo (by decide) HR4.out HS4.out (num1 HK4.out) (by decide)))
  obtain ⟨x4, y4, z4, e4⟩ := hcs_fst b3_two
  rw [e4] at HC4
  clear e4
  refine Calls.mono HC4.out ?_
  rintro e v4 ⟨rfl, hm⟩
  have hm2 : Below v3.heap.size v3 v4 := ((Below.refl _ _).alloc (Nat.le_refl _) _).trans (hm.mono (by simp))
  replace HS := hid (HS.out.keep hm2)
  replace BY := BY.keep hm2
  replace HR := hid (HR.out.keep hm2)
  replace HB := HB.call hm2
  clear hm hm2 HC4 kY HS4 HR4 HK4
  have kY := BY.cell
  go_wp2_with fail
  have HS5 := hid (HS.out.keep ((Below.refl _ _).alloc (Nat.le_refl _) (.cells #[.int .i64 2, .int .i64 0] 3)))
  have HR5 := hid (HR.out.keep ((Below.refl _ _).alloc (Nat.le_refl _) (.cells #[.int .i64 2, .int .i64 0] 3)))
  have HK5 := hid (Lp.Bk.al v4 #[.int .i64 2, .int .i64 0] 3)
  have HC5 := hid ((show Calls Tryz.prog 15 #[.pointer (some ⟨t, 0, none⟩), .slice (some ⟨w.heap.size + 1, 0, none⟩) 3 3, .agg #[.float .f64 4598175219545276416, .float .f64 4598175219545276416, .float .f64 4611686018427387904, .float .f64 0, .float .f64 0, .float .f64 13830554455654793216], .slice (some ⟨v4.heap.size, 0, none⟩) 2 2] _ _ from first_is T3 true 3 3 2 t [2, 0] O3 D3 (some ⟨w.heap.size + 1, 0, none⟩) (some ⟨v4.heap.size, 0, none⟩) _ t3_mo (by decide) HR5.out HS5.out (num2 HK5.out) (by decide)))
  obtain ⟨x5, y5, z5, e5⟩ := hcs_fst b3_both
  rw [e5] at HC5
  clear e5
  refine Calls.mono HC5.out ?_
  rintro e v5 ⟨rfl, hm⟩
  have hm2 : Below v4.heap.size v4 v5 := ((Below.refl _ _).alloc (Nat.le_refl _) _).trans (hm.mono (by simp))
  replace HS := hid (HS.out.keep hm2)
  replace BY := BY.keep hm2
  replace HR := hid (HR.out.keep hm2)
  replace HB := HB.call hm2
  clear hm hm2 HC5 kY HS5 HR5 HK5
  have kY := BY.cell
  go_wp2_with fail
  have HC6 := hid ((show Calls Tryz.prog 16 #[.pointer (some ⟨t, 0, none⟩), .slice (some ⟨w.heap.size + 1, 0, none⟩) 3 3, .agg #[.float .f64 4598175219545276416, .float .f64 4598175219545276416, .float .f64 4611686018427387904, .float .f64 0, .float .f64 0, .float .f64 13830554455654793216], .float .f64 4609434218613702656, .slice none 0 0] _ _ from any_is T3 true 3 3 0 t [] O3 D3 (some ⟨w.heap.size + 1, 0, none⟩) none _ 4609434218613702656 t3_mo (by decide) HR.out HS.out (.inl rfl) (by decide)))
  rw [a3_far] at HC6
  refine Calls.mono HC6.out ?_
  rintro e v6 ⟨rfl, hm⟩
  have hm2 : Below v5.heap.size v5 v6 := hm
  replace HS := hid (HS.out.keep hm2)
  replace BY := BY.keep hm2
  replace HR := hid (HR.out.keep hm2)
  replace HB := HB.call hm2
  clear hm hm2 HC6 kY
  have kY := BY.cell
  go_wp2_with fail
  have HC7 := hid ((show Calls Tryz.prog 16 #[.pointer (some ⟨t, 0, none⟩), .slice (some ⟨w.heap.size + 1, 0, none⟩) 3 3, .agg #[.float .f64 4598175219545276416, .float .f64 4598175219545276416, .float .f64 4611686018427387904, .float .f64 0, .float .f64 0, .float .f64 13830554455654793216], .float .f64 4607182418800017408, .slice none 0 0] _ _ from any_is T3 true 3 3 0 t [] O3 D3 (some ⟨w.heap.size + 1, 0, none⟩) none _ 4607182418800017408 t3_mo (by decide) HR.out HS.out (.inl rfl) (by decide)))
  rw [a3_near] at HC7
  refine Calls.mono HC7.out ?_
  rintro e v7 ⟨rfl, hm⟩
  have hm2 : Below v6.heap.size v6 v7 := hm
  replace HS := hid (HS.out.keep hm2)
  replace BY := BY.keep hm2
  replace HR := hid (HR.out.keep hm2)
  replace HB := HB.call hm2
  clear hm hm2 HC7 kY
  have kY := BY.cell
  go_wp2_with fail
  have HC8 := hid ((show Calls Tryz.prog 19 #[.pointer (some ⟨t, 0, none⟩), .agg #[.float .f64 4598175219545276416, .float .f64 4598175219545276416, .float .f64 4611686018427387904, .float .f64 0, .float .f64 0, .float .f64 13830554455654793216]] _ _ from visits_is T3 true 3 t O3 D3 _ (by decide) HR.out))
  rw [v3_is] at HC8
  refine Calls.mono HC8.out ?_
  rintro e v8 ⟨rfl, hm⟩
  have hm2 : Below v7.heap.size v7 v8 := hm
  replace HS := hid (HS.out.keep hm2)
  replace BY := BY.keep hm2
  replace HR := hid (HR.out.keep hm2)
  replace HB := HB.call hm2
  clear hm hm2 HC8 kY
  have kY := BY.cell
  go_wp2_with fail
  go_ret
  exact ⟨_, rfl, rfl, HB⟩
end Go.Proofs.YtiblmojdjnfoaaaGreat
