/- Package hit: Any. Package bvh: below, Depth. The law: Ints, awake. The law: awake. The law: few, all, rise. The law: rise. What the law asks of the nodes, by lists alone: what is told up to a node; leaves have their numbers in the order; boxes hold boxes. A node's place in a tree: its list's nodes stand from there on, its numbers from a place of the order on. (Ahead, for stage 13.) The tree of package bvh, as its nodes are come to; and the tree that is not there. The reference: May. The reference: Mid, longest. The reference's Is of equal boxes; nodes are the same as themselves. -/
import Derived.Laws.StructEq
import Derived.Test.YtiblmojdjnfoaaaGreatG22
import Derived.Test.YtiblmojdjnfoaaaGreatG21
import Derived.Test.YtiblmojdjnfoaaaGreatG9
import Derived.Test.YtiblmojdjnfoaaaGreatG6
import Derived.Test.YtiblmojdjnfoaaaGreatG12
namespace Go.Proofs.YtiblmojdjnfoaaaGreat
open Go.RowKit Fl Lm Rg

attribute [local go_sem] Oper.semAt_some
set_option maxRecDepth 100000 in
set_option maxHeartbeats 4000000 in
theorem any_any {α : Type} (R : Tre α) (ls lst : α → List Nat) (T : Nat → Tr) (n0 n c cs t : Nat) (K : List Int) (O D : V3) (xp ao az : Option Addr) (a0 : α) (w : World)
    (hC : TreC R ls lst T n0 a0) (hk0 : R.kk a0 = 0) (hsz : R.sz a0 ≤ 2000) (hN : NodeC R (.pointer xp) w) (hT : TriC R ls (.pointer xp) w)
    (hL : Sl w ao n 9 fun i => tcs (T i)) (hK : Sl w az K.length 1 (kvs K)) (hn0 : n0 ≤ n) (hn : n ≤ 1000) (h5 : K.length ≤ 1000) :
    Calls Tryz.prog 16 #[.pointer xp, .slice ao n c, .agg #[.float .f64 O.x, .float .f64 O.y, .float .f64 O.z, .float .f64 D.x, .float .f64 D.y, .float .f64 D.z], .float .f64 t, .slice az K.length cs] w fun e W' => e = .returned (.bool (anyN (metK T K O D) n0 t)) ∧ Cl w W' := by
  have hmx : Tryz.prog.follows .mixedOrders = true := by kernel_rfl
  have HC := aside hC
  have HK5 := aside h5
  have HN := hid hN
  have HT := hid hT
  have HL := hid hL
  have HK := hid hK
  clear hC hN hT hL hK
  refine (callsIn_wide (n := 0)).1 (callsIn_of_wp_marks Tryz.func16 rfl trivial ?_ rfl)
  simp only [Tryz.ntmps16, List.size_toArray, List.length_cons, List.length_nil, Nat.reduceAdd, Nat.reduceSub, Array.replicate_succ, Array.replicate_zero, List.push_toArray, List.append_toArray, List.nil_append, List.cons_append]
  refine wpIn_wide.2 ?_
  go_wp2_with fail
  refine Lp.settleC (fun w' => Lp.Bk w' w.heap.size #[.float .f64 O.x, .float .f64 O.y, .float .f64 O.z, .float .f64 D.x, .float .f64 D.y, .float .f64 D.z] 27 ∧ Lp.Bk w' (w.heap.size + 1) #[.float .f64 t] 23 ∧ Lp.Bk w' (w.heap.size + 1 + 1) #[.bool false] 4 ∧ Cl w w') ⟨((Lp.Bk.al _ _ _).alo _).alo _, (Lp.Bk.al1 _ _ _ _).alo _, Lp.Bk.al2 _ _ _ _ _, (((Below.refl _ _).alloc (Nat.le_refl _) _).alloc (by simp) _).alloc (by simp <;> omega) _⟩ ?_
  rintro v1 ⟨BY, BT, BR, HB⟩
  refine Calls.mono (asker_b O D n c K.length cs ao az _) ?_
  rintro e v2 ⟨_, rfl, ⟨gl, gs, gr, rfl, hA, hgl⟩, hm⟩
  have hw1 : w.heap.size + 1 + 1 < v1.heap.size := BR.lt
  replace BY := BY.keep hm
  replace BT := BT.keep hm
  replace BR := BR.keep hm
  replace HB := HB.call hm
  have hv12 : v1.heap.size ≤ v2.heap.size := hm.size
  clear hm
  have kY := BY.cell
  have eY : (w.heap.size = v2.heap.size) = False := eq_false (by have := BY.lt; omega)
  have lY := BY.lt
  unfold askV
  go_wp2_with fail
  refine Lp.settleC (fun w' => AskB w' gl gs gr ao n c az K.length cs O D ∧ Lp.Bk w' v2.heap.size #[.func (.func 42) #[] #[.pointer (some ⟨gl, 0, none⟩), .pointer (some ⟨gs, 0, none⟩), .pointer (some ⟨gr, 0, none⟩)]] 63 ∧ Lp.Bk w' (w.heap.size + 1) #[.float .f64 t] 23 ∧ Lp.Bk w' (w.heap.size + 1 + 1) #[.bool false] 4 ∧ Cl w w') ⟨hA.keep ((Below.refl _ _).alloc (Nat.le_refl _) _), Lp.Bk.al _ _ _, BT.alo _, BR.alo _, HB.alloc _⟩ ?_
  have HNE := aside (And.intro hgl (And.intro hw1 (And.intro hv12 (And.intro hA.l.lt (And.intro hA.s.lt hA.r.lt)))))
  clear kY eY lY hA hgl BY BT BR HB hw1 hv12
  rintro V ⟨hA, BF, BT, BR, HB⟩
  generalize hb6 : v2.heap.size = b6 at *
  refine Calls.mono (candidates_any xp (.func 33) #[] #[.pointer (some ⟨w.heap.size + 1, 0, none⟩)] O D _) ?_
  rintro e wL ⟨g1, g2, g3, rfl, hE2, hge, hm⟩
  have HA := hid (hA.keep hm)
  have HBF := hid (BF.keep hm)
  have HBT := hid (BT.keep hm)
  have HBR := hid (BR.keep hm)
  have HE2 := hid hE2
  have HGE := aside (And.intro hge (And.intro BF.lt hm.size))
  replace HB := hid (HB.call hm)
  clear hA BF BT BR hE2 hge hm hb6
  unfold canV
  go_wp2_with fail
  refine range_wp (gf := 58) (lb := #[.pointer (some ⟨g1, 0, none⟩), .pointer (some ⟨g2, 0, none⟩), .pointer (some ⟨g3, 0, none⟩)]) rfl (enters_of Tryz.func58 (by kernel_rfl) rfl) (fun W => anyN (metK T K O D) n0 t = false ∧ Lp.Bk W (w.heap.size + 1 + 1) #[.bool false] 4 ∧ Cl w W) (fun c W => c = .ret ∧ anyN (metK T K O D) n0 t = true ∧ Lp.Bk W (w.heap.size + 1 + 1) #[.bool true] 4 ∧ Cl w W) ?hI ?hIx ?hcall ?hdone ?hstop
  case hI =>
    rintro W o ⟨h1, h2, h3⟩
    have hge := HGE.out
    have hne := HNE.out
    have hsz1 := HB.out.size
    exact ⟨h1, (World.putObj_heap_other (by omega)).trans h2, below_put h3 (by omega) o⟩
  case hIx =>
    rintro c W o ⟨h0, h1, h2, h3⟩
    have hge := HGE.out
    have hne := HNE.out
    have hsz1 := HB.out.size
    exact ⟨h0, h1, (World.putObj_heap_other (by omega)).trans h2, below_put h3 (by omega) o⟩
  case hstop =>
    rintro c W ⟨rfl, h1, h2, h3⟩ hK
    have hge := HGE.out
    have hne := HNE.out
    have HF := aside h1
    clear h1
    go_wp2_with fail
    refine ⟨by simp, .inl ⟨_, _, rfl, run_takeDeferred hK, ?_⟩⟩
    have hR3 : Lp.Bk (W.putObj wL.heap.size (.deferred none)) (w.heap.size + 1 + 1) #[.bool true] 4 := (World.putObj_heap_other (show w.heap.size + 1 + 1 ≠ wL.heap.size by omega)).trans h2
    have k3 := hR3.cell
    exact ⟨.bool true, by simp [results, go_sem, k3], by rw [HF.out], below_put h3 (by have := HB.out.size; omega) _⟩
  case hdone =>
    rintro W ⟨h1, h2, h3⟩ hK
    have hge := HGE.out
    have hne := HNE.out
    have HF := aside h1
    have kR := h2.cell
    have zR := h2.frz
    clear h1
    go_wp2_with fail
    have hR2 := h2.set 0 (.bool false)
    have hK2 : (W.setCell ⟨w.heap.size + 1 + 1, 0, none⟩ (.bool false)).heap[wL.heap.size]? = some (.deferred (some [])) := (Below.heap_setCell _ _ _ _ (by dsimp only; omega)).trans hK
    refine ⟨by simp, .inl ⟨_, _, rfl, run_takeDeferred hK2, ?_⟩⟩
    have hR3 : Lp.Bk ((W.setCell ⟨w.heap.size + 1 + 1, 0, none⟩ (.bool false)).putObj wL.heap.size (.deferred none)) (w.heap.size + 1 + 1) #[.bool false] 4 := (World.putObj_heap_other (show w.heap.size + 1 + 1 ≠ wL.heap.size by omega)).trans hR2
    have k3 := hR3.cell
    exact ⟨.bool false, by simp [results, go_sem, k3], by rw [HF.out], below_put (Below.setCell h3 (by dsimp only; omega) _) (by have := HB.out.size; omega) _⟩
  case hcall =>
    intro fn rec W1 hrec hC1 hS1 hl1 hd1
    have HREC := aside hrec
    clear hrec
    have HQ1 := aside (And.intro HGE.out HNE.out)
    refine Calls.mono (candidates1_any R ls O D xp 33 #[.pointer (some ⟨w.heap.size + 1, 0, none⟩)] (wL.heap.size + 1) (fun k => k = w.heap.size + 1 + 1 ∨ k = wL.heap.size + 1) w
      (fun s q W => Free (metK T K O D) n0 t (q ++ s.flatMap lst) ∧ (∀ i, i ∈ q → i < n0) ∧ AskB W gl gs gr ao n c az K.length cs O D ∧ Lp.Bk W b6 #[.func (.func 42) #[] #[.pointer (some ⟨gl, 0, none⟩), .pointer (some ⟨gs, 0, none⟩), .pointer (some ⟨gr, 0, none⟩)]] 63 ∧ Lp.Bk W (w.heap.size + 1) #[.float .f64 t] 23 ∧ Lp.Bk W (w.heap.size + 1 + 1) #[.bool false] 4 ∧ Cl w W ∧ W.heap[wL.heap.size + 1]? = some (.loop (rec .ready none)) ∧ W.heap[wL.heap.size]? = some (.deferred (some [])) ∧ W1.heap.size ≤ W.heap.size)
      (fun W => anyN (metK T K O D) n0 t = true ∧ Lp.Bk W (w.heap.size + 1 + 1) #[.bool true] 4 ∧ Cl w W ∧ W.heap[wL.heap.size + 1]? = some (.loop (rec .done (some .ret))) ∧ W.heap[wL.heap.size]? = some (.deferred (some []))) a0 g1 g2 g3 W1 hk0 hsz (HE2.out.keep hC1) ?_ ?_ (enters_of Tryz.func33 (by kernel_rfl) rfl) HN.out HC.out.hi HT.out ?_ ?_ ?_ ?_ ?_ ?_ ?_ ?_) ?_
    · have hq := HQ1.out
      have l1 := HE2.out.x.lt
      have l2 := HE2.out.r.lt
      have l3 := HE2.out.g.lt
      refine ⟨fun h => ?_, fun h => ?_, fun h => ?_⟩ <;> omega
    · have hq := HQ1.out
      rintro k (h | h) <;> omega
    · rintro s q W ⟨_, _, _, _, _, _, h, _⟩
      exact h
    · rintro s q W W' ⟨h2, hlt, h4, h5, h6, h6', h7, h8, h9, h10⟩ hb
      have hq := HQ1.out
      have hs := HB.out.size
      exact ⟨h2, hlt, h4.low hb (by omega), (hb.block _ (by omega)).trans h5, (hb.block _ (by omega)).trans h6, (hb.block _ (by omega)).trans h6', h7.trans (hb.mono (by omega)), (hb.block _ (by omega)).trans h8, (hb.block _ (by omega)).trans h9, Nat.le_trans h10 hb.size⟩
    · rintro W W' ⟨h1, h2, h3, h4, h5⟩ hb
      have hq := HQ1.out
      have hs := HB.out.size
      exact ⟨h1, (hb.block _ (by omega)).trans h2, h3.trans (hb.mono (by omega)), (hb.block _ (by omega)).trans h4, (hb.block _ (by omega)).trans h5⟩
    · rintro a s W ⟨h2, hr⟩ hq
      refine ⟨fun i hi => ?_, hr⟩
      rcases h2 i hi with h | h
      · rw [List.flatMap_cons, List.nil_append] at h
        rcases List.mem_append.1 h with h | h
        · refine .inr ?_
          cases hth : R.th a with
          | false => rw [HC.out.off a hth] at h; cases h
          | true =>
            have hg := hq.resolve_left (by rw [hth]; decide)
            rw [HC.out.box a hth] at hg
            unfold metK
            rw [box_none HC.out.mo h hg]
            split <;> rfl
        · exact .inl h
      · exact .inr h
    · rintro a s W z ⟨h2, hlt, h4, h5, h6, hr⟩ hz
      refine ⟨ltC z.1 t, any1_any z.1 t (w.heap.size + 1) W h6, fun hw => ⟨fun i hi => ?_, hlt, h4, h5, h6, hr⟩⟩
      rcases h2 i hi with h | h
      · rw [List.flatMap_cons, List.nil_append] at h
        rcases List.mem_append.1 h with h | h
        · refine .inr ?_
          cases hth : R.th a with
          | false => rw [HC.out.off a hth] at h; cases h
          | true =>
            rw [HC.out.box a hth] at hz
            unfold metK
            split
            · rfl
            · exact box_blk HC.out.mo h hz hw
        · exact .inl h
      · exact .inr h
    · rintro a s W z ⟨h2, _, hr⟩ hth hz
      refine ⟨fun i hi => (h2 i hi).imp (fun h => ?_) id, HC.out.lt a, hr⟩
      rw [List.flatMap_cons, List.nil_append] at h
      rw [List.flatMap_append, List.mem_append, List.mem_append]
      rcases List.mem_append.1 h with h | h
      · rcases HC.out.nx a i hth h with ⟨b', hb1, hb2⟩ | h
        · exact .inr (.inl (List.mem_flatMap.2 ⟨b', hb1, hb2⟩))
        · exact .inl h
      · exact .inr (.inr h)
    · rintro i s q W ⟨h2, hlt, h4, h5, h6, h6', h7, h8, h9, h10⟩
      have hi0 : i < n0 := hlt i (List.mem_cons_self ..)
      have hin : i < n := by omega
      have HRD := hid h8
      have hlR := (Array.getElem?_eq_some_iff.1 h8).1
      obtain ⟨v1, hv1⟩ : ∃ v1, v1 = W.putObj (wL.heap.size + 1) (.loop (rec .busy none)) := ⟨_, rfl⟩
      have hq1 := HQ1.out
      have hsz1 := HB.out.size
      have hp1 : Below (wL.heap.size + 1) W v1 := by rw [hv1]; exact below_put (Below.refl _ _) (Nat.le_refl _) _
      have hr1 : v1.heap[wL.heap.size + 1]? = some (.loop (rec .busy none)) := by rw [hv1]; exact World.putObj_heap_same hlR
      have hk1 : Kept (fun k => k = w.heap.size + 1 + 1 ∨ k = wL.heap.size + 1) W v1 := by rw [hv1]; exact (Kept.refl W).put (.inr rfl) _
      have hA1 := h4.low hp1 (by omega)
      have hf1 : Lp.Bk v1 b6 #[.func (.func 42) #[] #[.pointer (some ⟨gl, 0, none⟩), .pointer (some ⟨gs, 0, none⟩), .pointer (some ⟨gr, 0, none⟩)]] 63 := (hp1.block b6 (by omega)).trans h5
      have ht1 : Lp.Bk v1 (w.heap.size + 1) #[.float .f64 t] 23 := (hp1.block _ (by omega)).trans h6
      have hR1 : Lp.Bk v1 (w.heap.size + 1 + 1) #[.bool false] 4 := (hp1.block _ (by omega)).trans h6'
      have x1 : ¬ (gl = w.heap.size + 1 + 1 ∨ gl = wL.heap.size + 1) := by omega
      have x2 : ¬ (gs = w.heap.size + 1 + 1 ∨ gs = wL.heap.size + 1) := by omega
      have x3 : ¬ (gr = w.heap.size + 1 + 1 ∨ gr = wL.heap.size + 1) := by omega
      have x4 : ¬ (b6 = w.heap.size + 1 + 1 ∨ b6 = wL.heap.size + 1) := by omega
      have x5 : ¬ (w.heap.size + 1 = w.heap.size + 1 + 1 ∨ w.heap.size + 1 = wL.heap.size + 1) := by omega
      have x6 : ∀ k, (k = w.heap.size + 1 + 1 ∨ k = wL.heap.size + 1) → w.heap.size ≤ k := by rintro k (h | h) <;> omega
      have x7 : ¬ (wL.heap.size = w.heap.size + 1 + 1 ∨ wL.heap.size = wL.heap.size + 1) := by omega
      have x8 : w.heap.size + 1 + 1 ≠ wL.heap.size + 1 := by omega
      have x9 : wL.heap.size < W.heap.size := by omega
      have hC1' := hk1.cl h7 x6
      have hAR := hA1.asks hC1' HL.out HK.out
      have HASK := hid (fun w' (hw : Below v1.heap.size v1 w') => ask1_any T K O D n i gl gs gr w' (hAR.keep hw) hin hn HK5.out)
      have HBLK := hid (fun w' => show Ret Tryz.prog 25 #[hitN (askN (metK T K O D) i), .float .f64 t] w' (fun v => v = .bool (blkB t (metK T K O D i))) from blocks_any (metK T K O D i) i t w')
      generalize hitN (askN (metK T K O D) i) = va at HASK HBLK
      have HTT := hid ht1
      have HFF := hid hf1
      have HRR := hid hR1
      have kF := hf1.cell
      have kT := ht1.cell
      have kR := hR1.cell
      have zR := hR1.frz
      cases hb : blkB t (metK T K O D i) with
      | false =>
        obtain ⟨G, hG⟩ : ∃ G : World → Prop, G = fun W' => Kept (fun k => k = w.heap.size + 1 + 1 ∨ k = wL.heap.size + 1) W W' ∧ (Free (metK T K O D) n0 t (q ++ s.flatMap lst) ∧ (∀ i, i ∈ q → i < n0) ∧ AskB W' gl gs gr ao n c az K.length cs O D ∧ Lp.Bk W' b6 #[.func (.func 42) #[] #[.pointer (some ⟨gl, 0, none⟩), .pointer (some ⟨gs, 0, none⟩), .pointer (some ⟨gr, 0, none⟩)]] 63 ∧ Lp.Bk W' (w.heap.size + 1) #[.float .f64 t] 23 ∧ Lp.Bk W' (w.heap.size + 1 + 1) #[.bool false] 4 ∧ Cl w W' ∧ W'.heap[wL.heap.size + 1]? = some (.loop (rec .ready none)) ∧ W'.heap[wL.heap.size]? = some (.deferred (some [])) ∧ W1.heap.size ≤ W'.heap.size) := ⟨_, rfl⟩
        refine yield_mono (R := fun e W' => e = .returned (.bool true) ∧ G W') ?_ (by rintro e w' ⟨rfl, hg⟩; rw [hG] at hg; exact ⟨true, rfl, hg.1, hg.2⟩)
        have HFIN := hid (fun w6 (hm6 : Cl v1 w6) => show w6.heap[wL.heap.size + 1]? = some (.loop (rec .busy none)) ∧ G (w6.putObj (wL.heap.size + 1) (.loop (rec .ready none))) from by
          have hr6 : w6.heap[wL.heap.size + 1]? = some (.loop (rec .busy none)) := (hm6.block _ (Array.getElem?_eq_some_iff.1 hr1).1).trans hr1
          have KZ := (hk1.trans (Kept.of hm6)).put (r := wL.heap.size + 1) (.inr rfl) (.loop (rec .ready none))
          rw [hG]
          refine ⟨hr6, KZ, fun j hj => ?_, fun j hj => hlt j (List.mem_cons_of_mem _ hj), h4.kept KZ ⟨x1, x2, x3⟩, KZ.bk h5 x4, KZ.bk h6 x5, (World.putObj_heap_other x8).trans (HRR.out.keep hm6), KZ.cl h7 x6, World.putObj_heap_same (Array.getElem?_eq_some_iff.1 hr6).1, (KZ.block _ x9 x7).trans h9, Nat.le_trans h10 KZ.size⟩
          rcases h2 j hj with h | h
          · rcases List.mem_cons.1 h with rfl | h
            · exact .inr hb
            · exact .inl h
          · exact .inr h)
        refine round_at rfl HREC.out h8 ?_
        rw [hb] at HBLK
        clear h2 hlt h4 h5 h6 h6' h7 h8 h9 h10 hp1 hr1 hk1 hA1 hf1 ht1 hR1 hC1' hAR hq1 hlR hi0 x1 x2 x3 x4 x5 x6 x7 x8 x9 hb hG kR zR hsz1
        gi_wp2
        refine ⟨HRD.out, ?_⟩
        rw [← hv1]
        clear hv1
        gi_wp2
        gi_region_with_o (first
          | (refine ⟨trivial, rfl, ?_⟩; gi_at_call 42; refine (CallsIn.inRound (wL.heap.size + 1) ((callsIn_wide (n := 0)).2 (HASK.out _ (Fl.Cl.drew' (Below.refl _ _))))).mono ?_; rintro e w5 ⟨v, rfl, rfl, hm⟩; have hm' : Cl v1 w5 := (Fl.Cl.drew' (Below.refl _ _)).call hm; have HM5 := hid hm'; have kT5 := (HTT.out.keep hm').cell; clear hm hm')
          | (refine ⟨trivial, rfl, ?_⟩; gi_at_call 25; refine (CallsIn.inRound (wL.heap.size + 1) ((callsIn_wide (n := 0)).2 (HBLK.out _))).mono ?_; rintro e w6 ⟨v, rfl, rfl, hm⟩; have HM6 := hid (Fl.Cl.call HM5.out hm); clear hm))
        all_goals
          gi_wp2
          exact And.intro (HFIN.out w6 HM6.out).1 (And.intro rfl (HFIN.out w6 HM6.out).2)
      | true =>
        obtain ⟨G, hG⟩ : ∃ G : World → Prop, G = fun W' => Kept (fun k => k = w.heap.size + 1 + 1 ∨ k = wL.heap.size + 1) W W' ∧ (anyN (metK T K O D) n0 t = true ∧ Lp.Bk W' (w.heap.size + 1 + 1) #[.bool true] 4 ∧ Cl w W' ∧ W'.heap[wL.heap.size + 1]? = some (.loop (rec .done (some .ret))) ∧ W'.heap[wL.heap.size]? = some (.deferred (some []))) := ⟨_, rfl⟩
        refine yield_mono (R := fun e W' => e = .returned (.bool false) ∧ G W') ?_ (by rintro e w' ⟨rfl, hg⟩; rw [hG] at hg; exact ⟨false, rfl, hg.1, hg.2⟩)
        have HFIN := hid (fun w6 (hm6 : Cl v1 w6) => show (w6.setCell ⟨w.heap.size + 1 + 1, 0, none⟩ (.bool true)).heap[wL.heap.size + 1]? = some (.loop (rec .busy none)) ∧ G ((w6.setCell ⟨w.heap.size + 1 + 1, 0, none⟩ (.bool true)).putObj (wL.heap.size + 1) (.loop (rec .done (some .ret)))) from by
          have hr6 : (w6.setCell ⟨w.heap.size + 1 + 1, 0, none⟩ (.bool true)).heap[wL.heap.size + 1]? = some (.loop (rec .busy none)) := (Below.heap_setCell _ _ _ _ x8.symm).trans ((hm6.block _ (Array.getElem?_eq_some_iff.1 hr1).1).trans hr1)
          have KZ := ((hk1.trans (Kept.of hm6)).set (b := w.heap.size + 1 + 1) (i := 0) (.inl rfl) (.bool true)).put (r := wL.heap.size + 1) (.inr rfl) (.loop (rec .done (some .ret)))
          rw [hG]
          exact ⟨hr6, KZ, any_some _ _ hi0 hb, (World.putObj_heap_other x8).trans ((HRR.out.keep hm6).set 0 _), KZ.cl h7 x6, World.putObj_heap_same (Array.getElem?_eq_some_iff.1 hr6).1, (KZ.block _ x9 x7).trans h9⟩)
        refine round_at rfl HREC.out h8 ?_
        rw [hb] at HBLK
        clear h2 hlt h4 h5 h6 h6' h7 h8 h9 h10 hp1 hr1 hk1 hA1 hf1 ht1 hR1 hC1' hAR hq1 hlR hi0 x1 x2 x3 x4 x5 x6 x7 x8 x9 hb hG kR zR hsz1
        gi_wp2
        refine ⟨HRD.out, ?_⟩
        rw [← hv1]
        clear hv1
        gi_wp2
        gi_region_with_o (first
          | (refine ⟨trivial, rfl, ?_⟩; gi_at_call 42; refine (CallsIn.inRound (wL.heap.size + 1) ((callsIn_wide (n := 0)).2 (HASK.out _ (Fl.Cl.drew' (Below.refl _ _))))).mono ?_; rintro e w5 ⟨v, rfl, rfl, hm⟩; have hm' : Cl v1 w5 := (Fl.Cl.drew' (Below.refl _ _)).call hm; have HM5 := hid hm'; have kT5 := (HTT.out.keep hm').cell; clear hm hm')
          | (refine ⟨trivial, rfl, ?_⟩; gi_at_call 25; refine (CallsIn.inRound (wL.heap.size + 1) ((callsIn_wide (n := 0)).2 (HBLK.out _))).mono ?_; rintro e w6 ⟨v, rfl, rfl, hm⟩; have HM6 := hid (Fl.Cl.call HM5.out hm); have kR6 := (HRR.out.keep HM6.out).cell; have zR6 := (HRR.out.keep HM6.out).frz; clear hm))
        all_goals
          gi_wp2
          exact And.intro (HFIN.out w6 HM6.out).1 (And.intro rfl (HFIN.out w6 HM6.out).2)
    · refine ⟨fun i hi => .inl ?_, fun i hi => (by cases hi), HA.out.keep hC1, HBF.out.keep hC1, HBT.out.keep hC1, HBR.out.keep hC1, HB.out.call hC1, hl1, hd1, Nat.le_refl _⟩
      simpa using HC.out.all i hi
    · rintro e W2 ⟨hv, ⟨h2, _, h4, h5, h6, h6', h7, h8, h9, h10⟩ | ⟨h1, h2, h3, h4, h5⟩⟩
      · exact ⟨hv, .inl ⟨⟨Free.no _ _ (by simpa using h2), h6', h7⟩, h8, h9⟩⟩
      · exact ⟨hv, .inr ⟨.ret, ⟨rfl, h1, h2, h3⟩, h4, h5⟩⟩
end Go.Proofs.YtiblmojdjnfoaaaGreat

namespace Go.Proofs.YtiblmojdjnfoaaaGreat
open Go.RowKit Fl Lm

/-- A node that is no leaf stands ahead of its parts. -/
def WfD (D : List Nd) : Prop := ∀ (i : Nat) (x : Nd), D[i]? = some x → x.right = 0 ∨ (i < x.left ∧ x.left < D.length ∧ i < x.right ∧ x.right < D.length)
def depF (D : List Nd) : Nat → Nat → Nat
  | 0, _ => 0
  | m + 1, i => if (D.getD i nd0).right = 0 then 1 else 1 + max (depF D m (D.getD i nd0).left) (depF D m (D.getD i nd0).right)
theorem dep_in {D : List Nd} (hW : WfD D) : ∀ (m i : Nat), i < D.length → D.length - i ≤ m → 1 ≤ depF D m i ∧ depF D m i ≤ D.length - i
  | 0, i, hi, hm => by omega
  | m + 1, i, hi, hm => by
    unfold depF
    split
    · omega
    · rename_i hr
      have hw := hW i (D.getD i nd0) (by rw [List.getD_eq_getElem?_getD, List.getElem?_eq_getElem hi]; rfl)
      generalize D.getD i nd0 = x at *
      rcases hw with h | ⟨h1, h2, h3, h4⟩
      · exact absurd h hr
      · have a := dep_in hW m x.left h2 (by omega)
        have b := dep_in hW m x.right h4 (by omega)
        omega

end Go.Proofs.YtiblmojdjnfoaaaGreat

namespace Go.Proofs.YtiblmojdjnfoaaaGreat
open Go.RowKit Fl Lm

end Go.Proofs.YtiblmojdjnfoaaaGreat

namespace Go.Proofs.YtiblmojdjnfoaaaGreat
open Go.RowKit Fl Lm

section
variable (S : Parts)
theorem nd_wf (l : List Nat) : ∀ (k p j : Nat) (x : Nd), (ndL S k p l)[j]? = some x → (x.left = 0 ∧ x.right = 0) ∨ (x.left = k + j + 1 ∧ x.left < x.right ∧ x.right < k + szL S l) := by
  refine by_parts S (C := fun l => ∀ (k p j : Nat) (x : Nd), (ndL S k p l)[j]? = some x → (x.left = 0 ∧ x.right = 0) ∨ (x.left = k + j + 1 ∧ x.left < x.right ∧ x.right < k + szL S l)) (fun l h k p j x hx => ?_) (fun l h h1 h2 k p j x hx => ?_) l
  · rw [nd_leaf S k p h] at hx
    cases j with
    | zero => injection hx with hx; subst hx; exact .inl ⟨rfl, rfl⟩
    | succ j => cases hx
  · rw [nd_node S k p h] at hx
    have hs := sz_node S h
    have hp1 := sz_pos S (S.part l).1
    have hp2 := sz_pos S (S.part l).2
    cases j with
    | zero =>
      rw [List.getElem?_cons_zero] at hx
      injection hx with hx
      subst hx
      refine .inr ⟨rfl, ?_, ?_⟩
      · show k + 1 < k + 1 + szL S (S.part l).1
        omega
      · show k + 1 + szL S (S.part l).1 < k + szL S l
        omega
    | succ j =>
      rw [List.getElem?_cons_succ] at hx
      by_cases hj : j < szL S (S.part l).1
      · rw [List.getElem?_append_left (by rw [nd_len]; exact hj)] at hx
        rcases h1 _ _ _ _ hx with h | ⟨a, b, c⟩
        · exact .inl h
        · exact .inr ⟨by omega, b, by omega⟩
      · rw [List.getElem?_append_right (by rw [nd_len]; omega), nd_len] at hx
        rcases h2 _ _ _ _ hx with h | ⟨a, b, c⟩
        · exact .inl h
        · exact .inr ⟨by omega, b, by omega⟩
theorem nd_wfD (l : List Nat) : WfD (ndL S 0 0 l) := by
  intro i x hx
  rw [nd_len]
  rcases nd_wf S l 0 0 i x hx with ⟨_, h⟩ | ⟨a, b, c⟩
  · exact .inl h
  · exact .inr ⟨by omega, by omega, by omega, by omega⟩
end
def f5 (i : Nat) : Nat := [0, 4607182418800017408, 4611686018427387904, 4613937818241073152, 4616189618054758400, 4617315517961601024].getD i 0
def T5 (i : Nat) : Tr := if i < 5 then ⟨f5 i, 0, 0, f5 (i + 1), 0, 0, f5 i, 4607182418800017408, 0⟩ else ⟨0, 0, 0, 0, 0, 0, 0, 0, 0⟩
theorem t5_med : medT T5 (List.range 5) = [0, 1, 2, 3, 4] := by decide +kernel
theorem t5_may (i : Nat) : (T5 i).mayB = true := by
  by_cases h : i < 5
  · have : ∀ i, i < 5 → (T5 i).mayB = true := by decide +kernel
    exact this i h
  · unfold T5
    rw [if_neg h]
    decide +kernel
theorem f5_int : ∀ j : Nat, j < 5 → floatOfInt .f64 (j : Int) = f5 j := by decide +kernel
theorem f5_add : ∀ j : Nat, j < 5 → fadd (f5 j) 4607182418800017408 = f5 (j + 1) := by decide +kernel
theorem f5_num : ∀ j : Nat, j < 5 → moB (f5 j) = true := by decide +kernel
theorem t5_is {j : Nat} (h : j < 5) : T5 j = ⟨f5 j, 0, 0, f5 (j + 1), 0, 0, f5 j, 4607182418800017408, 0⟩ := if_pos h
def D5 : List Nd := ndL (treeT T5 false) 0 0 (List.range 5)
def O5 : List Nat := orL (treeT T5 false) (List.range 5)
theorem part5 : (treeT T5 false).part (List.range 5) = ([0, 1], [2, 3, 4]) := by
  show partT T5 false (List.range 5) = _
  rw [part_med (.inl rfl), t5_med]
  rfl
theorem d5_is : D5 = [⟨bxs T5 (List.range 5), 1, 2, 0, 0⟩, leafOf (treeT T5 false) 0 [0, 1], leafOf (treeT T5 false) 2 [2, 3, 4]] := by
  unfold D5
  rw [nd_node _ _ _ (by decide), part5, nd_leaf _ _ _ (by decide), nd_leaf _ _ _ (by decide), sz_leaf _ (by decide)]
  rfl
theorem o5_is : O5 = [0, 1, 2, 3, 4] := by
  unfold O5
  rw [or_node _ (by decide), part5, or_leaf _ (by decide), or_leaf _ (by decide)]
  rfl
theorem info_tri : ∃ i, Tryz.prog.info? 60 = some i ∧ i.zero = some (.agg #[.float .f64 0, .float .f64 0, .float .f64 0, .float .f64 0, .float .f64 0, .float .f64 0, .float .f64 0, .float .f64 0, .float .f64 0]) ∧ i.size = 9 ∧ i.bytes = 72 := by
  have h : (Tryz.prog.info? 60).map (fun i => (i.zero, i.size, i.bytes)) = some (some (.agg #[.float .f64 0, .float .f64 0, .float .f64 0, .float .f64 0, .float .f64 0, .float .f64 0, .float .f64 0, .float .f64 0, .float .f64 0]), 9, 72) := by kernel_rfl
  obtain ⟨i, hi, hz⟩ := Option.map_eq_some_iff.1 h
  simp only [Prod.mk.injEq] at hz
  exact ⟨i, hi, hz⟩

theorem under_tris : Tryz.prog.underlying 22 = some (.slice 60) := by kernel_rfl

end Go.Proofs.YtiblmojdjnfoaaaGreat

namespace Go.Proofs.YtiblmojdjnfoaaaGreat
open Go.RowKit Fl Lm

theorem own_new (w : World) : (w.alloc (.cells #[] 3)).ownsRow 0 3 1 (.slice (some ⟨w.heap.size, 0, none⟩) 0 0) 0 [] := ⟨rfl, .inr ⟨w.heap.size, 0, #[], rfl, Nat.zero_le _, Lp.Bk.al w #[] 3, Nat.le_refl _, by decide, rfl, rfl⟩⟩
/-- x at its place. -/
theorem putIn_at {x : Nat} : ∀ (O : List Nat) (k : Nat), (∀ i, i < k → O.getD i 0 < x) → k ≤ O.length → (k = O.length ∨ ¬ O.getD k 0 < x) → putIn x O = O.take k ++ x :: O.drop k
  | [], k, h, hk, _ => by
    obtain rfl : k = 0 := by simpa using hk
    rfl
  | y :: O, 0, h, hk, hs => by
    unfold putIn
    rcases hs with e | e
    · simp at e
    · rw [if_neg (by simpa using e)]
      rfl
  | y :: O, k + 1, h, hk, hs => by
    unfold putIn
    have h0 := h 0 (Nat.succ_pos _)
    rw [if_pos (by simpa using h0), putIn_at O k (fun i hi => by have := h (i + 1) (by omega); simpa using this) (by simpa using hk) (hs.imp (fun e => by simpa using e) (fun e => by simpa using e))]
    rfl
theorem lvs_map (l : List Nat) : (l.map numV) = flat l.length (lvs l) := (flat_nums l).symm
theorem Own.of_row {N : Nat} {w : World} {v : Value} {L : List Nat} {n : Nat} (h : w.ownsRow 0 3 1 v n (L.map numV)) (hn : n = L.length) (hlo : ∀ g, v.ownBlock = some g → N ≤ g) : Own N w 3 1 v L.length (lvs L) := by
  subst hn
  rw [← flat_nums] at h
  exact ⟨h, hlo⟩
theorem Els.cut {w : World} {g off : Nat} {L : List Nat} (h : Els w g off L.length 1 (lvs L)) {k m : Nat} (hk : k + m ≤ L.length) : Els w g (off + k) ((L.drop k).take m).length 1 (lvs ((L.drop k).take m)) := by
  have hl : ((L.drop k).take m).length = m := by rw [List.length_take, List.length_drop]; omega
  rw [hl]
  have := (h.part (m := k) (l := m) hk).congr (e' := lvs ((L.drop k).take m)) fun i hi => by rw [lvs_take hi, lvs_drop]
  rwa [Nat.mul_one] at this

end Go.Proofs.YtiblmojdjnfoaaaGreat

namespace Go.Proofs.YtiblmojdjnfoaaaGreat
open Go.RowKit Fl Lm

theorem Els.first {w : World} {g off : Nat} {L : List Nat} (h : Els w g off L.length 1 (lvs L)) {m : Nat} (hm : m ≤ L.length) : Els w g off (L.take m).length 1 (lvs (L.take m)) := by
  rw [List.length_take, Nat.min_eq_left hm]
  exact (h.less hm).congr fun i hi => (lvs_take hi).symm
theorem Els.last {w : World} {g off : Nat} {L : List Nat} (h : Els w g off L.length 1 (lvs L)) {m : Nat} (hm : m ≤ L.length) : Els w g (off + m) (L.drop m).length 1 (lvs (L.drop m)) := by
  rw [List.length_drop]
  have := (h.part (m := m) (l := L.length - m) (by omega)).congr (e' := lvs (L.drop m)) fun i hi => (lvs_drop _ _ _).symm
  rwa [Nat.mul_one] at this

end Go.Proofs.YtiblmojdjnfoaaaGreat

namespace Go.Proofs.YtiblmojdjnfoaaaGreat.Fl
open Go.Proofs.YtiblmojdjnfoaaaGreat

section
variable (S : Parts)
/-- How many places are told behind some nodes. -/
def toldF : Nat → List Nd → Nat
  | p, [] => p
  | p, x :: L => toldF (if x.left = 0 then x.hi else p) L
theorem told_append : ∀ (L M : List Nd) (p : Nat), toldF p (L ++ M) = toldF (toldF p L) M
  | [], _, _ => rfl
  | _ :: L, M, _ => told_append L M _
theorem told_cons (x : Nd) (L : List Nd) (p : Nat) : toldF p (x :: L) = toldF (if x.left = 0 then x.hi else p) L := rfl
theorem told_all (l : List Nat) : ∀ k p, toldF p (ndL S k p l) = p + l.length := by
  refine by_parts S (C := fun l => ∀ k p, toldF p (ndL S k p l) = p + l.length) (fun l h k p => ?_) (fun l h h1 h2 k p => ?_) l
  · rw [nd_leaf S k p h]
    rfl
  · have hs := S.sum h
    rw [nd_node S k p h, told_cons, if_neg (show ¬ k + 1 = 0 by omega), told_append, h1, h2]
    omega
/-- What is so of the node at a place: l is the whole list, L its nodes. -/
def NdOk (k p : Nat) (l : List Nat) (L : List Nd) (j : Nat) (x : Nd) : Prop :=
  (x.left = 0 ∧ x.right = 0 ∧ x.lo = toldF p (L.take j) ∧ x.lo ≤ x.hi ∧ x.hi ≤ x.lo + 4 ∧ p ≤ x.lo ∧ x.hi ≤ p + l.length ∧ ∃ l', x.box = S.box l' ∧ x.hi = x.lo + l'.length ∧ l'.length ≤ 4 ∧ (∀ i, i ∈ l' → i ∈ l) ∧ ∀ q, q < l'.length → (orL S l)[x.lo - p + q]? = (riseF l')[q]?) ∨
  (x.left = k + j + 1 ∧ x.left < x.right ∧ x.right < k + szL S l ∧ x.lo = 0 ∧ x.hi = 0 ∧ ∃ l', 4 < l'.length ∧ x.box = S.box l' ∧ (∀ i, i ∈ l' → i ∈ l) ∧ (∃ y, L[x.left - k]? = some y ∧ y.box = S.box (S.part l').1) ∧ (∃ y, L[x.right - k]? = some y ∧ y.box = S.box (S.part l').2))
theorem or_len (l : List Nat) : (orL S l).length = l.length := (or_perm S l).length_eq
theorem nd_ok (l : List Nat) : ∀ (k p j : Nat) (x : Nd), (ndL S k p l)[j]? = some x → NdOk S k p l (ndL S k p l) j x := by
  refine by_parts S (C := fun l => ∀ (k p j : Nat) (x : Nd), (ndL S k p l)[j]? = some x → NdOk S k p l (ndL S k p l) j x) (fun l h k p j x hx => ?_) (fun l h h1 h2 k p j x hx => ?_) l
  · rw [nd_leaf S k p h] at hx ⊢
    cases j with
    | zero =>
      injection hx with hx
      subst hx
      refine .inl ⟨rfl, rfl, rfl, Nat.le_add_right _ _, ?_, Nat.le_refl _, Nat.le_refl _, l, rfl, rfl, h, fun i hi => hi, fun q hq => ?_⟩
      · show p + l.length ≤ p + 4
        omega
      · show (orL S l)[p - p + q]? = _
        rw [or_leaf S h, Nat.sub_self, Nat.zero_add]
    | succ j => cases hx
  · have hs := S.sum h
    have hp := S.perm l h
    have m1 : ∀ i, i ∈ (S.part l).1 → i ∈ l := fun i hi => hp.mem_iff.1 (List.mem_append_left _ hi)
    have m2 : ∀ i, i ∈ (S.part l).2 → i ∈ l := fun i hi => hp.mem_iff.1 (List.mem_append_right _ hi)
    have hz := sz_node S h
    have z1 := sz_pos S (S.part l).1
    have z2 := sz_pos S (S.part l).2
    rw [nd_node S k p h] at hx ⊢
    cases j with
    | zero =>
      rw [List.getElem?_cons_zero] at hx
      injection hx with hx
      subst hx
      refine .inr ⟨rfl, ?_, ?_, rfl, rfl, l, h, rfl, fun i hi => hi, ?_, ?_⟩
      · show k + 1 < k + 1 + szL S (S.part l).1
        omega
      · show k + 1 + szL S (S.part l).1 < k + szL S l
        omega
      · obtain ⟨y, t, e, hy⟩ := nd_head S (S.part l).1 (k + 1) p
        refine ⟨y, ?_, hy⟩
        show (_ :: _)[k + 1 - k]? = some y
        rw [show k + 1 - k = 0 + 1 by omega, List.getElem?_cons_succ, e]
        rfl
      · obtain ⟨y, t, e, hy⟩ := nd_head S (S.part l).2 (k + 1 + szL S (S.part l).1) (p + (S.part l).1.length)
        refine ⟨y, ?_, hy⟩
        show (_ :: _)[k + 1 + szL S (S.part l).1 - k]? = some y
        rw [show k + 1 + szL S (S.part l).1 - k = szL S (S.part l).1 + 1 by omega, List.getElem?_cons_succ, List.getElem?_append_right (by rw [nd_len]; exact Nat.le_refl _), nd_len, Nat.sub_self, e]
        rfl
    | succ j =>
      rw [List.getElem?_cons_succ] at hx
      have hkn : ¬ k + 1 = 0 := by omega
      by_cases hj : j < szL S (S.part l).1
      · rw [List.getElem?_append_left (by rw [nd_len]; exact hj)] at hx
        rcases h1 _ _ _ _ hx with ⟨a1, a2, a3, a4, a5, a6, a7, l', b1, b2, b3, b4, b5⟩ | ⟨a1, a2, a3, a4, a5, l', b1, b2, b3, ⟨y, c1, c2⟩, ⟨z, d1, d2⟩⟩
        · refine .inl ⟨a1, a2, ?_, a4, a5, a6, by omega, l', b1, b2, b3, fun i hi => m1 i (b4 i hi), fun q hq => ?_⟩
          · rw [List.take_succ_cons, told_cons, if_neg hkn, List.take_append_of_le_length (by rw [nd_len]; omega)]
            exact a3
          · rw [← b5 q hq, or_node S h, List.getElem?_append_left (by rw [or_len]; omega)]
        · refine .inr ⟨by omega, a2, by omega, a4, a5, l', b1, b2, fun i hi => m1 i (b3 i hi), ⟨y, ?_, c2⟩, ⟨z, ?_, d2⟩⟩
          · rw [show x.left - k = (x.left - (k + 1)) + 1 by omega, List.getElem?_cons_succ, List.getElem?_append_left (List.getElem?_eq_some_iff.1 c1).1]
            exact c1
          · rw [show x.right - k = (x.right - (k + 1)) + 1 by omega, List.getElem?_cons_succ, List.getElem?_append_left (List.getElem?_eq_some_iff.1 d1).1]
            exact d1
      · rw [List.getElem?_append_right (by rw [nd_len]; omega), nd_len] at hx
        rcases h2 _ _ _ _ hx with ⟨a1, a2, a3, a4, a5, a6, a7, l', b1, b2, b3, b4, b5⟩ | ⟨a1, a2, a3, a4, a5, l', b1, b2, b3, ⟨y, c1, c2⟩, ⟨z, d1, d2⟩⟩
        · refine .inl ⟨a1, a2, ?_, a4, a5, by omega, by omega, l', b1, b2, b3, fun i hi => m2 i (b4 i hi), fun q hq => ?_⟩
          · rw [List.take_succ_cons, told_cons, if_neg hkn, List.take_append, told_append, List.take_of_length_le (by rw [nd_len]; omega), told_all, nd_len]
            exact a3
          · rw [← b5 q hq, or_node S h, List.getElem?_append_right (by rw [or_len]; omega), or_len]
            congr 1
            omega
        · refine .inr ⟨by omega, a2, by omega, a4, a5, l', b1, b2, fun i hi => m2 i (b3 i hi), ⟨y, ?_, c2⟩, ⟨z, ?_, d2⟩⟩
          · rw [show x.left - k = (szL S (S.part l).1 + (x.left - (k + 1 + szL S (S.part l).1))) + 1 by omega, List.getElem?_cons_succ, List.getElem?_append_right (by rw [nd_len]; omega), nd_len, Nat.add_sub_cancel_left]
            exact c1
          · rw [show x.right - k = (szL S (S.part l).1 + (x.right - (k + 1 + szL S (S.part l).1))) + 1 by omega, List.getElem?_cons_succ, List.getElem?_append_right (by rw [nd_len]; omega), nd_len, Nat.add_sub_cancel_left]
            exact d1
theorem told_take (L : List Nd) (p j : Nat) (x : Nd) (h : L[j]? = some x) : toldF p (L.take (j + 1)) = if x.left = 0 then x.hi else toldF p (L.take j) := by
  rw [List.take_add_one, h, told_append]
  rfl
end
end Go.Proofs.YtiblmojdjnfoaaaGreat.Fl

namespace Go.Proofs.YtiblmojdjnfoaaaGreat.Fl
open Go.Proofs.YtiblmojdjnfoaaaGreat

section
variable (S : Parts)
/-- Node k of D is the first of list l's nodes; l's numbers stand from place p of O on. -/
def Sub (D : List Nd) (O : List Nat) (k p : Nat) (l : List Nat) : Prop := (∃ t, D.drop k = ndL S k p l ++ t) ∧ ∃ t, O.drop p = orL S l ++ t
section
variable {S} {D : List Nd} {O : List Nat} {k p : Nat} {l : List Nat}
theorem Sub.root (l : List Nat) : Sub S (ndL S 0 0 l) (orL S l) 0 0 l := ⟨⟨[], by simp⟩, ⟨[], by simp⟩⟩
theorem drop_cons {α : Type} {L M : List α} {k : Nat} {x : α} (h : L.drop k = x :: M) : L[k]? = some x ∧ L.drop (k + 1) = M := by
  refine ⟨?_, ?_⟩
  · have := congrArg (fun l : List α => l[0]?) h
    simpa using this
  · have := congrArg List.tail h
    simpa using this
theorem drop_app {α : Type} {L M t : List α} {k : Nat} (h : L.drop k = M ++ t) : L.drop (k + M.length) = t := by
  rw [← List.drop_drop, h, List.drop_left]
theorem Sub.leaf (h : Sub S D O k p l) (h4 : l.length ≤ 4) : D[k]? = some (leafOf S p l) ∧ ∀ q, q < l.length → O[p + q]? = (riseF l)[q]? := by
  obtain ⟨⟨t, h1⟩, ⟨u, h2⟩⟩ := h
  rw [nd_leaf S k p h4] at h1
  rw [or_leaf S h4] at h2
  refine ⟨(drop_cons h1).1, fun q hq => ?_⟩
  have := congrArg (fun l : List Nat => l[q]?) h2
  simp only [List.getElem?_drop] at this
  rw [this, List.getElem?_append_left (by rw [rise_len]; exact hq)]
theorem Sub.node (h : Sub S D O k p l) (h4 : 4 < l.length) : D[k]? = some ⟨S.box l, k + 1, k + 1 + szL S (S.part l).1, 0, 0⟩ ∧ Sub S D O (k + 1) p (S.part l).1 ∧ Sub S D O (k + 1 + szL S (S.part l).1) (p + (S.part l).1.length) (S.part l).2 := by
  obtain ⟨⟨t, h1⟩, ⟨u, h2⟩⟩ := h
  rw [nd_node S k p h4, List.cons_append, List.append_assoc] at h1
  rw [or_node S h4, List.append_assoc] at h2
  obtain ⟨h3, h5⟩ := drop_cons h1
  have h6 := drop_app h5
  rw [nd_len] at h6
  have h7 := drop_app h2
  rw [(or_perm S (S.part l).1).length_eq] at h7
  exact ⟨h3, ⟨⟨_, h5⟩, ⟨_, h2⟩⟩, ⟨⟨_, h6⟩, ⟨_, h7⟩⟩⟩
theorem Sub.head (h : Sub S D O k p l) : ∃ x, D[k]? = some x ∧ x.box = S.box l := by
  by_cases h4 : l.length ≤ 4
  · exact ⟨_, (h.leaf h4).1, rfl⟩
  · exact ⟨_, (h.node (by omega)).1, rfl⟩
theorem Sub.lt (h : Sub S D O k p l) : k < D.length := by
  obtain ⟨x, hx, _⟩ := h.head
  exact (List.getElem?_eq_some_iff.1 hx).1
end
end
end Go.Proofs.YtiblmojdjnfoaaaGreat.Fl

namespace Go.Proofs.YtiblmojdjnfoaaaGreat
open Go.RowKit Fl Lm Rg

section
variable (S : Parts) (n : Nat) (D : List Nd) (O : List Nat)
/-- A place in the tree. -/
abbrev Plc : Type := { x : Nat × Nat × List Nat // Sub S D O x.1 x.2.1 x.2.2 ∧ (∀ i, i ∈ x.2.2 → i < n) ∧ x.2.1 + x.2.2.length ≤ n }
variable {S n D O}
theorem Plc.one (a : Plc S n D O) (h : 4 < a.1.2.2.length) : Sub S D O (a.1.1 + 1) a.1.2.1 (S.part a.1.2.2).1 ∧ (∀ i, i ∈ (S.part a.1.2.2).1 → i < n) ∧ a.1.2.1 + (S.part a.1.2.2).1.length ≤ n := by
  obtain ⟨h1, h2, h3⟩ := a.2
  have hs := S.sum h
  exact ⟨(h1.node h).2.1, fun i hi => h2 i ((S.perm _ h).mem_iff.1 (List.mem_append_left _ hi)), by omega⟩
theorem Plc.two (a : Plc S n D O) (h : 4 < a.1.2.2.length) : Sub S D O (a.1.1 + 1 + szL S (S.part a.1.2.2).1) (a.1.2.1 + (S.part a.1.2.2).1.length) (S.part a.1.2.2).2 ∧ (∀ i, i ∈ (S.part a.1.2.2).2 → i < n) ∧ a.1.2.1 + (S.part a.1.2.2).1.length + (S.part a.1.2.2).2.length ≤ n := by
  obtain ⟨h1, h2, h3⟩ := a.2
  have hs := S.sum h
  exact ⟨(h1.node h).2.2, fun i hi => h2 i ((S.perm _ h).mem_iff.1 (List.mem_append_right _ hi)), by omega⟩
def Plc.nd (a : Plc S n D O) : Nd := D.getD a.1.1 nd0
theorem Plc.leaf (a : Plc S n D O) (h : a.1.2.2.length ≤ 4) : a.nd = leafOf S a.1.2.1 a.1.2.2 := by
  unfold Plc.nd
  rw [List.getD_eq_getElem?_getD, (a.2.1.leaf h).1]
  rfl
theorem Plc.node (a : Plc S n D O) (h : 4 < a.1.2.2.length) : a.nd = ⟨S.box a.1.2.2, a.1.1 + 1, a.1.1 + 1 + szL S (S.part a.1.2.2).1, 0, 0⟩ := by
  unfold Plc.nd
  rw [List.getD_eq_getElem?_getD, (a.2.1.node h).1]
  rfl
def Plc.next (a : Plc S n D O) : List (Plc S n D O) := if h : 4 < a.1.2.2.length then [⟨(a.1.1 + 1, a.1.2.1, (S.part a.1.2.2).1), a.one h⟩, ⟨(a.1.1 + 1 + szL S (S.part a.1.2.2).1, a.1.2.1 + (S.part a.1.2.2).1.length, (S.part a.1.2.2).2), a.two h⟩] else []
def Plc.ls (a : Plc S n D O) : List Nat := if 4 < a.1.2.2.length then [] else riseF a.1.2.2
def Plc.lst (a : Plc S n D O) : List Nat := a.1.2.2
def bvT : Tre (Plc S n D O) where
  nd := Plc.nd
  th := fun _ => true
  kk := fun a => a.1.1
  next := Plc.next
  sz := fun a => szL S a.1.2.2
  leaf := fun a _ hr => by
    unfold Plc.next
    by_cases h : 4 < a.1.2.2.length
    · rw [a.node h] at hr
      simp at hr
    · rw [dif_neg h]
  inn := fun a _ hr => by
    by_cases h : 4 < a.1.2.2.length
    · refine ⟨_, _, by unfold Plc.next; rw [dif_pos h], ?_, ?_, ?_⟩
      · rw [a.node h]
      · rw [a.node h]
      · have := sz_node S h
        show szL S (S.part a.1.2.2).1 + szL S (S.part a.1.2.2).2 < szL S a.1.2.2
        omega
    · rw [a.leaf (by omega)] at hr
      exact absurd rfl hr
  pos := fun a => sz_pos S a.1.2.2
end
section
variable (T : Nat → Tr) (sur : Bool) (n : Nat)
abbrev DT : List Nd := ndL (treeT T sur) 0 0 (List.range n)
abbrev OT : List Nat := orL (treeT T sur) (List.range n)
def rootT : Plc (treeT T sur) n (DT T sur n) (OT T sur n) := ⟨(0, 0, List.range n), Sub.root _, fun _ hi => List.mem_range.1 hi, by simp⟩
theorem root_sz (hn : n ≤ 500) : (bvT (S := treeT T sur) (n := n) (D := DT T sur n) (O := OT T sur n)).sz (rootT T sur n) ≤ 2000 := by
  have := sz_le (treeT T sur) (List.range n)
  show szL (treeT T sur) (List.range n) ≤ 2000
  rw [List.length_range] at this
  omega
theorem bvT_c (hT : ∀ i, (T i).Mo) (hn : n ≤ 500) : TreC (bvT (S := treeT T sur) (n := n) (D := DT T sur n) (O := OT T sur n)) Plc.ls Plc.lst T n (rootT T sur n) where
  mo := hT
  box := fun a _ => by
    show a.nd.box = bxs T a.1.2.2
    by_cases h : 4 < a.1.2.2.length
    · rw [a.node h]; rfl
    · rw [a.leaf (by omega)]; rfl
  off := fun a h => by cases h
  nx := fun a i _ hi => by
    have hi' : i ∈ a.1.2.2 := hi
    by_cases h : 4 < a.1.2.2.length
    · refine .inl ?_
      have e : (bvT (S := treeT T sur) (n := n) (D := DT T sur n) (O := OT T sur n)).next a = _ := dif_pos h
      rcases List.mem_append.1 ((Parts.perm _ _ h).mem_iff.2 hi') with q | q
      · exact ⟨_, by rw [e]; exact List.mem_cons_self .., q⟩
      · exact ⟨⟨(a.1.1 + 1 + szL (treeT T sur) ((treeT T sur).part a.1.2.2).1, a.1.2.1 + ((treeT T sur).part a.1.2.2).1.length, ((treeT T sur).part a.1.2.2).2), a.two h⟩, by rw [e]; exact List.mem_cons_of_mem _ (List.mem_cons_self ..), q⟩
    · refine .inr ?_
      unfold Plc.ls
      rw [if_neg h]
      exact (rise_perm _).mem_iff.2 hi'
  lt := fun a i hi => by
    unfold Plc.ls at hi
    split at hi
    · cases hi
    · exact a.2.2.1 i ((rise_perm _).mem_iff.1 hi)
  all := fun i hi => List.mem_range.2 hi
  hi := fun a _ => by
    have h3 := a.2.2.2
    show a.nd.hi = a.nd.lo + a.ls.length ∧ a.nd.hi ≤ 1000
    unfold Plc.ls
    by_cases h : 4 < a.1.2.2.length
    · rw [a.node h, if_pos h]; exact ⟨rfl, Nat.zero_le _⟩
    · rw [a.leaf (by omega), if_neg h, rise_len]
      exact ⟨rfl, by show a.1.2.1 + a.1.2.2.length ≤ 1000; omega⟩
theorem bvT_n {t : Nat} {w : World} (h : TreeR w t (DT T sur n) (OT T sur n)) : NodeC (bvT (S := treeT T sur) (n := n) (D := DT T sur n) (O := OT T sur n)) (.pointer (some ⟨t, 0, none⟩)) w := fun a W hW => by
  have hlt := a.2.1.lt
  have hno : ¬ outD (DT T sur n) ((a.1.1 : Nat) : Int) := by unfold outD; omega
  have e1 : ndAt (DT T sur n) ((a.1.1 : Nat) : Int) = a.nd := by unfold ndAt; rw [if_neg hno]; rfl
  have e2 : isAt (DT T sur n) ((a.1.1 : Nat) : Int) = true := by unfold isAt; rw [decide_eq_false hno]; rfl
  have := node_any t _ _ ((a.1.1 : Nat) : Int) W (h.keep hW)
  rw [e1, e2] at this
  exact this
theorem bvT_t {t : Nat} {w : World} (h : TreeR w t (DT T sur n) (OT T sur n)) : TriC (bvT (S := treeT T sur) (n := n) (D := DT T sur n) (O := OT T sur n)) Plc.ls (.pointer (some ⟨t, 0, none⟩)) w := fun a W q hW _ hq => by
  have hq' : q < a.ls.length := hq
  by_cases h4 : 4 < a.1.2.2.length
  · unfold Plc.ls at hq'
    rw [if_pos h4] at hq'
    exact absurd hq' (Nat.not_lt_zero _)
  · have hle : a.1.2.2.length ≤ 4 := by omega
    have els : a.ls = riseF a.1.2.2 := if_neg h4
    have elo : a.nd.lo = a.1.2.1 := by rw [a.leaf hle]; rfl
    rw [els, rise_len] at hq'
    have ho := (a.2.1.leaf hle).2 q hq'
    have hr : (riseF a.1.2.2)[q]? = some ((riseF a.1.2.2)[q]'(by rw [rise_len]; exact hq')) := List.getElem?_eq_getElem _
    rw [hr] at ho
    obtain ⟨hlt, hget⟩ := List.getElem?_eq_some_iff.1 ho
    have hc := tri_any t _ _ ((a.1.2.1 + q : Nat) : Int) W (h.keep hW)
    have e1 : (if (((a.1.2.1 + q : Nat) : Int) < 0 ∨ ((OT T sur n).length : Int) ≤ ((a.1.2.1 + q : Nat) : Int)) then (-1 : Int) else (((OT T sur n).getD ((a.1.2.1 + q : Nat) : Int).toNat 0 : Nat) : Int)) = ((a.ls.getD q 0 : Nat) : Int) := by
      rw [if_neg (by omega), els, Int.toNat_natCast, List.getD_eq_getElem?_getD, ho, List.getD_eq_getElem?_getD, hr]
    rw [e1] at hc
    show Calls Tryz.prog _ #[_, .int .i64 ((a.nd.lo + q : Nat) : Int)] W _
    rw [elo]
    exact hc
end
/-- No tree: its root is not there. -/
def noT : Tre Unit where
  nd := fun _ => nd0
  th := fun _ => false
  kk := fun _ => 0
  next := fun _ => []
  sz := fun _ => 1
  leaf := fun _ h => by cases h
  inn := fun _ h => by cases h
  pos := fun _ => Nat.one_pos
theorem noT_c : TreC noT (fun _ => []) (fun _ => []) (fun _ => ⟨0, 0, 0, 0, 0, 0, 0, 0, 0⟩) 0 () where
  mo := fun _ => Tr.may (by decide +kernel)
  box := fun _ h => by cases h
  off := fun _ _ => rfl
  nx := fun _ _ h => by cases h
  lt := fun _ _ h => by cases h
  all := fun _ h => by omega
  hi := fun _ h => by cases h
theorem noT_n (w : World) : NodeC noT (.pointer none) w := fun _ W _ => node_nil 0 W
theorem noT_t (w : World) : TriC noT (fun _ => []) (.pointer none) w := fun _ _ _ _ h => by cases h
end Go.Proofs.YtiblmojdjnfoaaaGreat

namespace Go.Proofs.YtiblmojdjnfoaaaGreat
open Go.RowKit Fl Lm

theorem tri_cells {t : Tr} {w : World} {g : Nat} (h : Lp.Bk w g #[.float .f64 t.t0, .float .f64 t.t1, .float .f64 t.t2, .float .f64 t.t3, .float .f64 t.t4, .float .f64 t.t5, .float .f64 t.t6, .float .f64 t.t7, .float .f64 t.t8] 25) {j : Nat} (hj : j < 3) : w.cell? ⟨g, j * 3, none⟩ = some (.float .f64 (cornerT t j).1) ∧ w.cell? ⟨g, j * 3 + 1, none⟩ = some (.float .f64 (cornerT t j).2.1) ∧ w.cell? ⟨g, j * 3 + 2, none⟩ = some (.float .f64 (cornerT t j).2.2) := by
  match j, hj with
  | 0, _ => exact ⟨h.cell 0, h.cell 1, h.cell 2⟩
  | 1, _ => exact ⟨h.cell 3, h.cell 4, h.cell 5⟩
  | 2, _ => exact ⟨h.cell 6, h.cell 7, h.cell 8⟩

set_option maxRecDepth 100000 in
set_option maxHeartbeats 1000000 in
theorem rmay_any (t : Tr) (w : World) : Ret Tryz.prog 26 #[txv t] w (fun v => v = .bool t.mayB) := by
  unfold Ret txv
  have HY := aside (may_all t)
  generalize hy : t.mayB = y at *
  clear hy
  go_enter Tryz.func26, Tryz.ntmps26
  go_wp2_with fail
  have hBB := Lp.Bk.al1 w (.cells #[.float .f64 t.t0, .float .f64 t.t1, .float .f64 t.t2, .float .f64 t.t3, .float .f64 t.t4, .float .f64 t.t5, .float .f64 t.t6, .float .f64 t.t7, .float .f64 t.t8] 60) #[.float .f64 t.t0, .float .f64 t.t1, .float .f64 t.t2, .float .f64 t.t3, .float .f64 t.t4, .float .f64 t.t5, .float .f64 t.t6, .float .f64 t.t7, .float .f64 t.t8] 25
  have hCC : Cl w ((w.alloc (.cells #[.float .f64 t.t0, .float .f64 t.t1, .float .f64 t.t2, .float .f64 t.t3, .float .f64 t.t4, .float .f64 t.t5, .float .f64 t.t6, .float .f64 t.t7, .float .f64 t.t8] 60)).alloc (.cells #[.float .f64 t.t0, .float .f64 t.t1, .float .f64 t.t2, .float .f64 t.t3, .float .f64 t.t4, .float .f64 t.t5, .float .f64 t.t6, .float .f64 t.t7, .float .f64 t.t8] 25)) := ((Below.refl _ _).alloc (Nat.le_refl _) _).alloc (by simp) _
  go_loopg [4] 3 (fun k i wr => ∃ j : Nat, k + j = 3 ∧ i = .int .i64 (j : Int) ∧ allB (fun j => okC (cornerT t j)) j = true ∧ Lp.Bk wr (w.heap.size + 1) #[.float .f64 t.t0, .float .f64 t.t1, .float .f64 t.t2, .float .f64 t.t3, .float .f64 t.t4, .float .f64 t.t5, .float .f64 t.t6, .float .f64 t.t7, .float .f64 t.t8] 25 ∧ Cl w wr)
  case atStart => exact ⟨0, rfl, rfl, rfl, hBB, hCC⟩
  case round =>
    clear hBB hCC
    obtain ⟨g0, hg0⟩ : ∃ g0, g0 = gk := ⟨_, rfl⟩
    subst hg0
    obtain ⟨j, hk, rfl, hA, BB, HB⟩ := hrel
    have HK := aside hk
    have HA := aside hA
    clear hk hA
    by_cases hj : j < 3
    · have hd : ((j : Int) < 3) = True := eq_true (by omega)
      have HAll := aside (show okC (cornerT t j) = false → allB (fun j => okC (cornerT t j)) 3 = false from fun h => allB_none h 3 hj)
      have HA2 := aside (show okC (cornerT t j) = true → allB (fun j => okC (cornerT t j)) (j + 1) = true from fun h => by show (allB _ j && okC (cornerT t j)) = true; rw [HA.out, h]; rfl)
      obtain ⟨k0, k1, k2⟩ := tri_cells BB hj
      generalize cornerT t j = c at *
      obtain ⟨x, y1, z⟩ := c
      dsimp only at k0 k1 k2
      have hjl := aside hj
      have hj5 : j < 512 := by omega
      clear hj HA
      have HBB := hid BB
      clear BB
      have hp : (FloatKind.f64.format.order x 13920626448202203136 == some .gt || FloatKind.f64.format.order x 13920626448202203136 == some .eq) = leB m20 x := geB_eq x m20
      have hp' : (FloatKind.f64.format.order x 4697254411347427328 == some .lt || FloatKind.f64.format.order x 4697254411347427328 == some .eq) = leB x maxW := rfl
      have hq : (FloatKind.f64.format.order y1 13920626448202203136 == some .gt || FloatKind.f64.format.order y1 13920626448202203136 == some .eq) = leB m20 y1 := geB_eq y1 m20
      have hq' : (FloatKind.f64.format.order y1 4697254411347427328 == some .lt || FloatKind.f64.format.order y1 4697254411347427328 == some .eq) = leB y1 maxW := rfl
      have hr : (FloatKind.f64.format.order z 13920626448202203136 == some .gt || FloatKind.f64.format.order z 13920626448202203136 == some .eq) = leB m20 z := geB_eq z m20
      have hr' : (FloatKind.f64.format.order z 4697254411347427328 == some .lt || FloatKind.f64.format.order z 4697254411347427328 == some .eq) = leB z maxW := rfl
      rw [show okC (x, y1, z) = (moB x && moB y1 && moB z) from rfl] at HAll HA2
      unfold moB at HAll HA2
      generalize leB m20 x = p at hp HAll HA2
      generalize leB x maxW = p' at hp' HAll HA2
      generalize leB m20 y1 = q at hq HAll HA2
      generalize leB y1 maxW = q' at hq' HAll HA2
      generalize leB m20 z = r at hr HAll HA2
      generalize leB z maxW = r' at hr' HAll HA2
      cases p
      · replace HAll := aside (HAll.out (by simp))
        clear HA2
        go_wp2_with fail
        go_ret
        exact ⟨_, rfl, by rw [HY.out, HAll.out]; rfl, HB⟩
      cases p'
      · replace HAll := aside (HAll.out (by simp))
        clear HA2
        go_wp2_with fail
        go_ret
        exact ⟨_, rfl, by rw [HY.out, HAll.out]; rfl, HB⟩
      cases q
      · replace HAll := aside (HAll.out (by simp))
        clear HA2
        go_wp2_with fail
        go_ret
        exact ⟨_, rfl, by rw [HY.out, HAll.out]; rfl, HB⟩
      cases q'
      · replace HAll := aside (HAll.out (by simp))
        clear HA2
        go_wp2_with fail
        go_ret
        exact ⟨_, rfl, by rw [HY.out, HAll.out]; rfl, HB⟩
      cases r
      · replace HAll := aside (HAll.out (by simp))
        clear HA2
        go_wp2_with fail
        go_ret
        exact ⟨_, rfl, by rw [HY.out, HAll.out]; rfl, HB⟩
      cases r'
      · replace HAll := aside (HAll.out (by simp))
        clear HA2
        go_wp2_with fail
        go_ret
        exact ⟨_, rfl, by rw [HY.out, HAll.out]; rfl, HB⟩
      replace HA2 := aside (HA2.out rfl)
      clear HAll
      go_wp2_with fail
      go_roundg (g0 - 1)
      case measure => have := HK.out; have := hjl.out; omega
      case rel => exact ⟨j + 1, by have := HK.out; have := hjl.out; omega, by go_num, HA2.out, HBB.out, HB⟩
    · have hd : ((j : Int) < 3) = False := eq_false (by omega)
      have hjn : j = 3 := by have := HK.out; omega
      subst hjn
      clear hj
      go_wp2_with fail
      go_ret
      exact ⟨_, rfl, by rw [HY.out, HA.out]; rfl, HB⟩

end Go.Proofs.YtiblmojdjnfoaaaGreat

namespace Go.Proofs.YtiblmojdjnfoaaaGreat
open Go.RowKit Fl Lm

theorem rof_c (t : Tr) (w : World) : Ret Tryz.prog 46 #[.agg #[.float .f64 t.t0, .float .f64 t.t1, .float .f64 t.t2, .float .f64 t.t3, .float .f64 t.t4, .float .f64 t.t5, .float .f64 t.t6, .float .f64 t.t7, .float .f64 t.t8]] w (fun v => v = .agg #[.float .f64 (Tr.box t).a0, .float .f64 (Tr.box t).a1, .float .f64 (Tr.box t).a2, .float .f64 (Tr.box t).a3, .float .f64 (Tr.box t).a4, .float .f64 (Tr.box t).a5]) := rof_any _ _ _ _ _ _ _ _ _ w

theorem best3 (x y z : Nat) : bestF x y z 3 = if gtB z (partF x y z (if gtB y x then 1 else 0 : Nat)) then 2 else if gtB y x then 1 else 0 := by
  have h1 : bestF x y z 1 = 0 := by show (if _ then 0 else 0) = 0; split <;> rfl
  have h2 : bestF x y z 2 = if gtB y x then 1 else 0 := by
    show (if gtB (partF x y z (1 : Nat)) (partF x y z (bestF x y z 1)) then 1 else bestF x y z 1) = _
    rw [h1]
    rfl
  show (if gtB (partF x y z (2 : Nat)) (partF x y z (bestF x y z 2)) then 2 else bestF x y z 2) = _
  rw [h2]
  rfl

end Go.Proofs.YtiblmojdjnfoaaaGreat

namespace Go.Proofs.YtiblmojdjnfoaaaGreat
open Go.RowKit Fl Lm

theorem same_eq {x y : Nat} (h : ford x y = some .eq) : sameB x y = true := by
  unfold sameB
  rw [h]
  rfl
theorem f_self {x : Nat} (h : isN x = false) : (FloatKind.f64.format.order x x == some .eq) = true := by
  have := ford_refl h
  unfold ford at this
  show (F64.order x x == some .eq) = true
  rw [this]
  rfl

set_option maxRecDepth 100000 in
set_option maxHeartbeats 1000000 in
theorem eq_vec (d x y z : Nat) (fx : (FloatKind.f64.format.order x x == some .eq) = true) (fy : (FloatKind.f64.format.order y y == some .eq) = true) (fz : (FloatKind.f64.format.order z z == some .eq) = true) (w : World) :
    (Op.equalIn (d + 1 + 1) 25 (.agg #[.float .f64 x, .float .f64 y, .float .f64 z]) (.agg #[.float .f64 x, .float .f64 y, .float .f64 z])).run Tryz.prog w = .ok true w := by
  have hS2 : Tryz.prog.underlying 25 = some (.struct (Tryz.prog.fieldsOf 25)) := by kernel_rfl
  have hp2 : Tryz.prog.stoodInHeld 25 = false := by kernel_rfl
  have gx : Op.floatEq FloatKind.f64 x x = true := fx
  have gy : Op.floatEq FloatKind.f64 y y = true := fy
  have gz : Op.floatEq FloatKind.f64 z z = true := fz
  rw [run_equalIn_agg w (d + 1) 25 _ _ hS2 hp2]
  simp only [Program.fieldsOf, Tryz.underlying25]
  go_simp

set_option maxRecDepth 100000 in
set_option maxHeartbeats 1000000 in
theorem eq_box (d : Nat) (b : Bx) (h : b.Ok) (w : World) :
    (Op.equalIn (d + 1 + 1 + 1) 54 (bxv b) (bxv b)).run Tryz.prog w = .ok true w := by
  have hS2 : Tryz.prog.underlying 54 = some (.struct (Tryz.prog.fieldsOf 54)) := by kernel_rfl
  have hp2 : Tryz.prog.stoodInHeld 54 = false := by kernel_rfl
  have v0 := fun w => eq_vec d b.a0 b.a1 b.a2 (f_self h.h0) (f_self h.h1) (f_self h.h2) w
  have v1 := fun w => eq_vec d b.a3 b.a4 b.a5 (f_self h.h3) (f_self h.h4) (f_self h.h5) w
  unfold bxv
  rw [run_equalIn_agg w (d + 1 + 1) 54 _ _ hS2 hp2]
  simp only [Program.fieldsOf, Tryz.underlying54]
  go_simp

set_option maxRecDepth 100000 in
set_option maxHeartbeats 1000000 in
theorem eql_node (x : Nd) (h : x.box.Ok) (w : World) : (binOp .eql 56 (dxv x) (dxv x)).run Tryz.prog w = .ok (.bool true) w := by
  have hS : Tryz.prog.underlying 56 = some (.struct (Tryz.prog.fieldsOf 56)) := by kernel_rfl
  have hp : Tryz.prog.stoodInHeld 56 = false := by kernel_rfl
  obtain ⟨d, hd⟩ : ∃ d : Nat, 10000 = d + 1 + 1 + 1 + 1 := ⟨9996, rfl⟩
  have v0 := fun w => eq_box d x.box h w
  unfold dxv
  unfold bxv at v0
  rw [run_eql_struct, hd, run_equalIn_agg w (d + 1 + 1 + 1) 56 _ _ hS hp]
  clear hd
  simp only [Program.fieldsOf, Tryz.underlying56]
  go_simp

end Go.Proofs.YtiblmojdjnfoaaaGreat
