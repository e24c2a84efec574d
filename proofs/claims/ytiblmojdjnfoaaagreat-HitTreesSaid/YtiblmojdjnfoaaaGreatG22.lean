/- Package hit: candidates, and the numbers that it hands on, whatever is done with them. Package hit: what the asking function has captured; what a tree of triangles tells of its nodes. Package hit: First. -/
import Derived.Sort.LoopGhostIn
import Derived.Sort.CutIn
import Derived.Shelf.RegionOpen
import Derived.Laws.EntriesVeiled
import Derived.Test.YtiblmojdjnfoaaaGreatG21
namespace Go.Proofs.YtiblmojdjnfoaaaGreat
open Go.RowKit Fl Lm Rg

theorem below_put {N : Nat} {w w' : World} (h : Below N w w') {r : Nat} (hr : N ≤ r) (o : Obj) : Below N w (w'.putObj r o) :=
  ⟨h.os, h.tape, h.output, by rw [World.putObj_size]; exact h.size, fun k hk => (World.putObj_heap_other (by omega)).trans (h.block k hk)⟩
def canV (gx gr gw : Nat) : Value := .func (.func 58) #[] #[.pointer (some ⟨gx, 0, none⟩), .pointer (some ⟨gr, 0, none⟩), .pointer (some ⟨gw, 0, none⟩)]

set_option maxRecDepth 100000 in
theorem candidates_any (p : Option Addr) (f : Fn) (b c : Array Value) (O D : V3) (w : World) :
    Calls Tryz.prog 32 #[.pointer p, .agg #[.float .f64 O.x, .float .f64 O.y, .float .f64 O.z, .float .f64 D.x, .float .f64 D.y, .float .f64 D.z], .func f b c] w fun e w' => ∃ gx gr gw, e = .returned (canV gx gr gw) ∧ EntR w' gx gr gw (.pointer p) (.func f b c) O D ∧ (w.heap.size ≤ gx ∧ w.heap.size ≤ gr ∧ w.heap.size ≤ gw) ∧ Cl w w' := by
  go_enter Tryz.func32, Tryz.ntmps32
  go_wp2_with fail
  go_ret
  refine ⟨_, _, _, rfl, ⟨((Lp.Bk.al _ _ _).alo _).alo _, (Lp.Bk.al1 _ _ _ _).alo _, Lp.Bk.al2 _ _ _ _ _⟩, ⟨Nat.le_refl _, by omega, by omega⟩, ?_⟩
  exact (((Below.refl _ _).alloc (Nat.le_refl _) _).alloc (by simp) _).alloc (by simp <;> omega) _

attribute [local go_sem] Oper.semAt_some
set_option maxRecDepth 100000 in
set_option maxHeartbeats 4000000 in
theorem candidates1_any {α : Type} (R : Tre α) (ls : α → List Nat) (O D : V3) (xp : Option Addr) (fw : Nat) (lbw : Array Value) (l : Nat) (X : Nat → Prop) (w : World) (J : List α → List Nat → World → Prop) (Jx : World → Prop) (a0 : α) (gx gr gw : Nat) (W0 : World)
    (hk0 : R.kk a0 = 0) (hsz : R.sz a0 ≤ 2000) (hE : EntR W0 gx gr gw (.pointer xp) (.func (.func fw) #[] lbw) O D) (hXg : ¬ X gx ∧ ¬ X gr ∧ ¬ X gw) (hX : ∀ k, X k → k < W0.heap.size)
    (eg : ∀ args w, (callFunc fw args).run Tryz.prog w = .ok (.enter fw args) w) (hN : NodeC R (.pointer xp) w)
    (hls : ∀ a, R.th a = true → (R.nd a).hi = (R.nd a).lo + (ls a).length ∧ (R.nd a).hi ≤ 1000)
    (hT : ∀ a W q, Cl w W → R.th a = true → q < (ls a).length → Calls Tryz.prog 59 #[.pointer xp, .int .i64 (((R.nd a).lo + q : Nat) : Int)] W fun e W' => e = .returned (.int .i64 ((ls a).getD q 0 : Nat)) ∧ Cl W W')
    (hJc : ∀ s q W, J s q W → Cl w W) (hJs : ∀ s q W W', J s q W → Below W0.heap.size W W' → J s q W') (hJx : ∀ W W', Jx W → Below W0.heap.size W W' → Jx W')
    (hsk : ∀ a s W, J (a :: s) [] W → (R.th a = false ∨ goB O D (R.nd a).box = none) → J s [] W)
    (hwo : ∀ a s W z, J (a :: s) [] W → goB O D (R.nd a).box = some z → ∃ b : Bool, Ret Tryz.prog fw (#[.float .f64 z.1] ++ lbw) W (fun v => v = .bool b) ∧ (b = false → J s [] W))
    (hst : ∀ a s W z, J (a :: s) [] W → R.th a = true → goB O D (R.nd a).box = some z → J (R.next a ++ s) (ls a) W)
    (hyi : ∀ i s q W, J s (i :: q) W → YieldAt Fence.wide 0 Tryz.prog l #[.int .i64 (i : Nat)] W (fun e W' => ∃ b : Bool, e = .returned (.bool b) ∧ Kept X W W' ∧ if b then J s q W' else Jx W'))
    (h0 : J [a0] [] W0) :
    Calls Tryz.prog 58 #[.func (.yield l) #[] #[], .pointer (some ⟨gx, 0, none⟩), .pointer (some ⟨gr, 0, none⟩), .pointer (some ⟨gw, 0, none⟩)] W0 fun e W' => (∃ v, e = .returned v) ∧ (J [] [] W' ∨ Jx W') := by
  have hmx : Tryz.prog.follows .mixedOrders = true := by kernel_rfl
  have HEN := hid hE
  have HXG := aside hXg
  have HX := aside hX
  have HN := hid hN
  have HJC := hid hJc
  have HJS := hid hJs
  have HJX := hid hJx
  have HSK := hid hsk
  have HWO := hid hwo
  have HST := hid hst
  have HYI := hid hyi
  have HLS := aside hls
  have HT := hid hT
  have HJ0 := hid h0
  have hgl : gx < W0.heap.size ∧ gr < W0.heap.size ∧ gw < W0.heap.size := ⟨hE.x.lt, hE.r.lt, hE.g.lt⟩
  have HGL := aside hgl
  have kX := hE.x.cell
  have kR := hE.r.cell
  have kW := hE.g.cell
  obtain ⟨n1, n2, n3⟩ := hgl
  have e1 : (gx = W0.heap.size) = False := eq_false (by omega)
  have e2 : (gr = W0.heap.size) = False := eq_false (by omega)
  have e3 : (gw = W0.heap.size) = False := eq_false (by omega)
  clear hE hXg hX hN hJc hJs hJx hsk hwo hst hyi hls hT h0
  refine (callsIn_wide (n := 0)).1 (callsIn_of_wp_marks Tryz.func58 rfl trivial ?_ rfl)
  simp only [Tryz.ntmps58, List.size_toArray, List.length_cons, List.length_nil, Nat.reduceAdd, Nat.reduceSub, Array.replicate_succ, Array.replicate_zero, List.push_toArray, List.append_toArray, List.nil_append, List.cons_append]
  refine wpIn_wide.2 ?_
  go_wp2_with fail
  refine Calls.mono (entered_any xp (.func fw) #[] lbw O D _) ?_
  rintro e wL ⟨g1, g2, g3, rfl, hE2, hge, hm⟩
  have BY : Lp.Bk wL W0.heap.size #[.func (.yield l) #[] #[]] 109 := (Lp.Bk.al W0 _ _).keep hm
  have hal : Below W0.heap.size W0 wL := ((Below.refl _ W0).alloc (Nat.le_refl _) _).trans (hm.mono (by simp))
  have HJL := hid (HJS.out _ _ _ _ HJ0.out hal)
  have HEL := hid (HEN.out.keep hal)
  have HE2 := hid hE2
  have HGE := aside hge
  have HSL := aside (show W0.heap.size < wL.heap.size from BY.lt)
  have HBY := hid BY
  clear hm hal BY hE2 hge kX kR kW e1 e2 e3 n1 n2 n3 HJ0 HEN
  unfold entV
  go_wp2_with fail
  refine range_wp (gf := 62) (lb := #[.pointer (some ⟨g1, 0, none⟩), .pointer (some ⟨g2, 0, none⟩), .pointer (some ⟨g3, 0, none⟩)]) rfl (enters_of Tryz.func62 (by kernel_rfl) rfl) (fun W => J [] [] W) (fun c W => c = .ret ∧ Jx W) ?hI ?hIx ?hcall ?hdone ?hstop
  case hI =>
    intro W o h
    exact HJS.out _ _ _ _ h (below_put (Below.refl _ _) (by have := HSL.out; omega) o)
  case hIx =>
    rintro c W o ⟨h1, h2⟩
    exact ⟨h1, HJX.out _ _ h2 (below_put (Below.refl _ _) (by have := HSL.out; omega) o)⟩
  case hdone =>
    intro W h hK
    refine ⟨by simp, .inl ⟨_, _, rfl, run_takeDeferred hK, ?_⟩⟩
    exact ⟨_, results_none rfl _ _ _, ⟨_, rfl⟩, .inl (HJS.out _ _ _ _ h (below_put (Below.refl _ _) (by have := HSL.out; omega) _))⟩
  case hstop =>
    rintro c W ⟨rfl, h⟩ hK
    go_wp2_with fail
    refine ⟨by simp, .inl ⟨_, _, rfl, run_takeDeferred hK, ?_⟩⟩
    exact ⟨_, results_none rfl _ _ _, ⟨_, rfl⟩, .inr (HJX.out _ _ h (below_put (Below.refl _ _) (by have := HSL.out; omega) _))⟩
  case hcall =>
    intro fn rec W1 hrec hC1 hS1 hl1 hd1
    have HREC := aside hrec
    clear hrec
    have hC10 : Below W0.heap.size wL W1 := hC1.mono (Nat.le_of_lt HSL.out)
    have h1s : W0.heap.size ≤ W1.heap.size := by have := HSL.out; omega
    refine Calls.mono (entered1_any R O D xp fw lbw (wL.heap.size + 1) (fun k => X k ∨ k = wL.heap.size + 1) w
      (fun s W => J s [] W ∧ W.heap[wL.heap.size + 1]? = some (.loop (rec .ready none)) ∧ W.heap[wL.heap.size]? = some (.deferred (some [])) ∧ Lp.Bk W W0.heap.size #[.func (.yield l) #[] #[]] 109 ∧ EntR W gx gr gw (.pointer xp) (.func (.func fw) #[] lbw) O D ∧ W1.heap.size ≤ W.heap.size)
      (fun W => Jx W ∧ W.heap[wL.heap.size + 1]? = some (.loop (rec .done (some .ret))) ∧ W.heap[wL.heap.size]? = some (.deferred (some [])))
      a0 g1 g2 g3 W1 hk0 hsz (HE2.out.keep hC1) ?_ ?_ eg HN.out ?_ ?_ ?_ ?_ ?_ ?_) ?_
    · obtain ⟨q1, q2, q3⟩ := HGE.out
      have l1 := HE2.out.x.lt
      have l2 := HE2.out.r.lt
      have l3 := HE2.out.g.lt
      have hx := HX.out
      exact ⟨fun h => h.elim (fun h => by have := hx _ h; simp at q1; omega) (fun h => by omega), fun h => h.elim (fun h => by have := hx _ h; simp at q2; omega) (fun h => by omega), fun h => h.elim (fun h => by have := hx _ h; simp at q3; omega) (fun h => by omega)⟩
    · rintro k (h | h)
      · have := HX.out k h; omega
      · omega
    · rintro s W ⟨h, _⟩
      exact HJC.out _ _ _ h
    · rintro s W W' ⟨h1, h2, h3, h4, h5, h6⟩ hb
      have hbl := HGL.out
      exact ⟨HJS.out _ _ _ _ h1 (hb.mono h1s), (hb.block _ (by omega)).trans h2, (hb.block _ (by omega)).trans h3, (hb.block _ (by have := HSL.out; omega)).trans h4, h5.low hb (by omega), Nat.le_trans h6 hb.size⟩
    · rintro a s W ⟨h1, h2⟩ hq
      exact ⟨HSK.out _ _ _ h1 hq, h2⟩
    · rintro a s W z ⟨h1, h2⟩ hz
      obtain ⟨b, hb, hf⟩ := HWO.out a s W z h1 hz
      exact ⟨b, hb, fun e => ⟨hf e, h2⟩⟩
    · rintro a s W z ⟨h1, h2, h3, h4, h5, h6⟩ hth hz
      refine round_at rfl HREC.out h2 ?_
      unfold dxv
      gi_wp2
      have hlW : wL.heap.size + 1 < W.heap.size := by omega
      have hR1 : (W.alloc (.cells #[.float .f64 (R.nd a).box.a0, .float .f64 (R.nd a).box.a1, .float .f64 (R.nd a).box.a2, .float .f64 (R.nd a).box.a3, .float .f64 (R.nd a).box.a4, .float .f64 (R.nd a).box.a5, .int .i64 ((R.nd a).left : Nat), .int .i64 ((R.nd a).right : Nat), .int .i64 ((R.nd a).lo : Nat), .int .i64 ((R.nd a).hi : Nat)] 56)).heap[wL.heap.size + 1]? = some (.loop (rec .ready none)) := (Below.heap_alloc _ _ _ hlW).trans h2
      refine ⟨hR1, ?_⟩
      have hcl := HJC.out _ _ _ h1
      have halW : Below W.heap.size W (W.alloc (.cells #[.float .f64 (R.nd a).box.a0, .float .f64 (R.nd a).box.a1, .float .f64 (R.nd a).box.a2, .float .f64 (R.nd a).box.a3, .float .f64 (R.nd a).box.a4, .float .f64 (R.nd a).box.a5, .int .i64 ((R.nd a).left : Nat), .int .i64 ((R.nd a).right : Nat), .int .i64 ((R.nd a).lo : Nat), .int .i64 ((R.nd a).hi : Nat)] 56)) := (Below.refl _ _).alloc (Nat.le_refl _) _
      have BN0 := Lp.Bk.al W #[.float .f64 (R.nd a).box.a0, .float .f64 (R.nd a).box.a1, .float .f64 (R.nd a).box.a2, .float .f64 (R.nd a).box.a3, .float .f64 (R.nd a).box.a4, .float .f64 (R.nd a).box.a5, .int .i64 ((R.nd a).left : Nat), .int .i64 ((R.nd a).right : Nat), .int .i64 ((R.nd a).lo : Nat), .int .i64 ((R.nd a).hi : Nat)] 56
      have h1' := HJS.out _ _ _ _ (HST.out a s W z h1 hth hz) (halW.mono (by omega))
      have hY1 := h4.keep halW
      have hE1 := h5.keep halW
      have hd1' := (halW.block _ (show wL.heap.size < W.heap.size by omega)).trans h3
      obtain ⟨V, hV⟩ : ∃ V, V = (W.alloc (.cells #[.float .f64 (R.nd a).box.a0, .float .f64 (R.nd a).box.a1, .float .f64 (R.nd a).box.a2, .float .f64 (R.nd a).box.a3, .float .f64 (R.nd a).box.a4, .float .f64 (R.nd a).box.a5, .int .i64 ((R.nd a).left : Nat), .int .i64 ((R.nd a).right : Nat), .int .i64 ((R.nd a).lo : Nat), .int .i64 ((R.nd a).hi : Nat)] 56)) := ⟨_, rfl⟩
      have hVs : V.heap.size = W.heap.size + 1 := by rw [hV]; simp
      rw [← hV] at halW BN0 h1' hY1 hE1 hd1' hR1 ⊢
      clear hV
      obtain ⟨v1, hv1⟩ : ∃ v1, v1 = V.putObj (wL.heap.size + 1) (.loop (rec .busy none)) := ⟨_, rfl⟩
      have hp1 : Below (wL.heap.size + 1) V v1 := by rw [hv1]; exact below_put (Below.refl _ _) (Nat.le_refl _) _
      have hk1 : Kept (fun k => X k ∨ k = wL.heap.size + 1) W v1 := by rw [hv1]; exact (Kept.of halW).put (.inr rfl) _
      have hr1 : v1.heap[wL.heap.size + 1]? = some (.loop (rec .busy none)) := by rw [hv1]; exact World.putObj_heap_same (by omega)
      have BN1 : Lp.Bk v1 W.heap.size #[.float .f64 (R.nd a).box.a0, .float .f64 (R.nd a).box.a1, .float .f64 (R.nd a).box.a2, .float .f64 (R.nd a).box.a3, .float .f64 (R.nd a).box.a4, .float .f64 (R.nd a).box.a5, .int .i64 ((R.nd a).left : Nat), .int .i64 ((R.nd a).right : Nat), .int .i64 ((R.nd a).lo : Nat), .int .i64 ((R.nd a).hi : Nat)] 56 := by rw [hv1]; exact (World.putObj_heap_other (by omega)).trans BN0
      have hs1 : v1.heap.size = W.heap.size + 1 := by rw [hv1, World.putObj_size, hVs]
      rw [← hv1]
      clear hv1
      have HJ1 := hid (HJS.out _ _ _ _ h1' (hp1.mono (by have := HSL.out; omega)))
      have HY1 : Hid (Lp.Bk v1 W0.heap.size #[.func (.yield l) #[] #[]] 109) := (hp1.block _ (by have := HSL.out; omega)).trans hY1
      have HE1 := hid (hE1.low hp1 (by have := HGL.out; have := HSL.out; omega))
      have HD1 : Hid (v1.heap[wL.heap.size]? = some (.deferred (some []))) := (hp1.block _ (by omega)).trans hd1'
      have HK1 := hid hk1
      have HR1 := hid hr1
      have HBN := hid BN1
      have HSW := aside (show W1.heap.size ≤ W.heap.size ∧ W.heap.size < v1.heap.size from ⟨h6, by omega⟩)
      have kN := BN1.cell
      have HLN := aside (HLS.out a hth)
      have hlo : (R.nd a).lo ≤ 1000 := by have := HLN.out; omega
      have hhi : (R.nd a).hi ≤ 1000 := HLN.out.2
      have HCL := hid hcl
      clear h1 h2 h3 h4 h5 h6 halW BN0 h1' hY1 hE1 hd1' hR1 hVs hp1 hk1 hr1 BN1 hs1 hcl hlW
      gi_wp2
      gi_loopg [6] ((ls a).length) (fun k i wr => ∃ q p : Nat, k + q = (ls a).length ∧ p = (R.nd a).lo + q ∧ i = .int .i64 (p : Int) ∧ J (R.next a ++ s) ((ls a).drop q) wr ∧ Lp.Bk wr W0.heap.size #[.func (.yield l) #[] #[]] 109 ∧ EntR wr gx gr gw (.pointer xp) (.func (.func fw) #[] lbw) O D ∧ wr.heap[wL.heap.size + 1]? = some (.loop (rec .busy none)) ∧ wr.heap[wL.heap.size]? = some (.deferred (some [])) ∧ Lp.Bk wr W.heap.size #[.float .f64 (R.nd a).box.a0, .float .f64 (R.nd a).box.a1, .float .f64 (R.nd a).box.a2, .float .f64 (R.nd a).box.a3, .float .f64 (R.nd a).box.a4, .float .f64 (R.nd a).box.a5, .int .i64 ((R.nd a).left : Nat), .int .i64 ((R.nd a).right : Nat), .int .i64 ((R.nd a).lo : Nat), .int .i64 ((R.nd a).hi : Nat)] 56 ∧ Kept (fun k => X k ∨ k = wL.heap.size + 1) W wr)
      case atStart => exact ⟨0, (R.nd a).lo, by omega, by omega, rfl, HJ1.out, HY1.out, HE1.out, HR1.out, HD1.out, HBN.out, HK1.out⟩
      case round =>
        clear HJ1 HY1 HE1 HR1 HD1 HBN HK1 kN
        obtain ⟨g0, hg0⟩ : ∃ g0, g0 = gk := ⟨_, rfl⟩
        subst hg0
        obtain ⟨wo, hwo⟩ : ∃ wo, wo = wr := ⟨_, rfl⟩
        subst hwo
        obtain ⟨q, p, hk, hp, rfl, hJ, hY, hE, hr, hd, hN, hK⟩ := hrel
        have HP := aside (And.intro hk hp)
        have HJ := hid hJ
        have HY := hid hY
        have HE := hid hE
        have HR := hid hr
        have HD := hid hd
        have HBN := hid hN
        have HK := hid hK
        have kN := hN.cell
        have hp5 : p ≤ 1000 := by have := HLN.out; omega
        clear hJ hY hE hr hd hN hK hp hk
        by_cases hq : q < (ls a).length
        · have ht : ((p : Int) < (((R.nd a).hi : Nat) : Int)) = True := eq_true (by have := HLN.out; have := HP.out; omega)
          have hdr : (ls a).drop q = (ls a).getD q 0 :: (ls a).drop (q + 1) := by
            rw [List.drop_eq_getElem_cons hq, List.getD_eq_getElem?_getD, List.getElem?_eq_getElem hq]
            rfl
          have HTR := hid (fun W' (hW : Cl w W') => show Calls Tryz.prog 59 #[.pointer xp, .int .i64 (p : Int)] W' (fun e W'' => e = .returned (.int .i64 ((ls a).getD q 0 : Nat)) ∧ Cl W' W'') from by
            have h := HT.out a W' q hW hth hq
            rw [← HP.out.2] at h
            exact h)
          generalize hi : (ls a).getD q 0 = i at *
          have hYY : ∀ w5, Below W0.heap.size wo w5 → YieldAt Fence.wide 0 Tryz.prog l #[.int .i64 (i : Nat)] w5 (fun e W' => ∃ b : Bool, e = .returned (.bool b) ∧ Kept X w5 W' ∧ if b then J (R.next a ++ s) ((ls a).drop (q + 1)) W' else Jx W') := fun w5 hb => HYI.out i _ _ w5 (by have h := HJS.out _ _ _ _ HJ.out hb; rw [hdr] at h; exact h)
          have HYY := hid hYY
          have HQ := aside hq
          have HCW : Hid (Cl w wo) := HJC.out _ _ _ HJ.out
          have kY := HY.out.cell
          have kX := HE.out.x.cell
          clear hYY hdr hi hq HT HYI HJ
          have HW0 := aside (show W0.heap.size ≤ wo.heap.size by have := HK.out.size; have := HSW.out; omega)
          gi_wp2
          gi_region_with_o (first
            | (refine ⟨trivial, rfl, ?_⟩; gi_at_call 59; refine (CallsIn.inRound (wL.heap.size + 1) ((callsIn_wide (n := 0)).2 (HTR.out _ (Fl.Cl.drew' HCW.out)))).mono ?_; rintro e w5 ⟨rfl, hm⟩; have hm' : Cl wo w5 := (Fl.Cl.drew' (Below.refl _ _)).call hm; have kY5 := (HY.out.keep hm').cell; have HM5 := hid hm'; obtain ⟨fY, tY, aY, bY, hy, hR6⟩ := HYY.out w5 (hm'.mono HW0.out); clear hm hm')
            | (refine ⟨rfl, RoundIn.mono hR6 ?_⟩; rintro e w6 ⟨b, rfl, hk6, hb6⟩))
          all_goals
            have hlY : W0.heap.size < w5.heap.size := (HY.out.keep HM5.out).lt
            have HL5 := HR.out
            have hxY : ∀ k, W0.heap.size ≤ k → ¬ X k := fun k hk q => by have := HX.out k q; omega
            have hltR : wL.heap.size + 1 < wo.heap.size := (Array.getElem?_eq_some_iff.1 HR.out).1
            have hY6 := hk6.bk (HY.out.keep HM5.out) (hxY _ (Nat.le_refl _))
            have hE6 := (HE.out.keep HM5.out).kept hk6 HXG.out
            have hR5 : w5.heap[wL.heap.size + 1]? = some (.loop (rec .busy none)) := (HM5.out.block _ hltR).trans HR.out
            have hD5 : w5.heap[wL.heap.size]? = some (.deferred (some [])) := (HM5.out.block _ (by omega)).trans HD.out
            have hR6' : w6.heap[wL.heap.size + 1]? = some (.loop (rec .busy none)) := (hk6.block _ (by have := HM5.out.size; omega) (hxY _ (by have := HSL.out; omega))).trans hR5
            have hD6 : w6.heap[wL.heap.size]? = some (.deferred (some [])) := (hk6.block _ (by have := HM5.out.size; omega) (hxY _ (by have := HSL.out; omega))).trans hD5
            have hN6 := hk6.bk (HBN.out.keep HM5.out) (hxY _ (by have := HSW.out; have := HSL.out; omega))
            have hK6 := (HK.out.trans (Kept.of HM5.out)).trans (hk6.more (Y := fun k => X k ∨ k = wL.heap.size + 1) fun k h => .inl h)
            have HF6 := aside (And.intro hY6 (And.intro hE6 (And.intro hR6' (And.intro hD6 (And.intro hN6 hK6)))))
            clear hlY HL5 hY6 hE6 hR5 hD5 hR6' hD6 hN6 hK6 hy hR6 hk6 kY5 kY kX kN hxY HM5
            cases b with
            | true =>
              have HJ6 := hid (show J (R.next a ++ s) ((ls a).drop (q + 1)) w6 from hb6)
              clear hb6
              gi_wp2
              gi_roundg (g0 - 1)
              case measure => have := HP.out; have := HQ.out; omega
              case rel => exact ⟨q + 1, p + 1, by have := HP.out; have := HQ.out; omega, by have := HP.out; omega, by go_num, HJ6.out, HF6.out.1, HF6.out.2.1, HF6.out.2.2.1, HF6.out.2.2.2.1, HF6.out.2.2.2.2.1, HF6.out.2.2.2.2.2⟩
            | false =>
              have HJ6 := hid (show Jx w6 from hb6)
              clear hb6
              gi_wp2
              have hlt6 : wL.heap.size + 1 < w6.heap.size := (Array.getElem?_eq_some_iff.1 HF6.out.2.2.1).1
              exact ⟨HF6.out.2.2.1, .inr ⟨rfl, HJX.out _ _ HJ6.out (below_put (Below.refl _ _) (by have := HSL.out; omega) _), World.putObj_heap_same hlt6, (World.putObj_heap_other (by omega)).trans HF6.out.2.2.2.1⟩⟩
        · have ht : ((p : Int) < (((R.nd a).hi : Nat) : Int)) = False := eq_false (by have := HLN.out; have := HP.out; omega)
          have hnil : (ls a).drop q = [] := List.drop_eq_nil_of_le (by have := HP.out; omega)
          gi_wp2
          have hlt : wL.heap.size + 1 < wo.heap.size := (Array.getElem?_eq_some_iff.1 HR.out).1
          have hbp : Below W0.heap.size wo (wo.putObj (wL.heap.size + 1) (.loop (rec .ready none))) := below_put (Below.refl _ _) (by have := HSL.out; omega) _
          have hj := HJ.out
          rw [hnil] at hj
          refine ⟨HR.out, .inl ⟨rfl, ⟨HJS.out _ _ _ _ hj hbp, World.putObj_heap_same hlt, (World.putObj_heap_other (by omega)).trans HD.out, (World.putObj_heap_other (by have := HSL.out; omega)).trans HY.out, HE.out.low hbp HGL.out, ?_⟩, HK.out.put (.inr rfl) _⟩⟩
          rw [World.putObj_size]
          have := HK.out.size
          have := HSW.out
          omega
    · exact ⟨HJS.out _ _ _ _ HJL.out hC10, hl1, hd1, HBY.out.keep hC1, HEL.out.keep hC1, Nat.le_refl _⟩
    · rintro e W2 ⟨hv, ⟨h1, h2, h3, _⟩ | ⟨h1, h2, h3⟩⟩
      · exact ⟨hv, .inl ⟨h1, h2, h3⟩⟩
      · exact ⟨hv, .inr ⟨.ret, ⟨rfl, h1⟩, h2, h3⟩⟩
end Go.Proofs.YtiblmojdjnfoaaaGreat

namespace Go.Proofs.YtiblmojdjnfoaaaGreat
open Go.RowKit Fl Lm Rg

/-- The boxes of what the asking function has captured. -/
structure AskB (w : World) (gl gs gr : Nat) (ao : Option Addr) (n c : Nat) (az : Option Addr) (m cs : Nat) (O D : V3) : Prop where
  l : Lp.Bk w gl #[.slice ao n c] 22
  s : Lp.Bk w gs #[.slice az m cs] 28
  r : Lp.Bk w gr #[.float .f64 O.x, .float .f64 O.y, .float .f64 O.z, .float .f64 D.x, .float .f64 D.y, .float .f64 D.z] 27
section
variable {w w' : World} {gl gs gr n c m cs : Nat} {ao az : Option Addr} {O D : V3}
theorem AskB.keep (h : AskB w gl gs gr ao n c az m cs O D) (hb : Below w.heap.size w w') : AskB w' gl gs gr ao n c az m cs O D := ⟨h.l.keep hb, h.s.keep hb, h.r.keep hb⟩
theorem AskB.kept {X : Nat → Prop} (h : AskB w gl gs gr ao n c az m cs O D) (hk : Kept X w w') (hx : ¬ X gl ∧ ¬ X gs ∧ ¬ X gr) : AskB w' gl gs gr ao n c az m cs O D := ⟨hk.bk h.l hx.1, hk.bk h.s hx.2.1, hk.bk h.r hx.2.2⟩
theorem AskB.low {N : Nat} (h : AskB w gl gs gr ao n c az m cs O D) (hb : Below N w w') (hn : gl < N ∧ gs < N ∧ gr < N) : AskB w' gl gs gr ao n c az m cs O D :=
  ⟨(hb.block gl hn.1).trans h.l, (hb.block gs hn.2.1).trans h.s, (hb.block gr hn.2.2).trans h.r⟩
theorem AskB.asks {w0 : World} {T : Nat → Tr} {K : List Int} (h : AskB w gl gs gr ao n c az K.length cs O D) (hc : Cl w0 w) (hL : Sl w0 ao n 9 fun i => tcs (T i)) (hK : Sl w0 az K.length 1 (kvs K)) : AskR w gl gs gr n T K O D :=
  ⟨⟨_, _, h.l, hL.keep hc⟩, ⟨_, _, h.s, hK.keep hc⟩, h.r⟩
end
set_option maxRecDepth 100000 in
theorem asker_b (O D : V3) (n c m cs : Nat) (ao az : Option Addr) (w : World) :
    Calls Tryz.prog 22 #[.slice ao n c, .agg #[.float .f64 O.x, .float .f64 O.y, .float .f64 O.z, .float .f64 D.x, .float .f64 D.y, .float .f64 D.z], .slice az m cs] w fun e w' => ∃ v, e = .returned v ∧ (∃ gl gs gr, v = askV gl gs gr ∧ AskB w' gl gs gr ao n c az m cs O D ∧ (w.heap.size ≤ gl ∧ w.heap.size ≤ gs ∧ w.heap.size ≤ gr)) ∧ Below w.heap.size w w' := by
  go_enter Tryz.func22, Tryz.ntmps22
  go_wp2_with fail
  go_ret
  refine ⟨_, rfl, ⟨_, _, _, rfl, ⟨((Lp.Bk.al _ _ _).alo _).alo _, Lp.Bk.al2 _ _ _ _ _, (Lp.Bk.al1 _ _ _ _).alo _⟩, ⟨Nat.le_refl _, by omega, by omega⟩⟩, ?_⟩
  exact (((Below.refl _ _).alloc (Nat.le_refl _) _).alloc (by simp) _).alloc (by simp <;> omega) _
theorem bk_ne {w : World} {g g' : Nat} {vs vs' : Array Value} {t t' : TypeId} (h : Lp.Bk w g vs t) (k : Lp.Bk w g' vs' t') (ht : t ≠ t') : g ≠ g' := fun e => by
  subst e
  have e2 := (show w.heap[g]? = _ from h).symm.trans k
  simp at e2
  exact ht e2.2
theorem hcs_four (b : Hit) : ∃ b0 b1 b2 b3, hcs b = #[.int .i64 b0, .float .f64 b1, .float .f64 b2, .float .f64 b3] := by rcases b with _ | ⟨i, h⟩ <;> exact ⟨_, _, _, _, rfl⟩

/-- What a tree of triangles tells of its nodes: lst: those in a node; ls: those that a node hands on. -/
structure TreC {α : Type} (R : Tre α) (ls lst : α → List Nat) (T : Nat → Tr) (n0 : Nat) (a0 : α) : Prop where
  mo : ∀ i, (T i).Mo
  box : ∀ a, R.th a = true → (R.nd a).box = bxs T (lst a)
  off : ∀ a, R.th a = false → lst a = []
  nx : ∀ a i, R.th a = true → i ∈ lst a → (∃ b, b ∈ R.next a ∧ i ∈ lst b) ∨ i ∈ ls a
  lt : ∀ a i, i ∈ ls a → i < n0
  all : ∀ i, i < n0 → i ∈ lst a0
  hi : ∀ a, R.th a = true → (R.nd a).hi = (R.nd a).lo + (ls a).length ∧ (R.nd a).hi ≤ 1000
def TriC {α : Type} (R : Tre α) (ls : α → List Nat) (xp : Value) (w : World) : Prop := ∀ a W q, Cl w W → R.th a = true → q < (ls a).length → Calls Tryz.prog 59 #[xp, .int .i64 (((R.nd a).lo + q : Nat) : Int)] W fun e W' => e = .returned (.int .i64 ((ls a).getD q 0 : Nat)) ∧ Cl W W'

end Go.Proofs.YtiblmojdjnfoaaaGreat

namespace Go.Proofs.YtiblmojdjnfoaaaGreat
open Go.RowKit Fl Lm Rg

attribute [local go_sem] Oper.semAt_some
set_option maxRecDepth 100000 in
set_option maxHeartbeats 4000000 in
theorem first_any {α : Type} (R : Tre α) (ls lst : α → List Nat) (T : Nat → Tr) (n0 n c cs : Nat) (K : List Int) (O D : V3) (xp ao az : Option Addr) (a0 : α) (w : World)
    (hC : TreC R ls lst T n0 a0) (hk0 : R.kk a0 = 0) (hsz : R.sz a0 ≤ 2000) (hN : NodeC R (.pointer xp) w) (hT : TriC R ls (.pointer xp) w)
    (hL : Sl w ao n 9 fun i => tcs (T i)) (hK : Sl w az K.length 1 (kvs K)) (hn0 : n0 ≤ n) (hn : n ≤ 1000) (h5 : K.length ≤ 1000) :
    Calls Tryz.prog 15 #[.pointer xp, .slice ao n c, .agg #[.float .f64 O.x, .float .f64 O.y, .float .f64 O.z, .float .f64 D.x, .float .f64 D.y, .float .f64 D.z], .slice az K.length cs] w fun e W' => ∃ b, e = .returned (hitN b) ∧ Best (metK T K O D) n0 b [] ∧ Cl w W' := by
  have hmx : Tryz.prog.follows .mixedOrders = true := by kernel_rfl
  have HC := aside hC
  have HK5 := aside h5
  have HN := hid hN
  have HT := hid hT
  have HL := hid hL
  have HK := hid hK
  clear hC hN hT hL hK
  refine (callsIn_wide (n := 0)).1 (callsIn_of_wp_marks Tryz.func15 rfl trivial ?_ rfl)
  simp only [Tryz.ntmps15, List.size_toArray, List.length_cons, List.length_nil, Nat.reduceAdd, Nat.reduceSub, Array.replicate_succ, Array.replicate_zero, List.push_toArray, List.append_toArray, List.nil_append, List.cons_append]
  refine wpIn_wide.2 ?_
  go_wp2_with fail
  refine Lp.settle (fun w' => Lp.Bk w' w.heap.size #[.float .f64 O.x, .float .f64 O.y, .float .f64 O.z, .float .f64 D.x, .float .f64 D.y, .float .f64 D.z] 27 ∧ Lp.Bk w' (w.heap.size + 1) #[.int .i64 0, .float .f64 0, .float .f64 0, .float .f64 0] 35 ∧ Cl w w') ⟨(Lp.Bk.al _ _ _).alo _, Lp.Bk.al1 _ _ _ _, ((Below.refl _ _).alloc (Nat.le_refl _) _).alloc (by simp) _⟩ ?_
  rintro v1 ⟨BY, BR, HB⟩
  apply Lw.region _ _ 7 (by kernel_rfl) (by kernel_rfl) (by kernel_rfl) (Below.refl _ _)
  apply Lw.facts
  · intro w1 hw
    exact (BY.cl hw).cell
  intro HF
  apply Lw.any rfl
  · intro w3 hw
    go_simp
    exact Lw.ret (nothing_any _)
  intro K0 hK0
  rintro v rfl
  go_simp
  refine hK0.out _ ?_
  clear hK0 K0
  iterate 3 (
    apply Lw.one ?_ rfl
    · intro w3 hw
      have k0 := HF.out _ hw
      go_simp
      exact rfl
    intro K0 hK0
    go_simp
    refine hK0.out _ ?_
    clear hK0 K0)
  apply Lw.anyW (V := fun v w' => ∃ gl gs gr, v = askV gl gs gr ∧ AskB w' gl gs gr ao n c az K.length cs O D ∧ (v1.heap.size ≤ gl ∧ v1.heap.size ≤ gs ∧ v1.heap.size ≤ gr)) rfl
  · exact fun v x y hb ⟨gl, gs, gr, e, h, hg⟩ => ⟨gl, gs, gr, e, h.keep hb, hg⟩
  · intro w3 hw _
    go_simp
    exact Calls.mono (asker_b O D n c K.length cs ao az _) fun e w' ⟨v, he, ⟨gl, gs, gr, h1, h2, h3⟩, hb⟩ => ⟨v, he, ⟨gl, gs, gr, h1, h2, by have := hw.size; omega⟩, hb⟩
  intro K0 hK0 v hv
  obtain ⟨_, _, gl, gs, gr, rfl, _, hgl⟩ := hv
  go_simp
  refine hK0.out _ _ ?_
  clear hK0 K0
  apply Lw.new _ rfl
  · intro w3 hw
    go_simp
    exact rfl
  intro K0 hK0 b5 hb5
  go_simp
  refine hK0.out _ _ ?_
  clear hK0 K0
  apply Lw.new _ rfl
  · intro w3 hw
    go_simp
    exact rfl
  intro K0 hK0 b6 hb6
  go_simp
  refine hK0.out _ _ ?_
  clear hK0 K0
  rotate_left
  exact []
  refine Lw.finE ?_
  intro v2 hm hE
  obtain ⟨gl', gs', gr', e, hA, _⟩ := (hE 4).1.1.2 rfl
  have hg3 : gl = gl' ∧ gs = gs' ∧ gr = gr' := by
    unfold askV at e
    simpa using e
  obtain ⟨rfl, rfl, rfl⟩ := hg3
  have BH : Lp.Bk v2 b5 #[.int .i64 0, .float .f64 0, .float .f64 0, .float .f64 0] 35 := ((hE 5).1.2 rfl).2
  have BF : Lp.Bk v2 b6 #[.nilFunc] 63 := ((hE 6).2 rfl).2
  have hw1 : w.heap.size + 1 < v1.heap.size := BR.lt
  replace BY := BY.keep hm
  replace BR := BR.keep hm
  replace HB := HB.call hm
  have hv12 : v1.heap.size ≤ v2.heap.size := hm.size
  have n56 : b5 ≠ b6 := bk_ne BH BF (by decide)
  have nl5 : gl ≠ b5 := bk_ne hA.l BH (by decide)
  have ns5 : gs ≠ b5 := bk_ne hA.s BH (by decide)
  have nr5 : gr ≠ b5 := bk_ne hA.r BH (by decide)
  have nl6 : gl ≠ b6 := bk_ne hA.l BF (by decide)
  have ns6 : gs ≠ b6 := bk_ne hA.s BF (by decide)
  have nr6 : gr ≠ b6 := bk_ne hA.r BF (by decide)
  have hk2 := ((((((Kept.refl (X := fun k => k = b5 ∨ k = b6) v2).set (b := b5) (i := 0) (.inl rfl) (.int .i64 (-1))).set (b := b5) (i := 1) (.inl rfl) (.float .f64 0)).set (b := b5) (i := 2) (.inl rfl) (.float .f64 0)).set (b := b5) (i := 3) (.inl rfl) (.float .f64 0)).set (b := b6) (i := 0) (.inr rfl) (askV gl gs gr))
  have hA2 := hA.kept hk2 ⟨fun h => h.elim nl5 nl6, fun h => h.elim ns5 ns6, fun h => h.elim nr5 nr6⟩
  have BH2 : Lp.Bk (((((v2.setCell ⟨b5, 0, none⟩ (.int .i64 (-1))).setCell ⟨b5, 1, none⟩ (.float .f64 0)).setCell ⟨b5, 2, none⟩ (.float .f64 0)).setCell ⟨b5, 3, none⟩ (.float .f64 0)).setCell ⟨b6, 0, none⟩ (askV gl gs gr)) b5 #[.int .i64 (-1), .float .f64 0, .float .f64 0, .float .f64 0] 35 := ((((BH.set 0 _).set 1 _).set 2 _).set 3 _).seto n56 _
  have BF2 : Lp.Bk (((((v2.setCell ⟨b5, 0, none⟩ (.int .i64 (-1))).setCell ⟨b5, 1, none⟩ (.float .f64 0)).setCell ⟨b5, 2, none⟩ (.float .f64 0)).setCell ⟨b5, 3, none⟩ (.float .f64 0)).setCell ⟨b6, 0, none⟩ (askV gl gs gr)) b6 #[askV gl gs gr] 63 := Lp.Bk.set ((((BF.seto n56.symm _).seto n56.symm _).seto n56.symm _).seto n56.symm _) 0 _
  have BY2 := hk2.bk BY (by rintro (h | h) <;> omega)
  have BR2 := hk2.bk BR (by rintro (h | h) <;> omega)
  have HB2 := hk2.cl HB (by rintro k (h | h) <;> omega)
  have kH := BH.cell
  have zH := BH.frz
  have kF := BF.cell
  have zF := BF.frz
  have kY := BY.cell
  have lY := BY.lt
  have lH := BH.lt
  have lF := BF.lt
  have e56 : (b5 = b6) = False := eq_false n56
  have e65 : (b6 = b5) = False := eq_false n56.symm
  have eY5 : (w.heap.size = b5) = False := eq_false (by omega)
  have eY6 : (w.heap.size = b6) = False := eq_false (by omega)
  have HA2 := hid hA2
  have HBH := hid BH2
  have HBF := hid BF2
  have HBR := hid BR2
  have HB3 := hid HB2
  have HNE := aside (And.intro nl5 (And.intro ns5 (And.intro nr5 (And.intro n56.symm (And.intro hb5 (And.intro hb6 (And.intro hgl hw1)))))))
  clear hE hm e HF hA BH BF hA2 BH2 BF2 BY2 BR2 HB2 hk2 BY BR HB
  unfold askV at *
  go_wp2_with fail
  refine Lp.settleC (fun w' => AskB w' gl gs gr ao n c az K.length cs O D ∧ Lp.Bk w' b5 #[.int .i64 (-1), .float .f64 0, .float .f64 0, .float .f64 0] 35 ∧ Lp.Bk w' b6 #[.func (.func 42) #[] #[.pointer (some ⟨gl, 0, none⟩), .pointer (some ⟨gs, 0, none⟩), .pointer (some ⟨gr, 0, none⟩)]] 63 ∧ Lp.Bk w' (w.heap.size + 1) #[.int .i64 0, .float .f64 0, .float .f64 0, .float .f64 0] 35 ∧ Cl w w') ⟨HA2.out, HBH.out, HBF.out, HBR.out, HB3.out⟩ ?_
  clear HA2 HBH HBF HBR HB3 kH zH kF zF kY lY lH lF eY5 eY6
  rintro V ⟨hA, BH, BF, BR, HB⟩
  refine Calls.mono (candidates_any xp (.func 31) #[] #[.pointer (some ⟨b5, 0, none⟩)] O D _) ?_
  rintro e wL ⟨g1, g2, g3, rfl, hE2, hge, hm⟩
  have HA := hid (hA.keep hm)
  have HBH := hid (BH.keep hm)
  have HBF := hid (BF.keep hm)
  have HBR := hid (BR.keep hm)
  have HB := hid (HB.call hm)
  have HE2 := hid hE2
  have HGE := aside (And.intro hge (And.intro BH.lt (And.intro BF.lt (And.intro hA.l.lt (And.intro hA.s.lt (And.intro hA.r.lt hm.size))))))
  clear hA BH BF BR hE2 hge hm
  unfold canV
  go_wp2_with fail
  refine range_wp (gf := 58) (lb := #[.pointer (some ⟨g1, 0, none⟩), .pointer (some ⟨g2, 0, none⟩), .pointer (some ⟨g3, 0, none⟩)]) rfl (enters_of Tryz.func58 (by kernel_rfl) rfl) (fun W => ∃ b, Lp.Bk W b5 (hcs b) 35 ∧ Best (metK T K O D) n0 b [] ∧ Lp.Bk W (w.heap.size + 1) #[.int .i64 0, .float .f64 0, .float .f64 0, .float .f64 0] 35 ∧ Cl w W) (fun _ _ => False) ?hI ?hIx ?hcall ?hdone ?hstop
  case hI =>
    rintro W o ⟨b, h1, h2, h3, h4⟩
    have hge := HGE.out
    have hne := HNE.out
    have hsz1 := HB.out.size
    exact ⟨b, (World.putObj_heap_other (by omega)).trans h1, h2, (World.putObj_heap_other (by omega)).trans h3, below_put h4 (by omega) o⟩
  case hIx =>
    rintro c W o h
    exact h
  case hstop =>
    rintro c W h
    exact h.elim
  case hdone =>
    rintro W ⟨b, h1, h2, h3, h4⟩ hK
    have hge := HGE.out
    have hne := HNE.out
    have HF := aside (hitN_is b)
    obtain ⟨q0, q1, q2, q3, e4⟩ := hcs_four b
    rw [e4] at h1 HF
    have k5 := h1.cell
    have kR := h3.cell
    have zR := h3.frz
    have eR5 : (w.heap.size + 1 = b5) = False := eq_false (by omega)
    have e5R : (b5 = w.heap.size + 1) = False := eq_false (by omega)
    have HX := aside (And.intro h1 (And.intro h2 (And.intro h3 (And.intro h4 (And.intro hK (And.intro hge hne))))))
    clear h1 h2 h3 h4 hK hge hne e4
    go_wp2_with fail
    obtain ⟨h1, h2, h3, h4, hK, hge, hne⟩ := HX.out
    have hR2 := (((h3.set 0 (.int .i64 q0)).set 1 (.float .f64 q1)).set 2 (.float .f64 q2)).set 3 (.float .f64 q3)
    have hK2 : ((((W.setCell ⟨w.heap.size + 1, 0, none⟩ (.int .i64 q0)).setCell ⟨w.heap.size + 1, 1, none⟩ (.float .f64 q1)).setCell ⟨w.heap.size + 1, 2, none⟩ (.float .f64 q2)).setCell ⟨w.heap.size + 1, 3, none⟩ (.float .f64 q3)).heap[wL.heap.size]? = some (.deferred (some [])) := (Below.heap_setCell _ _ _ _ (by dsimp only; omega)).trans ((Below.heap_setCell _ _ _ _ (by dsimp only; omega)).trans ((Below.heap_setCell _ _ _ _ (by dsimp only; omega)).trans ((Below.heap_setCell _ _ _ _ (by dsimp only; omega)).trans hK)))
    have hB2 : Cl w ((((W.setCell ⟨w.heap.size + 1, 0, none⟩ (.int .i64 q0)).setCell ⟨w.heap.size + 1, 1, none⟩ (.float .f64 q1)).setCell ⟨w.heap.size + 1, 2, none⟩ (.float .f64 q2)).setCell ⟨w.heap.size + 1, 3, none⟩ (.float .f64 q3)) := Below.setCell (Below.setCell (Below.setCell (Below.setCell h4 (by dsimp only; omega) _) (by dsimp only; omega) _) (by dsimp only; omega) _) (by dsimp only; omega) _
    refine ⟨by simp, .inl ⟨_, _, rfl, run_takeDeferred hK2, ?_⟩⟩
    have hR3 := (World.putObj_heap_other (r := wL.heap.size) (o := .deferred none) (show w.heap.size + 1 ≠ wL.heap.size by omega)).trans hR2
    have k3 := Lp.Bk.cell hR3
    exact ⟨.agg #[.int .i64 q0, .float .f64 q1, .float .f64 q2, .float .f64 q3], by simp [results, go_sem, k3], b, by rw [HF.out], h2, below_put hB2 (by have := HB.out.size; omega) _⟩
  case hcall =>
    intro fn rec W1 hrec hC1 hS1 hl1 hd1
    have HREC := aside hrec
    clear hrec
    have HQ1 := aside (And.intro HGE.out HNE.out)
    refine Calls.mono (candidates1_any R ls O D xp 31 #[.pointer (some ⟨b5, 0, none⟩)] (wL.heap.size + 1) (fun k => k = b5 ∨ k = wL.heap.size + 1) w
      (fun s q W => ∃ b : Hit, Lp.Bk W b5 (hcs b) 35 ∧ Best (metK T K O D) n0 b (q ++ s.flatMap lst) ∧ (∀ i, i ∈ q → i < n0) ∧ b.Fine ∧ AskB W gl gs gr ao n c az K.length cs O D ∧ Lp.Bk W b6 #[.func (.func 42) #[] #[.pointer (some ⟨gl, 0, none⟩), .pointer (some ⟨gs, 0, none⟩), .pointer (some ⟨gr, 0, none⟩)]] 63 ∧ Lp.Bk W (w.heap.size + 1) #[.int .i64 0, .float .f64 0, .float .f64 0, .float .f64 0] 35 ∧ Cl w W ∧ W.heap[wL.heap.size + 1]? = some (.loop (rec .ready none)) ∧ W.heap[wL.heap.size]? = some (.deferred (some [])) ∧ W1.heap.size ≤ W.heap.size)
      (fun _ => False) a0 g1 g2 g3 W1 hk0 hsz (HE2.out.keep hC1) ?_ ?_ (enters_of Tryz.func31 (by kernel_rfl) rfl) HN.out HC.out.hi HT.out ?_ ?_ ?_ ?_ ?_ ?_ ?_ ?_) ?_
    · have hq := HQ1.out
      have l1 := HE2.out.x.lt
      have l2 := HE2.out.r.lt
      have l3 := HE2.out.g.lt
      refine ⟨fun h => ?_, fun h => ?_, fun h => ?_⟩ <;> omega
    · have hq := HQ1.out
      rintro k (h | h) <;> omega
    · rintro s q W ⟨b, _, _, _, _, _, _, _, h, _⟩
      exact h
    · rintro s q W W' ⟨b, h1, h2, hlt, h3, h4, h5, h6, h7, h8, h9, h10⟩ hb
      have hq := HQ1.out
      have hs := HB.out.size
      exact ⟨b, (hb.block _ (by omega)).trans h1, h2, hlt, h3, h4.low hb (by omega), (hb.block _ (by omega)).trans h5, (hb.block _ (by omega)).trans h6, h7.trans (hb.mono (by omega)), (hb.block _ (by omega)).trans h8, (hb.block _ (by omega)).trans h9, Nat.le_trans h10 hb.size⟩
    · rintro W W' h _
      exact h
    · rintro a s W ⟨b, h1, h2, h3, hr⟩ hq
      refine ⟨b, h1, ?_, h3, hr⟩
      rw [List.flatMap_cons, List.nil_append] at h2
      refine h2.less fun i hi _ => .inl ?_
      cases hth : R.th a with
      | false => rw [HC.out.off a hth] at hi; cases hi
      | true =>
        have hg := hq.resolve_left (by rw [hth]; decide)
        rw [HC.out.box a hth] at hg
        unfold metK
        rw [box_none HC.out.mo hi hg]
        split <;> rfl
    · rintro a s W z ⟨b, h1, h2, h3, hr⟩ hz
      refine ⟨worthF b z.1, first1_any b z.1 b5 W h1, fun hw => ⟨b, h1, ?_, h3, hr⟩⟩
      rw [List.flatMap_cons, List.nil_append] at h2
      refine h2.less fun i hi _ => ?_
      cases hth : R.th a with
      | false => rw [HC.out.off a hth] at hi; cases hi
      | true =>
        rw [HC.out.box a hth] at hz
        rcases b with _ | ⟨j, h⟩
        · cases hw
        · cases hm : metK T K O D i with
          | none => exact .inl rfl
          | some g =>
            refine .inr ⟨j, h, g, rfl, rfl, ?_⟩
            unfold metK at hm
            split at hm
            · cases hm
            · exact box_far HC.out.mo hi hz hw hm
    · rintro a s W z ⟨b, h1, h2, _, hr⟩ hth hz
      refine ⟨b, h1, ?_, HC.out.lt a, hr⟩
      rw [List.flatMap_cons, List.nil_append] at h2
      refine h2.more fun i hi => ?_
      rw [List.flatMap_append, List.mem_append, List.mem_append]
      rcases List.mem_append.1 hi with h | h
      · rcases HC.out.nx a i hth h with ⟨b', hb1, hb2⟩ | h
        · exact .inr (.inl (List.mem_flatMap.2 ⟨b', hb1, hb2⟩))
        · exact .inl h
      · exact .inr (.inr h)
    · rintro i s q W ⟨b, h1, h2, hlt, h3, h4, h5, h6, h7, h8, h9, h10⟩
      have hi0 : i < n0 := hlt i (List.mem_cons_self ..)
      have hin : i < n := by omega
      have HRD := hid h8
      obtain ⟨G, hG⟩ : ∃ G : World → Prop, G = fun W' => Kept (fun k => k = b5 ∨ k = wL.heap.size + 1) W W' ∧ ∃ b : Hit, Lp.Bk W' b5 (hcs b) 35 ∧ Best (metK T K O D) n0 b (q ++ s.flatMap lst) ∧ (∀ i, i ∈ q → i < n0) ∧ b.Fine ∧ AskB W' gl gs gr ao n c az K.length cs O D ∧ Lp.Bk W' b6 #[.func (.func 42) #[] #[.pointer (some ⟨gl, 0, none⟩), .pointer (some ⟨gs, 0, none⟩), .pointer (some ⟨gr, 0, none⟩)]] 63 ∧ Lp.Bk W' (w.heap.size + 1) #[.int .i64 0, .float .f64 0, .float .f64 0, .float .f64 0] 35 ∧ Cl w W' ∧ W'.heap[wL.heap.size + 1]? = some (.loop (rec .ready none)) ∧ W'.heap[wL.heap.size]? = some (.deferred (some [])) ∧ W1.heap.size ≤ W'.heap.size := ⟨_, rfl⟩
      refine yield_mono (R := fun e W' => e = .returned (.bool true) ∧ G W') ?_ (by rintro e w' ⟨rfl, hg⟩; rw [hG] at hg; exact ⟨true, rfl, hg.1, hg.2⟩)
      have HG := aside hG
      clear hG
      refine round_at rfl HREC.out h8 ?_
      clear h8
      gi_wp2
      refine ⟨HRD.out, ?_⟩
      have hlR := (Array.getElem?_eq_some_iff.1 HRD.out).1
      obtain ⟨v1, hv1⟩ : ∃ v1, v1 = W.putObj (wL.heap.size + 1) (.loop (rec .busy none)) := ⟨_, rfl⟩
      have hq1 := HQ1.out
      have hp1 : Below (wL.heap.size + 1) W v1 := by rw [hv1]; exact below_put (Below.refl _ _) (Nat.le_refl _) _
      have hr1 : v1.heap[wL.heap.size + 1]? = some (.loop (rec .busy none)) := by rw [hv1]; exact World.putObj_heap_same hlR
      have hk1 : Kept (fun k => k = b5 ∨ k = wL.heap.size + 1) W v1 := by rw [hv1]; exact (Kept.refl W).put (.inr rfl) _
      rw [← hv1]
      clear hv1
      have hb1 : Lp.Bk v1 b5 (hcs b) 35 := (hp1.block _ (by omega)).trans h1
      have hA1 := h4.low hp1 (by omega)
      have hf1 := (hp1.block b6 (by omega)).trans h5
      have hC1' := hk1.cl h7 (by have := HB.out.size; rintro k (h | h) <;> omega)
      have hAR := hA1.asks hC1' HL.out HK.out
      have HASK := hid (fun w' (hw : Below v1.heap.size v1 w') => ask1_any T K O D n i gl gs gr w' (hAR.keep hw) hin hn HK5.out)
      have HAH := hid (fun w' => ahead_any (askN (metK T K O D) i) b (metK_fine T K O D i) h3 w')
      obtain ⟨q0, q1, q2, q3, e4⟩ := hcs_four b
      obtain ⟨r0, r1, r2, r3, e5⟩ := hcs_four (aheadN (askN (metK T K O D) i) b)
      have HF5 := aside e5
      have HF4 := aside e4
      rw [hitN_is b, hitN_is (aheadN (askN (metK T K O D) i) b), e4, e5] at HAH
      rw [e4] at hb1
      generalize hitN (askN (metK T K O D) i) = va at HASK HAH
      have HBB := hid hb1
      have HFF : Hid (Lp.Bk v1 b6 #[.func (.func 42) #[] #[.pointer (some ⟨gl, 0, none⟩), .pointer (some ⟨gs, 0, none⟩), .pointer (some ⟨gr, 0, none⟩)]] 63) := hf1
      have HFIN := hid (fun w6 (hm6 : Cl v1 w6) => show ((((w6.setCell ⟨b5, 0, none⟩ (.int .i64 r0)).setCell ⟨b5, 1, none⟩ (.float .f64 r1)).setCell ⟨b5, 2, none⟩ (.float .f64 r2)).setCell ⟨b5, 3, none⟩ (.float .f64 r3)).heap[wL.heap.size + 1]? = some (.loop (rec .busy none)) ∧ G (((((w6.setCell ⟨b5, 0, none⟩ (.int .i64 r0)).setCell ⟨b5, 1, none⟩ (.float .f64 r1)).setCell ⟨b5, 2, none⟩ (.float .f64 r2)).setCell ⟨b5, 3, none⟩ (.float .f64 r3)).putObj (wL.heap.size + 1) (.loop (rec .ready none))) from by
        have BB6 := HBB.out.keep hm6
        obtain ⟨V, hV⟩ : ∃ V, V = ((((w6.setCell ⟨b5, 0, none⟩ (.int .i64 r0)).setCell ⟨b5, 1, none⟩ (.float .f64 r1)).setCell ⟨b5, 2, none⟩ (.float .f64 r2)).setCell ⟨b5, 3, none⟩ (.float .f64 r3)) := ⟨_, rfl⟩
        have hq1 := HQ1.out
        have hsz1 := HB.out.size
        have K1 : Kept (fun k => k = b5 ∨ k = wL.heap.size + 1) v1 V := by rw [hV]; exact (((((Kept.of hm6).set (.inl rfl) _).set (.inl rfl) _).set (.inl rfl) _).set (.inl rfl) _)
        have hrV : V.heap[wL.heap.size + 1]? = some (.loop (rec .busy none)) := by rw [hV]; exact (Below.heap_setCell _ _ _ _ (by dsimp only; omega)).trans ((Below.heap_setCell _ _ _ _ (by dsimp only; omega)).trans ((Below.heap_setCell _ _ _ _ (by dsimp only; omega)).trans ((Below.heap_setCell _ _ _ _ (by dsimp only; omega)).trans ((hm6.block _ (Array.getElem?_eq_some_iff.1 hr1).1).trans hr1))))
        have BV : Lp.Bk V b5 (hcs (aheadN (askN (metK T K O D) i) b)) 35 := by rw [hV, HF5.out]; exact ((((BB6.set 0 _).set 1 _).set 2 _).set 3 _)
        rw [← hV, HG.out]
        clear hV
        have KZ := (hk1.trans K1).put (r := wL.heap.size + 1) (.inr rfl) (.loop (rec .ready none))
        have x1 : ¬ (gl = b5 ∨ gl = wL.heap.size + 1) := by omega
        have x2 : ¬ (gs = b5 ∨ gs = wL.heap.size + 1) := by omega
        have x3 : ¬ (gr = b5 ∨ gr = wL.heap.size + 1) := by omega
        have x4 : ¬ (b6 = b5 ∨ b6 = wL.heap.size + 1) := by omega
        have x5 : ¬ (w.heap.size + 1 = b5 ∨ w.heap.size + 1 = wL.heap.size + 1) := by omega
        have x6 : ∀ k, (k = b5 ∨ k = wL.heap.size + 1) → w.heap.size ≤ k := by rintro k (h | h) <;> omega
        have x7 : ¬ (wL.heap.size = b5 ∨ wL.heap.size = wL.heap.size + 1) := by omega
        have x8 : b5 ≠ wL.heap.size + 1 := by omega
        have x9 : wL.heap.size < W.heap.size := by omega
        exact ⟨hrV, KZ, aheadN (askN (metK T K O D) i) b, (World.putObj_heap_other x8).trans BV, h2.step hi0, fun j hj => hlt j (List.mem_cons_of_mem _ hj), (metK_fine T K O D i).ahead h3, h4.kept KZ ⟨x1, x2, x3⟩, KZ.bk h5 x4, KZ.bk h6 x5, KZ.cl h7 x6, World.putObj_heap_same (Array.getElem?_eq_some_iff.1 hrV).1, (KZ.block _ x9 x7).trans h9, Nat.le_trans h10 KZ.size⟩)
      have kB := hb1.cell
      have zB := hb1.frz
      have kF := HFF.out.cell
      clear h1 h2 hlt h3 h4 h5 h6 h7 h9 h10 hp1 hr1 hk1 hb1 hA1 hf1 hC1' hAR e4 e5 hq1 hlR hi0
      gi_wp2
      gi_region_with_o (first
        | (refine ⟨trivial, rfl, ?_⟩; gi_at_call 42; refine (CallsIn.inRound (wL.heap.size + 1) ((callsIn_wide (n := 0)).2 (HASK.out _ (Fl.Cl.drew' (Below.refl _ _))))).mono ?_; rintro e w5 ⟨v, rfl, rfl, hm⟩; have hm' : Cl v1 w5 := (Fl.Cl.drew' (Below.refl _ _)).call hm; have HM5 := hid hm'; have BB5 := HBB.out.keep hm'; have kB5 := BB5.cell; have zB5 := BB5.frz; clear hm hm' BB5)
        | (refine ⟨trivial, rfl, ?_⟩; gi_at_call 23; refine (CallsIn.inRound (wL.heap.size + 1) ((callsIn_wide (n := 0)).2 (HAH.out _))).mono ?_; rintro e w6 ⟨v, rfl, rfl, hm⟩; have HM6 := hid (Fl.Cl.call HM5.out hm); have BB6 := hid (HBB.out.keep HM6.out); have kB6 := BB6.out.cell; have zB6 := BB6.out.frz; clear hm))
      all_goals exact And.intro (HFIN.out w6 HM6.out).1 (And.intro rfl (HFIN.out w6 HM6.out).2)
    · refine ⟨none, HBH.out.keep hC1, ?_, fun i hi => (by cases hi), Hit.Fine.none, HA.out.keep hC1, HBF.out.keep hC1, HBR.out.keep hC1, HB.out.call hC1, hl1, hd1, Nat.le_refl _⟩
      refine Best.start.more fun i hi => ?_
      simpa using HC.out.all i (List.mem_range.1 hi)
    · rintro e W2 ⟨hv, ⟨b, h1, h2, _, h3, h4, h5, h6, h7, h8, h9, h10⟩ | h⟩
      · exact ⟨hv, .inl ⟨⟨b, h1, by simpa using h2, h6, h7⟩, h8, h9⟩⟩
      · exact h.elim
end Go.Proofs.YtiblmojdjnfoaaaGreat
