/- Package alias: lay. -/
import Derived.Deep.LoopGhost
import Derived.Deep.RegionWith
import Derived.WalkMore
import Derived.Test.YtmnemandmpoioaaAg
namespace Go.Proofs.Ytmnemandmpoioaa
open Go.RowKit Fl

/-- What is known while the columns are laid. -/
structure LayS (w0 w : World) (T : Nat) (sw : Value) (gt ct ga ca D gh R n : Nat) (tot : Int) (H TH : Nat → Int) (AL : Nat → Nat) (L HV : List Nat) : Prop where
  bT : Lp.Bk w T #[sw, .slice (some ⟨gt, 0, none⟩) n ct, .slice (some ⟨ga, 0, none⟩) n ca, .int .i64 tot] 51
  it : Ir w gt n TH
  ia : Ir w ga n (fun i => (AL i : Int))
  bD : Lp.Bk w D #[.slice (some ⟨gh, 0, none⟩) n n] 22
  ih : Ir w gh n H
  rm : Room w R n L HV
  n0 : T < w0.heap.size
  n1 : w0.heap.size ≤ gt
  n2 : w0.heap.size ≤ ga
  n3 : w0.heap.size ≤ D
  n4 : w0.heap.size ≤ gh
  n5 : w0.heap.size ≤ R
  d1 : gt ≠ ga
  d2 : gt ≠ D
  d3 : gt ≠ gh
  d4 : gt ≠ R
  d5 : ga ≠ D
  d6 : ga ≠ gh
  d7 : ga ≠ R
  d8 : D ≠ gh
  d9 : D ≠ R
  d0 : gh ≠ R
  bt : But T w0 w
section
variable {w0 w w' : World} {T : Nat} {sw : Value} {gt ct ga ca D gh R n : Nat} {tot : Int} {H TH : Nat → Int} {AL : Nat → Nat} {L HV : List Nat}
theorem LayS.keep (h : LayS w0 w T sw gt ct ga ca D gh R n tot H TH AL L HV) (hb : Below w.heap.size w w') : LayS w0 w' T sw gt ct ga ca D gh R n tot H TH AL L HV :=
  { h with bT := h.bT.keep hb, it := h.it.keep hb, ia := h.ia.keep hb, bD := h.bD.keep hb, ih := h.ih.keep hb, rm := h.rm.keep hb, bt := h.bt.trans (But.of hb) }
theorem But.setnew {T : Nat} {w0 w : World} (h : But T w0 w) {p : Addr} (hp : w0.heap.size ≤ p.block) (u : Value) : But T w0 (w.setCell p u) := h.more ((Below.refl _ _).setCell hp u)
theorem Iro.ext {w : World} {g off n : Nat} {f f' : Nat → Int} (h : Iro w g off n f) (e : ∀ i, f i = f' i) : Iro w g off n f' := h.congr fun i _ => e i
theorem LayS.put (h : LayS w0 w T sw gt ct ga ca D gh R n tot H TH AL L HV) {x : Nat} (hx : x < n) (v : Int) (y : Nat) :
    LayS w0 ((w.setCell ⟨gt, x, none⟩ (.int .i64 v)).setCell ⟨ga, x, none⟩ (.int .i64 y)) T sw gt ct ga ca D gh R n tot H (upd TH x v) (upd AL x y) L HV := by
  have a0 := h.n0; have a1 := h.n1; have a2 := h.n2
  refine { h with bT := (h.bT.seto (by show T ≠ gt; omega) _).seto (by show T ≠ ga; omega) _, it := (h.it.set hx v).seto h.d1 _, ia := ?_, bD := (h.bD.seto (Ne.symm h.d2) _).seto (Ne.symm h.d5) _, ih := (h.ih.seto (Ne.symm h.d3) _).seto (Ne.symm h.d6) _, rm := (h.rm.seto (Ne.symm h.d4) _).seto (Ne.symm h.d7) _, bt := (h.bt.setnew (p := ⟨gt, x, none⟩) h.n1 _).setnew (p := ⟨ga, x, none⟩) h.n2 _ }
  refine ((h.ia.seto (p := ⟨gt, x, none⟩) (Ne.symm h.d1) _).set hx (y : Int)).ext fun i => ?_
  unfold upd
  split <;> rfl
theorem LayS.less (h : LayS w0 w T sw gt ct ga ca D gh R n tot H TH AL L HV) {y : Nat} (hy : y < n) (v : Int) : LayS w0 (w.setCell ⟨gh, y, none⟩ (.int .i64 v)) T sw gt ct ga ca D gh R n tot (upd H y v) TH AL L HV := by
  have a0 := h.n0; have a1 := h.n4
  exact { h with bT := h.bT.seto (by show T ≠ gh; omega) _, it := h.it.seto h.d3 _, ia := h.ia.seto h.d6 _, bD := h.bD.seto h.d8 _, ih := h.ih.set hy v, rm := h.rm.seto (Ne.symm h.d0) _, bt := h.bt.setnew (p := ⟨gh, y, none⟩) h.n4 _ }
theorem LayS.push (h : LayS w0 w T sw gt ct ga ca D gh R n tot H TH AL L HV) (hl : L.length < n) (y : Nat) : LayS w0 (w.setCell ⟨R, L.length, none⟩ (.int .i64 y)) T sw gt ct ga ca D gh R n tot H TH AL (y :: L) HV := by
  have a0 := h.n0; have a1 := h.n5
  exact { h with bT := h.bT.seto (by show T ≠ R; omega) _, it := h.it.seto h.d4 _, ia := h.ia.seto h.d7 _, bD := h.bD.seto h.d9 _, ih := h.ih.seto h.d0 _, rm := h.rm.pushL hl y, bt := h.bt.setnew (p := ⟨R, L.length, none⟩) h.n5 _ }
theorem LayS.pop {x : Nat} (h : LayS w0 w T sw gt ct ga ca D gh R n tot H TH AL (x :: L) HV) : LayS w0 w T sw gt ct ga ca D gh R n tot H TH AL L HV := { h with rm := h.rm.popL }
end
theorem suffix_at {W V : List Nat} {y : Nat} : (W ++ y :: V).reverse[V.length]? = some y := by
  rw [List.reverse_append, List.getElem?_append_left (by simp)]
  exact rev_top y V
theorem Lists.tailV {t M : Int} {n : Nat} {H : Nat → Int} {y : Nat} {L V : List Nat} (h : Lists t M n H L (y :: V)) : Lists t M n H L V :=
  ⟨h.lt, fun z hz => h.hv z (by simp [hz]), h.lu, (List.nodup_cons.1 h.vu).2⟩

set_option maxRecDepth 100000 in
set_option maxHeartbeats 4000000 in
theorem lay_any (T n gw cw : Nat) (tot : Int) (ws : Nat → Int) (w : World) (hT : Lp.Bk w T #[.slice (some ⟨gw, 0, none⟩) n cw, .slice none 0 0, .slice none 0 0, .int .i64 tot] 51) (hW : Ir w gw n ws) (hne : gw ≠ T) (h0 : 0 < n) (hn : n ≤ 1024) (hws : ∀ i, i < n → 0 ≤ ws i ∧ ws i ≤ 1048576) (ht : 0 ≤ tot ∧ tot ≤ 1073741824) :
    Calls Try.prog 22 #[.pointer (some ⟨T, 0, none⟩)] w fun e w' => e = .returned (.tuple #[]) ∧ Tbl w' T n tot ws (colsF tot n ws).1 (colsF tot n ws).2 ∧ But T w w' := by
  obtain ⟨i0, hi, hz0, hz1, hz2⟩ := info_int
  have hH : ∀ i, i < n → 0 ≤ hasF n ws i ∧ hasF n ws i ≤ 1073741824 := fun i hi => by
    have := hws i hi
    have a := Int.mul_nonneg this.1 (show (0 : Int) ≤ n by omega)
    have b := Int.mul_le_mul this.2 (show (n : Int) ≤ 1024 by omega) (by omega) (by decide)
    unfold hasF
    omega
  have HLS := hid (lists_start (t := tot) (M := 1073741824) (fun i hi => (hH i hi).1) (fun i hi => (hH i hi).2))
  have HO := hid (own_any T n gw cw tot w hT h0 hn)
  have HRM := hid (fun st sa w hT hw => rem_any T n gw cw tot st sa ws w hT hw hn hws)
  have HPA := hid (fun D gh st sa w hT hD hI hne => parted_any T n gw cw D gh tot st sa (hasF n ws) w hT hD hI h0 hn hH hne)
  have HW := hid hW
  have HNE := hid hne
  have HT0 := hid hT.lt
  have HFN := aside (show fin tot ((lights tot (hasF n ws) n).length + (heavies tot (hasF n ws) n).length) (hasF n ws) (fun _ => tot) (fun i => i) (lights tot (hasF n ws) n) (heavies tot (hasF n ws) n) = colsF tot n ws by rw [both_len]; rfl)
  have HLN := aside (both_len tot (hasF n ws) n)
  clear hT hW hne hws hH
  generalize hasF n ws = H0 at *
  generalize colsF tot n ws = F at *
  generalize lights tot H0 n = L0 at *
  generalize heavies tot H0 n = HV at *
  go_enter Try.func22, Try.ntmps22
  go_wp2_with fail
  go_step3
  go_wp2_with fail
  refine Calls.mono HO.out ?_
  rintro e w1 ⟨gt, ct, ga, ca, rfl, hT, ht1, ha1, n1, n2, d1, hb1⟩
  have HW1 := hid (hb1.ir HW.out HNE.out)
  have HT1 := hid hT
  have HTT := hid ht1
  have HAA := hid ha1
  have HB1 := hid hb1
  have HN1 := hid (And.intro n1 (And.intro n2 d1))
  clear hT ht1 ha1 n1 n2 d1 hb1 HO
  go_wp2_with fail
  refine Calls.mono (HRM.out _ _ _ HT1.out HW1.out) ?_
  rintro e w2 ⟨D, gh, rfl, hD, hI, n3, n4, d8, hb⟩
  have HD2 := hid hD
  have HI2 := hid hI
  have HT2 := hid (HT1.out.keep hb)
  have HTT2 := hid (HTT.out.keep hb)
  have HAA2 := hid (HAA.out.keep hb)
  have HB2 := hid (HB1.out.trans (But.of hb))
  have HN2 := hid (And.intro n3 (And.intro n4 d8))
  have HS2 := hid hb.size
  clear hD hI n3 n4 d8 hb
  go_wp2_with fail
  refine Calls.mono (HPA.out _ _ _ _ _ HT2.out HD2.out HI2.out HN2.out.2.2) ?_
  rintro e w3 ⟨R, rfl, n5, hR, hb⟩
  have HL3 : Hid (LayS w w3 T (.slice (some ⟨gw, 0, none⟩) n cw) gt ct ga ca D gh R n tot H0 (fun _ => tot) (fun i => i) L0 HV) := by
    obtain ⟨a1, a2, a3⟩ := HN1.out
    obtain ⟨b1, b2, b3⟩ := HN2.out
    have s1 := HB1.out.size
    have s2 := HS2.out
    have l1 := HTT.out.lt
    have l2 := HAA.out.lt
    have l3 := HD2.out.lt
    have l4 := HI2.out.lt
    exact ⟨HT2.out.keep hb, HTT2.out.keep hb, HAA2.out.keep hb, HD2.out.keep hb, HI2.out.keep hb, hR, HT0.out, a1, a2, by omega, by omega, by omega, a3, by omega, by omega, by omega, by omega, by omega, by omega, b3, by omega, by omega, HB2.out.trans (But.of hb)⟩
  clear hR hb n5 HTT2 HAA2 HB2 HN2 HS2 HD2 HI2 HT2 HPA HRM HTT HAA HB1 HN1 HT1 HW1
  have hHl : HV.length ≤ n := by have := HLN.out; omega
  go_wp2_with fail
  go_step3
  go_wp2_with fail
  go_loopg [3, 5] HV.length (fun k l i wr => ∃ (L V W : List Nat) (H TH : Nat → Int) (AL : Nat → Nat), k = V.length ∧ HV = W ++ V ∧ i = .int .i64 ((V.length : Int) - 1) ∧ l = .slice (some ⟨R, 0, none⟩) L.length n ∧ L.length + V.length ≤ n ∧
    LayS w wr T (.slice (some ⟨gw, 0, none⟩) n cw) gt ct ga ca D gh R n tot H TH AL L HV ∧ Lists tot 1073741824 n H L V ∧ fin tot (L.length + V.length) H TH AL L V = F)
  case atStart => exact ⟨L0, HV, [], H0, _, _, rfl, rfl, rfl, rfl, Nat.le_of_eq HLN.out, HL3.out, HLS.out, HFN.out⟩
  case round =>
    clear HL3
    obtain ⟨g0, hg0⟩ : ∃ g0, g0 = gk := ⟨_, rfl⟩
    subst hg0
    obtain ⟨L, V, W, H, TH, AL, hk, hV, rfl, rfl, hn1, hS, hL, hF⟩ := hrel
    have HK := aside hk
    have HV1 := aside hV
    have HS := hid hS
    have HL := hid hL
    have HF := aside hF
    clear hk hV hS hL hF
    cases V with
    | nil =>
      have e1 : (((([] : List Nat).length : Nat) : Int) - 1) = -1 := rfl
      rw [e1]
      clear e1
      have HF2 := aside ((fin_last _ _ _ _ _ _).symm.trans HF.out)
      go_wp2_with fail
      rw [Exit.noGoto_normal]
      go_end0
      have hS := HS.out
      have hF := HF2.out
      refine ⟨rfl, ?_, hS.bt⟩
      rw [← hF]
      exact ⟨gw, cw, gt, ct, ga, ca, hS.bT, hS.bt.ir HW.out HNE.out, hS.it, hS.ia⟩
    | cons y V =>
      have e1 : (((y :: V).length : Nat) : Int) - 1 = (V.length : Int) := by simp
      rw [e1]
      clear e1
      have hVl : V.length < n := by simp only [List.length_cons] at hn1; omega
      have kY := HS.out.rm.atV (i := V.length) (x := y) (by rw [HV1.out]; exact suffix_at)
      have hHV : V.length < HV.length := by rw [HV1.out]; simp; omega
      go_wp2_with fail
      clear kY
      go_loopg [3] L.length (fun k l wi => ∃ (L2 : List Nat) (H2 TH2 : Nat → Int) (AL2 : Nat → Nat), k = L2.length ∧ l = .slice (some ⟨R, 0, none⟩) L2.length n ∧ L2.length + (V.length + 1) ≤ n ∧
        LayS w wi T (.slice (some ⟨gw, 0, none⟩) n cw) gt ct ga ca D gh R n tot H2 TH2 AL2 L2 HV ∧ Lists tot 1073741824 n H2 L2 (y :: V) ∧ fin tot (L2.length + (V.length + 1)) H2 TH2 AL2 L2 (y :: V) = F)
      case atStart => exact ⟨L, H, TH, AL, rfl, rfl, hn1, HS.out, HL.out, HF.out⟩
      case round =>
        clear HS HL HF hn1
        obtain ⟨L2, H2, TH2, AL2, hk, rfl, hn2, hS, hL, hF⟩ := hrel
        have HK2 := aside hk
        have HS := hid hS
        have HL := hid hL
        have HF := aside hF
        clear hk hS hL hF
        cases L2 with
        | nil =>
          go_wp2_with fail
          go_roundg (g0 - 1)
          case measure => have := HK.out; simp only [List.length_cons] at this; omega
          case rel =>
            exact ⟨[], V, W ++ [y], _, _, _, by have := HK.out; simp only [List.length_cons] at this; omega, by rw [HV1.out]; simp, rfl, rfl, by simp; omega, HS.out, HL.out.tailV, by rw [fin_none]; exact (fin_none _ _ _ _ _ _).symm.trans HF.out⟩
        | cons x L3 =>
          have kX := HS.out.rm.topL
          have hL3 : L3.length + 1 + (V.length + 1) ≤ n := hn2
          obtain ⟨x0, x1, x2⟩ := HL.out.lt x (by simp)
          obtain ⟨y0, y1, y2⟩ := HL.out.hv y (by simp)
          have hxy := HL.out.apart (x := x) (y := y) (by simp) (by simp)
          have HXY := aside hxy
          clear hn2 hxy
          have HC0 := hid (left_zero x D gh n n H2 wr HS.out.bD HS.out.ih x0 (by omega) HS.out.d8)
          have hdx : ((x : Int) < (n : Int)) = True := eq_true (by omega)
          have hdy : ((y : Int) < (n : Int)) = True := eq_true (by omega)
          go_wp2_with fail
          refine Calls.mono HC0.out ?_
          rintro e w4 ⟨rfl, hw⟩
          obtain rfl := hw.symm
          clear hw HC0 kX
          have kT := HS.out.bT.cell
          have kt := HS.out.it.at x0
          have zt := HS.out.it.frz
          have ka := HS.out.ia.at x0
          have za := HS.out.ia.frz
          have hd1 : (gt = ga) = False := eq_false HS.out.d1
          have hd2 : (ga = gt) = False := eq_false (Ne.symm HS.out.d1)
          go_wp2_with fail
          go_region
          have HS2 := hid ((HS.out.put x0 (H2 x) y).keep ((Below.refl _ _).drew))
          generalize hwq : ((wr.setCell ⟨gt, x, none⟩ (.int .i64 (H2 x))).setCell ⟨ga, x, none⟩ (.int .i64 (y : Int))).drew = wq at *
          clear hwq kT kt zt ka za hd1 hd2 HS
          have kT := HS2.out.bT.cell
          have hd3 : (T = gh) = False := eq_false (by have := HS2.out.n0; have := HS2.out.n4; omega)
          have hd4 : (gh = T) = False := eq_false (by have := HS2.out.n0; have := HS2.out.n4; omega)
          have hwr : IntKind.i64.wrap (tot - H2 x) = tot - H2 x := by rw [IntKind.wrap_i64]; omega
          have HCL := hid (fun w1 (hw : Below wq.heap.size wq w1) => left_any y D gh n n H2 (tot - H2 x) w1 (HS2.out.keep hw).bD (HS2.out.keep hw).ih y0 (by omega) (by omega) HS2.out.d8)
          go_wp2_with fail
          go_region_with (go_at_call 32; refine Calls.mono (HCL.out _ (Below.refl _ _).drew) ?_; rintro e w5 ⟨rfl, hw5⟩; obtain rfl := hw5)
          all_goals
            have HS3 := hid ((HS2.out.less y0 (H2 y - (tot - H2 x))).keep ((Below.refl _ _).drew))
            generalize hwz : (wq.setCell ⟨gh, y, none⟩ (.int .i64 (H2 y - (tot - H2 x)))).drew = wz at *
            clear hwz kT hd3 hd4 hwr HCL HS2
            by_cases hl : H2 y - (tot - H2 x) < tot
            · have HF3 := aside (fin_light (k := L3.length + V.length + 1) (T := TH2) (A := AL2) (L := L3) (V := V) hl)
              have HF4 := aside (show fin tot (L3.length + 1 + (V.length + 1)) H2 TH2 AL2 (x :: L3) (y :: V) = F from HF.out)
              have HL3' := hid (HL.out.stepL hl)
              have hdl : decide (H2 y - (tot - H2 x) < tot) = true := decide_eq_true hl
              generalize H2 y - (tot - H2 x) = z at *
              clear HF
              go_wp2_with (first
                | (at_builtin; refine wpList_room _ rfl _ _ 22 rfl 3 i0 under_ints hi hz1 R 0 L3.length n rfl ⟨wz.heap.size, 0, none⟩ 1 (.int .i64 y) rfl (news_one ((Lp.Bk.al wz #[.int .i64 y] 3).cell 0)) (one_int y) (by omega) ((HS3.out.rm.alo _).cell (by omega)) ((HS3.out.rm.alo _).frz _) ?_)
                | fail)
              go_wp2_with fail
              go_roundg (g0 - 1)
              case measure => have := HK.out; simp only [List.length_cons] at this; omega
              case rel =>
                exact ⟨y :: L3, V, W ++ [y], _, _, _, by have := HK.out; simp only [List.length_cons] at this; omega, by rw [HV1.out]; simp, rfl, rfl, by simp only [List.length_cons]; omega,
                  by have h := (HS3.out.pop.keep ((Below.refl _ _).alloc (Nat.le_refl _) (.cells #[.int .i64 (y : Int)] 3))).push (by omega) y; simpa using h, HL3'.out,
                  by have h := HF4.out; rw [show L3.length + 1 + (V.length + 1) = L3.length + V.length + 1 + 1 by omega, HF3.out] at h; rw [show (y :: L3).length + V.length = L3.length + V.length + 1 by simp only [List.length_cons]; omega]; exact h⟩
            · have HF3 := aside (fin_heavy (k := L3.length + V.length + 1) (T := TH2) (A := AL2) (L := L3) (V := V) hl)
              have HF4 := aside (show fin tot (L3.length + 1 + (V.length + 1)) H2 TH2 AL2 (x :: L3) (y :: V) = F from HF.out)
              have HL3' := hid (HL.out.stepV hl)
              have hdl : decide (H2 y - (tot - H2 x) < tot) = false := decide_eq_false hl
              generalize H2 y - (tot - H2 x) = z at *
              clear HF
              go_wp2_with fail
              go_roundg (gk - 1)
              case measure => have := HK2.out; simp only [List.length_cons] at this; omega
              case rel =>
                exact ⟨L3, _, _, _, by have := HK2.out; simp only [List.length_cons] at this; omega, rfl, by omega, HS3.out.pop, HL3'.out,
                  by have h := HF4.out; rw [show L3.length + 1 + (V.length + 1) = L3.length + V.length + 1 + 1 by omega, HF3.out] at h; rw [show L3.length + (V.length + 1) = L3.length + V.length + 1 by omega]; exact h⟩
end Go.Proofs.Ytmnemandmpoioaa
