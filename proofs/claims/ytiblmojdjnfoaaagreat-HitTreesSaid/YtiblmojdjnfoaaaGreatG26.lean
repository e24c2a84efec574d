/- HitTrees: the walk. Structs of triangles, a ray, a number and who is skipped, that come in. -/
import Derived.Deep.Slices
import Derived.Carry
import Derived.Test.YtiblmojdjnfoaaaGreatG25
import Derived.Test.YtiblmojdjnfoaaaGreatG15
namespace Go.Proofs.YtiblmojdjnfoaaaGreat
open Go.RowKit Fl Lm Rg

theorem own_ne {N : Nat} {w : World} {ty t : TypeId} {k n b : Nat} {v : Value} {e : Nat → List Value} {vs : Array Value} (h : Own N w ty k v n e) (hb : Lp.Bk w b vs t) (ht : ty ≠ t) : ∀ g, v.ownBlock = some g → g ≠ b := by
  intro g hg
  rcases h.row.2 with ⟨hv, _⟩ | ⟨g', cap, cur, hv, _, hh, _⟩
  · subst hv; cases hg
  · subst hv
    cases hg
    exact bk_ne (show Lp.Bk w g' cur ty from hh) hb ht
set_option maxRecDepth 100000 in
set_option maxHeartbeats 4000000 in
theorem trees_any (T : Nat → Tr) (n c m cs x : Nat) (K : List Int) (O D : V3) (ao az : Option Addr) (w : World) (hL : Sl w ao n 9 fun i => tcs (T i)) (hm : m ≤ cs) (hK1 : min 10 m = K.length) (hK : Sl w az K.length 1 (kvs K)) :
    Ret Tryz.prog 4 #[.agg #[.slice ao n c, .float .f64 O.x, .float .f64 O.y, .float .f64 O.z, .float .f64 D.x, .float .f64 D.y, .float .f64 D.z, .float .f64 x, .slice az m cs]] w (fun v => v = .bool true) := by
  unfold Ret
  have hk5 : K.length ≤ 1000 := by omega
  have HSK := hid (fun w' => show Calls Tryz.prog 6 #[.slice az m cs] w' (fun e W' => e = .returned (.slice az K.length cs) ∧ W' = w') from hK1 ▸ skips_any m cs az w' hm)
  obtain ⟨N, T1, hl5, hT1, hT2, hF⟩ := few_is T n c ao w hL
  have HFW := hid hF
  have HTM := hid hT1
  have HTN := hid hT2
  have HK := hid hK
  have HK5 := aside hk5
  clear hL hK hm hK1 hk5 hT1 hT2 hF
  go_enter Tryz.func4, Tryz.ntmps4
  go_wp2_with fail
  refine Lp.settle (fun w' => Lp.Bk w' w.heap.size #[.slice ao n c, .float .f64 O.x, .float .f64 O.y, .float .f64 O.z, .float .f64 D.x, .float .f64 D.y, .float .f64 D.z, .float .f64 x, .slice az m cs] 30 ∧ Cl w w') ⟨Lp.Bk.al _ _ _, (Below.refl _ _).alloc (Nat.le_refl _) _⟩ ?_
  rintro v1 ⟨BQ, HB⟩
  have HS := hid (fun w' (hb : Below v1.heap.size v1 w') => show Below v1.heap.size v1 w' ∧ w'.cell? ⟨w.heap.size, 0, none⟩ = some (.slice ao n c) ∧ w'.cell? ⟨w.heap.size, 1, none⟩ = some (.float .f64 O.x) ∧ w'.cell? ⟨w.heap.size, 2, none⟩ = some (.float .f64 O.y) ∧ w'.cell? ⟨w.heap.size, 3, none⟩ = some (.float .f64 O.z) ∧ w'.cell? ⟨w.heap.size, 4, none⟩ = some (.float .f64 D.x) ∧ w'.cell? ⟨w.heap.size, 5, none⟩ = some (.float .f64 D.y) ∧ w'.cell? ⟨w.heap.size, 6, none⟩ = some (.float .f64 D.z) ∧ w'.cell? ⟨w.heap.size, 7, none⟩ = some (.float .f64 x) ∧ w'.cell? ⟨w.heap.size, 8, none⟩ = some (.slice az m cs) from by
    have a0 := (BQ.keep hb).cell
    exact ⟨hb, a0 0, a0 1, a0 2, a0 3, a0 4, a0 5, a0 6, a0 7, a0 8⟩)
  have HB1 := hid HB
  have hwv : w.heap.size < v1.heap.size := BQ.lt
  clear BQ HB
  go_region_held3 (fun w' => Below v1.heap.size v1 w' ∧ w'.cell? ⟨w.heap.size, 0, none⟩ = some (.slice ao n c) ∧ w'.cell? ⟨w.heap.size, 1, none⟩ = some (.float .f64 O.x) ∧ w'.cell? ⟨w.heap.size, 2, none⟩ = some (.float .f64 O.y) ∧ w'.cell? ⟨w.heap.size, 3, none⟩ = some (.float .f64 O.z) ∧ w'.cell? ⟨w.heap.size, 4, none⟩ = some (.float .f64 D.x) ∧ w'.cell? ⟨w.heap.size, 5, none⟩ = some (.float .f64 D.y) ∧ w'.cell? ⟨w.heap.size, 6, none⟩ = some (.float .f64 D.z) ∧ w'.cell? ⟨w.heap.size, 7, none⟩ = some (.float .f64 x) ∧ w'.cell? ⟨w.heap.size, 8, none⟩ = some (.slice az m cs)) (first | with_reducible assumption | exact HS.out _ (by (repeat (first | with_reducible exact Below.refl _ _ | with_reducible assumption | with_reducible refine Below.drew ?_ | with_reducible refine Below.alloc ?_ (by simp) _ | with_reducible refine Below.alloc ?_ (by have := Below.size (by assumption : Below v1.heap.size v1 _); omega) _ | with_reducible refine Below.setCell ?_ (by simp) _ | with_reducible refine Below.setCell ?_ (by have := Below.size (by assumption : Below v1.heap.size v1 _); dsimp only; omega) _))))
    (first
     | (go_at_call 6; refine Calls.mono (HSK.out _) ?_; rintro e w7 ⟨rfl, h5⟩; obtain rfl := h5.symm)
     | (go_at_call 13; refine Calls.mono (HFW.out _ ?_) ?_; (refine HB1.out.trans ?_; refine Below.mono (?_ : Below v1.heap.size v1 _) (Nat.le_of_lt hwv); (repeat (first | with_reducible exact Below.refl _ _ | with_reducible assumption | with_reducible refine Below.drew ?_ | with_reducible refine Below.alloc ?_ (by simp) _ | with_reducible refine Below.alloc ?_ (by have := Below.size (by assumption : Below v1.heap.size v1 _); omega) _ | with_reducible refine Below.setCell ?_ (by simp) _ | with_reducible refine Below.setCell ?_ (by have := Below.size (by assumption : Below v1.heap.size v1 _); dsimp only; omega) _))); rintro e w5 ⟨v, rfl, hO, hm⟩; obtain ⟨al, cl, rfl⟩ := hO.slice; have HO5 := hid hO; have HB5 : Below v1.heap.size v1 w5 := (by refine Below.trans ?_ (Below.mono hm ?_); (repeat (first | with_reducible exact Below.refl _ _ | with_reducible assumption | with_reducible refine Below.drew ?_ | with_reducible refine Below.alloc ?_ (by simp) _ | with_reducible refine Below.alloc ?_ (by have := Below.size (by assumption : Below v1.heap.size v1 _); omega) _ | with_reducible refine Below.setCell ?_ (by simp) _ | with_reducible refine Below.setCell ?_ (by have := Below.size (by assumption : Below v1.heap.size v1 _); dsimp only; omega) _)); (simp)); have HS5 := HS.out _ HB5; (first | (have BN : Lp.Bk w5 v1.heap.size #[.float .f64 0, .float .f64 0, .float .f64 0, .float .f64 0, .float .f64 0, .float .f64 0] 27 := (by refine Lp.Bk.keep ?_ hm; exact Lp.Bk.al v1 _ _); have kN := BN.cell; have zN := BN.frz; have hlN := BN.lt) | skip); clear hm hO)
     | fail)
  · have hc5 : Cl w w5 := HB1.out.trans (HB5.mono (Nat.le_of_lt hwv))
    go_wp2_with fail
    refine Lp.settleC (fun w' => Lp.Bk w' w5.heap.size #[.float .f64 O.x, .float .f64 O.y, .float .f64 O.z, .float .f64 D.x, .float .f64 D.y, .float .f64 D.z] 27 ∧ Sl w' al N 9 (fun i => tcs (T1 i)) ∧ Cl w w') ⟨Lp.Bk.al w5 _ _, (HO5.out.alo _).sl fun _ _ => rfl, hc5.alloc _⟩ ?_
    clear hc5 HS HB1 HB5 HS5 HO5 HSK HFW
    rintro v3 ⟨BY, hLS, HB⟩
    have HL := hid hLS
    have HKK := hid (HK.out.keep HB)
    clear hLS HK
    refine Calls.mono (new_any T1 HTM.out true N cl al v3 HL.out (by omega) HTN.out) ?_
    rintro e v4 ⟨tx, rfl, htx0, _, hm⟩
    have htx : TreeR v4 tx (DT T1 true N) (OT T1 true N) := htx0
    have Htx := hid htx
    replace HL := hid (HL.out.keep hm)
    replace HKK := hid (HKK.out.keep hm)
    replace BY := BY.keep hm
    replace HB := HB.call hm
    clear hm htx0 htx
    go_wp2_with fail
    refine Calls.mono (new_any T1 HTM.out false N cl al v4 HL.out (by omega) HTN.out) ?_
    rintro e v5 ⟨ty, rfl, hty0, _, hm⟩
    have hty : TreeR v5 ty (DT T1 false N) (OT T1 false N) := hty0
    have Hty := hid hty
    replace HL := hid (HL.out.keep hm)
    replace HKK := hid (HKK.out.keep hm)
    replace BY := BY.keep hm
    replace HB := HB.call hm
    replace Htx := hid (Htx.out.keep hm)
    clear hm hty0 hty
    have kY := BY.cell
    go_wp2_with fail
    have HL0 := hid HL.out
    have HK0 := hid HKK.out
    have Htx0 := hid Htx.out
    have Hty0 := hid Hty.out
    obtain ⟨b0, b1, b2, b3, e4⟩ := hcs_four (fstF (metK T1 K O D) N)
    have HEQ := eql_hit (fstF (metK T1 K O D) N) (fstF_nums T1 K O D N)
    have HFI := hid ((rfirst_is T1 N cl cs K O D al az v5 HL.out HKK.out (by omega) HK5.out))
    have HFX := hid (fun w' (hw : Below v5.heap.size v5 w') => Ret.of (first_is T1 true N cl cs tx K O D al az w' HTM.out (by omega) (Htx.out.keep hw) (HL.out.keep hw) (HKK.out.keep hw) HK5.out))
    have HFY := hid (fun w' (hw : Below v5.heap.size v5 w') => Ret.of (first_is T1 false N cl cs ty K O D al az w' HTM.out (by omega) (Hty.out.keep hw) (HL.out.keep hw) (HKK.out.keep hw) HK5.out))
    rw [e4] at HFI HFX HFY HEQ
    clear e4
    refine Calls.mono HFI.out ?_
    rintro e v6 ⟨rfl, hm⟩
    have HM6 := hid hm
    replace HL := hid (HL.out.keep hm)
    replace HKK := hid (HKK.out.keep hm)
    replace BY := BY.keep hm
    replace Htx := hid (Htx.out.keep hm)
    replace Hty := hid (Hty.out.keep hm)
    replace HB := HB.call hm
    clear hm HFI kY
    have kY := BY.cell
    have hlt := BY.lt
    have hne := eq_false (Nat.ne_of_lt BY.lt)
    go_wp2_with fail
    clear kY hlt hne
    have HBH := hid (Lp.Bk.al v6 #[.int .i64 b0, .float .f64 b1, .float .f64 b2, .float .f64 b3] 35)
    have hm : Below v6.heap.size v6 (v6.alloc (.cells #[.int .i64 b0, .float .f64 b1, .float .f64 b2, .float .f64 b3] 35)) := (Below.refl _ _).alloc (Nat.le_refl _) _
    replace HL := hid (HL.out.keep hm)
    replace HKK := hid (HKK.out.keep hm)
    replace BY := BY.keep hm
    replace Htx := hid (Htx.out.keep hm)
    replace Hty := hid (Hty.out.keep hm)
    replace HB := HB.call hm
    have HM7 := hid (HM6.out.call hm)
    clear hm HM6
    have HRA := hid (rany_c T1 N cl cs x K O D al az _ HL.out HKK.out (by omega) HK5.out)
    have HAX := hid (fun w' (hw : Below v5.heap.size v5 w') => Ret.of (any_is T1 true N cl cs tx K O D al az w' x HTM.out (by omega) (Htx0.out.keep hw) (HL0.out.keep hw) (HK0.out.keep hw) HK5.out))
    have HAY := hid (fun w' (hw : Below v5.heap.size v5 w') => Ret.of (any_is T1 false N cl cs ty K O D al az w' x HTM.out (by omega) (Hty0.out.keep hw) (HL0.out.keep hw) (HK0.out.keep hw) HK5.out))
    generalize anyN (metK T1 K O D) N x = bb at HRA HAX HAY
    have hbb : (bb == bb) = true := by cases bb <;> rfl
    refine Calls.mono HRA.out ?_
    rintro e v7 ⟨rfl, hm⟩
    have HM8 := hid (HM7.out.call hm)
    have HBH7 := HBH.out.keep hm
    replace HL := hid (HL.out.keep hm)
    replace HKK := hid (HKK.out.keep hm)
    replace BY := BY.keep hm
    replace Htx := hid (Htx.out.keep hm)
    replace Hty := hid (Hty.out.keep hm)
    replace HB := HB.call hm
    clear hm HRA HM7 HBH Htx Hty HL HKK Htx0 Hty0 HL0 HK0
    have HAW := hid (fun w' => awake_any w')
    have hsz : v5.heap.size ≤ v7.heap.size := HM8.out.size
    go_wp2_with fail
    apply Lw.region _ _ 39 (by kernel_rfl) (by kernel_rfl) (by kernel_rfl) (Below.refl _ _)
    apply Lw.facts
    · intro w1 hw
      exact And.intro (BY.cl hw).cell (HBH7.cl hw).cell
    intro HF
    apply Lw.any rfl
    · intro w3 hw
      go_simp
      exact Lw.ret (HAW.out _)
    intro K0 hK0
    rintro v e0
    subst v
    go_simp
    refine hK0.out _ ?_
    clear hK0 K0
    iterate 5 (
      apply Lw.one ?_ rfl
      · intro w3 hw
        obtain ⟨k0, k1⟩ := HF.out _ hw
        go_simp
        exact rfl
      intro K0 hK0
      go_simp
      refine hK0.out _ ?_
      clear hK0 K0)
    apply Lw.any rfl
    · intro w3 hw
      go_simp
      exact Lw.ret (HFX.out _ (HM8.out.call hw))
    intro K0 hK0
    rintro v e0
    subst v
    go_simp
    refine hK0.out _ ?_
    clear hK0 K0
    iterate 8 (
      apply Lw.one ?_ rfl
      · intro w3 hw
        obtain ⟨k0, k1⟩ := HF.out _ hw
        go_simp
        exact rfl
      intro K0 hK0
      go_simp
      refine hK0.out _ ?_
      clear hK0 K0)
    apply Lw.any rfl
    · intro w3 hw
      go_simp
      exact Lw.ret (HFY.out _ (HM8.out.call hw))
    intro K0 hK0
    rintro v e0
    subst v
    go_simp
    refine hK0.out _ ?_
    clear hK0 K0
    iterate 9 (
      apply Lw.one ?_ rfl
      · intro w3 hw
        obtain ⟨k0, k1⟩ := HF.out _ hw
        go_simp
        exact rfl
      intro K0 hK0
      go_simp
      refine hK0.out _ ?_
      clear hK0 K0)
    apply Lw.any rfl
    · intro w3 hw
      go_simp
      exact Lw.ret (HAX.out _ (HM8.out.call hw))
    intro K0 hK0
    rintro v e0
    subst v
    go_simp
    refine hK0.out _ ?_
    clear hK0 K0
    iterate 9 (
      apply Lw.one ?_ rfl
      · intro w3 hw
        obtain ⟨k0, k1⟩ := HF.out _ hw
        go_simp
        exact rfl
      intro K0 hK0
      go_simp
      refine hK0.out _ ?_
      clear hK0 K0)
    apply Lw.any rfl
    · intro w3 hw
      go_simp
      exact Lw.ret (HAY.out _ (HM8.out.call hw))
    intro K0 hK0
    rintro v e0
    subst v
    go_simp
    refine hK0.out _ ?_
    clear hK0 K0
    iterate 3 (
      apply Lw.one ?_ rfl
      · intro w3 hw
        obtain ⟨k0, k1⟩ := HF.out _ hw
        go_simp
        exact rfl
      intro K0 hK0
      go_simp
      refine hK0.out _ ?_
      clear hK0 K0)
    rotate_left
    exact []
    refine Lw.fin ?_
    intro v8 hm
    have HB8 := hid (HB.call hm)
    clear hm HF BY HAW HFX HFY HAX HAY HB HBH7
    go_wp2_with fail
    go_ret
    exact ⟨_, rfl, rfl, HB8.out⟩
  · have hc5 : Cl w w5 := HB1.out.trans (HB5.mono (Nat.le_of_lt hwv))
    go_wp2_with fail
    refine Lp.settleC (fun w' => Lp.Bk w' w5.heap.size #[.float .f64 O.x, .float .f64 O.y, .float .f64 O.z, .float .f64 D.x, .float .f64 D.y, .float .f64 D.z] 27 ∧ Sl w' al N 9 (fun i => tcs (T1 i)) ∧ Cl w w') ⟨Lp.Bk.al w5 _ _, (HO5.out.alo _).sl fun _ _ => rfl, hc5.alloc _⟩ ?_
    clear hc5 HS HB1 HB5 HS5 HO5 HSK HFW
    rintro v3 ⟨BY, hLS, HB⟩
    have HL := hid hLS
    have HKK := hid (HK.out.keep HB)
    clear hLS HK
    refine Calls.mono (new_any T1 HTM.out true N cl al v3 HL.out (by omega) HTN.out) ?_
    rintro e v4 ⟨tx, rfl, htx0, _, hm⟩
    have htx : TreeR v4 tx (DT T1 true N) (OT T1 true N) := htx0
    have Htx := hid htx
    replace HL := hid (HL.out.keep hm)
    replace HKK := hid (HKK.out.keep hm)
    replace BY := BY.keep hm
    replace HB := HB.call hm
    clear hm htx0 htx
    go_wp2_with fail
    refine Calls.mono (new_any T1 HTM.out false N cl al v4 HL.out (by omega) HTN.out) ?_
    rintro e v5 ⟨ty, rfl, hty0, _, hm⟩
    have hty : TreeR v5 ty (DT T1 false N) (OT T1 false N) := hty0
    have Hty := hid hty
    replace HL := hid (HL.out.keep hm)
    replace HKK := hid (HKK.out.keep hm)
    replace BY := BY.keep hm
    replace HB := HB.call hm
    replace Htx := hid (Htx.out.keep hm)
    clear hm hty0 hty
    have kY := BY.cell
    go_wp2_with fail
    have HL0 := hid HL.out
    have HK0 := hid HKK.out
    have Htx0 := hid Htx.out
    have Hty0 := hid Hty.out
    obtain ⟨b0, b1, b2, b3, e4⟩ := hcs_four (fstF (metK T1 K O D) N)
    have HEQ := eql_hit (fstF (metK T1 K O D) N) (fstF_nums T1 K O D N)
    have HFI := hid ((rfirst_is T1 N cl cs K O D al az v5 HL.out HKK.out (by omega) HK5.out))
    have HFX := hid (fun w' (hw : Below v5.heap.size v5 w') => Ret.of (first_is T1 true N cl cs tx K O D al az w' HTM.out (by omega) (Htx.out.keep hw) (HL.out.keep hw) (HKK.out.keep hw) HK5.out))
    have HFY := hid (fun w' (hw : Below v5.heap.size v5 w') => Ret.of (first_is T1 false N cl cs ty K O D al az w' HTM.out (by omega) (Hty.out.keep hw) (HL.out.keep hw) (HKK.out.keep hw) HK5.out))
    rw [e4] at HFI HFX HFY HEQ
    clear e4
    refine Calls.mono HFI.out ?_
    rintro e v6 ⟨rfl, hm⟩
    have HM6 := hid hm
    replace HL := hid (HL.out.keep hm)
    replace HKK := hid (HKK.out.keep hm)
    replace BY := BY.keep hm
    replace Htx := hid (Htx.out.keep hm)
    replace Hty := hid (Hty.out.keep hm)
    replace HB := HB.call hm
    clear hm HFI kY
    have kY := BY.cell
    have hlt := BY.lt
    have hne := eq_false (Nat.ne_of_lt BY.lt)
    go_wp2_with fail
    clear kY hlt hne
    have HBH := hid (Lp.Bk.al v6 #[.int .i64 b0, .float .f64 b1, .float .f64 b2, .float .f64 b3] 35)
    have hm : Below v6.heap.size v6 (v6.alloc (.cells #[.int .i64 b0, .float .f64 b1, .float .f64 b2, .float .f64 b3] 35)) := (Below.refl _ _).alloc (Nat.le_refl _) _
    replace HL := hid (HL.out.keep hm)
    replace HKK := hid (HKK.out.keep hm)
    replace BY := BY.keep hm
    replace Htx := hid (Htx.out.keep hm)
    replace Hty := hid (Hty.out.keep hm)
    replace HB := HB.call hm
    have HM7 := hid (HM6.out.call hm)
    clear hm HM6
    have HRA := hid (rany_c T1 N cl cs x K O D al az _ HL.out HKK.out (by omega) HK5.out)
    have HAX := hid (fun w' (hw : Below v5.heap.size v5 w') => Ret.of (any_is T1 true N cl cs tx K O D al az w' x HTM.out (by omega) (Htx0.out.keep hw) (HL0.out.keep hw) (HK0.out.keep hw) HK5.out))
    have HAY := hid (fun w' (hw : Below v5.heap.size v5 w') => Ret.of (any_is T1 false N cl cs ty K O D al az w' x HTM.out (by omega) (Hty0.out.keep hw) (HL0.out.keep hw) (HK0.out.keep hw) HK5.out))
    generalize anyN (metK T1 K O D) N x = bb at HRA HAX HAY
    have hbb : (bb == bb) = true := by cases bb <;> rfl
    refine Calls.mono HRA.out ?_
    rintro e v7 ⟨rfl, hm⟩
    have HM8 := hid (HM7.out.call hm)
    have HBH7 := HBH.out.keep hm
    replace HL := hid (HL.out.keep hm)
    replace HKK := hid (HKK.out.keep hm)
    replace BY := BY.keep hm
    replace Htx := hid (Htx.out.keep hm)
    replace Hty := hid (Hty.out.keep hm)
    replace HB := HB.call hm
    clear hm HRA HM7 HBH Htx Hty HL HKK Htx0 Hty0 HL0 HK0
    have HAW := hid (fun w' => awake_any w')
    have hsz : v5.heap.size ≤ v7.heap.size := HM8.out.size
    go_wp2_with fail
    apply Lw.region _ _ 39 (by kernel_rfl) (by kernel_rfl) (by kernel_rfl) (Below.refl _ _)
    apply Lw.facts
    · intro w1 hw
      exact And.intro (BY.cl hw).cell (HBH7.cl hw).cell
    intro HF
    apply Lw.any rfl
    · intro w3 hw
      go_simp
      exact Lw.ret (HAW.out _)
    intro K0 hK0
    rintro v e0
    subst v
    go_simp
    refine hK0.out _ ?_
    clear hK0 K0
    iterate 5 (
      apply Lw.one ?_ rfl
      · intro w3 hw
        obtain ⟨k0, k1⟩ := HF.out _ hw
        go_simp
        exact rfl
      intro K0 hK0
      go_simp
      refine hK0.out _ ?_
      clear hK0 K0)
    apply Lw.any rfl
    · intro w3 hw
      go_simp
      exact Lw.ret (HFX.out _ (HM8.out.call hw))
    intro K0 hK0
    rintro v e0
    subst v
    go_simp
    refine hK0.out _ ?_
    clear hK0 K0
    iterate 8 (
      apply Lw.one ?_ rfl
      · intro w3 hw
        obtain ⟨k0, k1⟩ := HF.out _ hw
        go_simp
        exact rfl
      intro K0 hK0
      go_simp
      refine hK0.out _ ?_
      clear hK0 K0)
    apply Lw.any rfl
    · intro w3 hw
      go_simp
      exact Lw.ret (HFY.out _ (HM8.out.call hw))
    intro K0 hK0
    rintro v e0
    subst v
    go_simp
    refine hK0.out _ ?_
    clear hK0 K0
    iterate 9 (
      apply Lw.one ?_ rfl
      · intro w3 hw
        obtain ⟨k0, k1⟩ := HF.out _ hw
        go_simp
        exact rfl
      intro K0 hK0
      go_simp
      refine hK0.out _ ?_
      clear hK0 K0)
    apply Lw.any rfl
    · intro w3 hw
      go_simp
      exact Lw.ret (HAX.out _ (HM8.out.call hw))
    intro K0 hK0
    rintro v e0
    subst v
    go_simp
    refine hK0.out _ ?_
    clear hK0 K0
    iterate 9 (
      apply Lw.one ?_ rfl
      · intro w3 hw
        obtain ⟨k0, k1⟩ := HF.out _ hw
        go_simp
        exact rfl
      intro K0 hK0
      go_simp
      refine hK0.out _ ?_
      clear hK0 K0)
    apply Lw.any rfl
    · intro w3 hw
      go_simp
      exact Lw.ret (HAY.out _ (HM8.out.call hw))
    intro K0 hK0
    rintro v e0
    subst v
    go_simp
    refine hK0.out _ ?_
    clear hK0 K0
    iterate 3 (
      apply Lw.one ?_ rfl
      · intro w3 hw
        obtain ⟨k0, k1⟩ := HF.out _ hw
        go_simp
        exact rfl
      intro K0 hK0
      go_simp
      refine hK0.out _ ?_
      clear hK0 K0)
    rotate_left
    exact []
    refine Lw.fin ?_
    intro v8 hm
    have HB8 := hid (HB.call hm)
    clear hm HF BY HAW HFX HFY HAX HAY HB HBH7
    go_wp2_with fail
    go_ret
    exact ⟨_, rfl, rfl, HB8.out⟩
  · have hc5 : Cl w w5 := HB1.out.trans (HB5.mono (Nat.le_of_lt hwv))
    have HNE := aside (own_ne HO5.out BN (by decide))
    have HBN := hid BN
    clear BN kN zN
    go_wp2_with fail
    refine Lp.settleC (fun w' => Lp.Bk w' v1.heap.size #[.float .f64 O.x, .float .f64 O.y, .float .f64 O.z, .float .f64 D.x, .float .f64 D.y, .float .f64 D.z] 27 ∧ Sl w' al N 9 (fun i => tcs (T1 i)) ∧ Cl w w') ⟨?_, ?_, ?_⟩ ?_
    · exact (((((HBN.out.set 0 _).set 1 _).set 2 _).set 3 _).set 4 _).set 5 _
    · exact Own.sl ((((((HO5.out.sete HNE.out _).sete HNE.out _).sete HNE.out _).sete HNE.out _).sete HNE.out _).sete HNE.out _) fun _ _ => rfl
    · exact Below.setCell (Below.setCell (Below.setCell (Below.setCell (Below.setCell (Below.setCell hc5 (Nat.le_of_lt hwv) _) (Nat.le_of_lt hwv) _) (Nat.le_of_lt hwv) _) (Nat.le_of_lt hwv) _) (Nat.le_of_lt hwv) _) (Nat.le_of_lt hwv) _
    clear hc5 HS HB1 HB5 HS5 HO5 HSK HFW
    rintro v3 ⟨BY, hLS, HB⟩
    have HL := hid hLS
    have HKK := hid (HK.out.keep HB)
    clear hLS HK
    refine Calls.mono (new_any T1 HTM.out true N cl al v3 HL.out (by omega) HTN.out) ?_
    rintro e v4 ⟨tx, rfl, htx0, _, hm⟩
    have htx : TreeR v4 tx (DT T1 true N) (OT T1 true N) := htx0
    have Htx := hid htx
    replace HL := hid (HL.out.keep hm)
    replace HKK := hid (HKK.out.keep hm)
    replace BY := BY.keep hm
    replace HB := HB.call hm
    clear hm htx0 htx
    go_wp2_with fail
    refine Calls.mono (new_any T1 HTM.out false N cl al v4 HL.out (by omega) HTN.out) ?_
    rintro e v5 ⟨ty, rfl, hty0, _, hm⟩
    have hty : TreeR v5 ty (DT T1 false N) (OT T1 false N) := hty0
    have Hty := hid hty
    replace HL := hid (HL.out.keep hm)
    replace HKK := hid (HKK.out.keep hm)
    replace BY := BY.keep hm
    replace HB := HB.call hm
    replace Htx := hid (Htx.out.keep hm)
    clear hm hty0 hty
    have kY := BY.cell
    go_wp2_with fail
    have HL0 := hid HL.out
    have HK0 := hid HKK.out
    have Htx0 := hid Htx.out
    have Hty0 := hid Hty.out
    obtain ⟨b0, b1, b2, b3, e4⟩ := hcs_four (fstF (metK T1 K O D) N)
    have HEQ := eql_hit (fstF (metK T1 K O D) N) (fstF_nums T1 K O D N)
    have HFI := hid ((rfirst_is T1 N cl cs K O D al az v5 HL.out HKK.out (by omega) HK5.out))
    have HFX := hid (fun w' (hw : Below v5.heap.size v5 w') => Ret.of (first_is T1 true N cl cs tx K O D al az w' HTM.out (by omega) (Htx.out.keep hw) (HL.out.keep hw) (HKK.out.keep hw) HK5.out))
    have HFY := hid (fun w' (hw : Below v5.heap.size v5 w') => Ret.of (first_is T1 false N cl cs ty K O D al az w' HTM.out (by omega) (Hty.out.keep hw) (HL.out.keep hw) (HKK.out.keep hw) HK5.out))
    rw [e4] at HFI HFX HFY HEQ
    clear e4
    refine Calls.mono HFI.out ?_
    rintro e v6 ⟨rfl, hm⟩
    have HM6 := hid hm
    replace HL := hid (HL.out.keep hm)
    replace HKK := hid (HKK.out.keep hm)
    replace BY := BY.keep hm
    replace Htx := hid (Htx.out.keep hm)
    replace Hty := hid (Hty.out.keep hm)
    replace HB := HB.call hm
    clear hm HFI kY
    have kY := BY.cell
    have hlt := BY.lt
    have hne := eq_false (Nat.ne_of_lt BY.lt)
    go_wp2_with fail
    clear kY hlt hne
    have HBH := hid (Lp.Bk.al v6 #[.int .i64 b0, .float .f64 b1, .float .f64 b2, .float .f64 b3] 35)
    have hm : Below v6.heap.size v6 (v6.alloc (.cells #[.int .i64 b0, .float .f64 b1, .float .f64 b2, .float .f64 b3] 35)) := (Below.refl _ _).alloc (Nat.le_refl _) _
    replace HL := hid (HL.out.keep hm)
    replace HKK := hid (HKK.out.keep hm)
    replace BY := BY.keep hm
    replace Htx := hid (Htx.out.keep hm)
    replace Hty := hid (Hty.out.keep hm)
    replace HB := HB.call hm
    have HM7 := hid (HM6.out.call hm)
    clear hm HM6
    have HRA := hid (rany_c T1 N cl cs x K O D al az _ HL.out HKK.out (by omega) HK5.out)
    have HAX := hid (fun w' (hw : Below v5.heap.size v5 w') => Ret.of (any_is T1 true N cl cs tx K O D al az w' x HTM.out (by omega) (Htx0.out.keep hw) (HL0.out.keep hw) (HK0.out.keep hw) HK5.out))
    have HAY := hid (fun w' (hw : Below v5.heap.size v5 w') => Ret.of (any_is T1 false N cl cs ty K O D al az w' x HTM.out (by omega) (Hty0.out.keep hw) (HL0.out.keep hw) (HK0.out.keep hw) HK5.out))
    generalize anyN (metK T1 K O D) N x = bb at HRA HAX HAY
    have hbb : (bb == bb) = true := by cases bb <;> rfl
    refine Calls.mono HRA.out ?_
    rintro e v7 ⟨rfl, hm⟩
    have HM8 := hid (HM7.out.call hm)
    have HBH7 := HBH.out.keep hm
    replace HL := hid (HL.out.keep hm)
    replace HKK := hid (HKK.out.keep hm)
    replace BY := BY.keep hm
    replace Htx := hid (Htx.out.keep hm)
    replace Hty := hid (Hty.out.keep hm)
    replace HB := HB.call hm
    clear hm HRA HM7 HBH Htx Hty HL HKK Htx0 Hty0 HL0 HK0
    have HAW := hid (fun w' => awake_any w')
    have hsz : v5.heap.size ≤ v7.heap.size := HM8.out.size
    go_wp2_with fail
    apply Lw.region _ _ 39 (by kernel_rfl) (by kernel_rfl) (by kernel_rfl) (Below.refl _ _)
    apply Lw.facts
    · intro w1 hw
      exact And.intro (BY.cl hw).cell (HBH7.cl hw).cell
    intro HF
    apply Lw.any rfl
    · intro w3 hw
      go_simp
      exact Lw.ret (HAW.out _)
    intro K0 hK0
    rintro v e0
    subst v
    go_simp
    refine hK0.out _ ?_
    clear hK0 K0
    iterate 5 (
      apply Lw.one ?_ rfl
      · intro w3 hw
        obtain ⟨k0, k1⟩ := HF.out _ hw
        go_simp
        exact rfl
      intro K0 hK0
      go_simp
      refine hK0.out _ ?_
      clear hK0 K0)
    apply Lw.any rfl
    · intro w3 hw
      go_simp
      exact Lw.ret (HFX.out _ (HM8.out.call hw))
    intro K0 hK0
    rintro v e0
    subst v
    go_simp
    refine hK0.out _ ?_
    clear hK0 K0
    iterate 8 (
      apply Lw.one ?_ rfl
      · intro w3 hw
        obtain ⟨k0, k1⟩ := HF.out _ hw
        go_simp
        exact rfl
      intro K0 hK0
      go_simp
      refine hK0.out _ ?_
      clear hK0 K0)
    apply Lw.any rfl
    · intro w3 hw
      go_simp
      exact Lw.ret (HFY.out _ (HM8.out.call hw))
    intro K0 hK0
    rintro v e0
    subst v
    go_simp
    refine hK0.out _ ?_
    clear hK0 K0
    iterate 9 (
      apply Lw.one ?_ rfl
      · intro w3 hw
        obtain ⟨k0, k1⟩ := HF.out _ hw
        go_simp
        exact rfl
      intro K0 hK0
      go_simp
      refine hK0.out _ ?_
      clear hK0 K0)
    apply Lw.any rfl
    · intro w3 hw
      go_simp
      exact Lw.ret (HAX.out _ (HM8.out.call hw))
    intro K0 hK0
    rintro v e0
    subst v
    go_simp
    refine hK0.out _ ?_
    clear hK0 K0
    iterate 9 (
      apply Lw.one ?_ rfl
      · intro w3 hw
        obtain ⟨k0, k1⟩ := HF.out _ hw
        go_simp
        exact rfl
      intro K0 hK0
      go_simp
      refine hK0.out _ ?_
      clear hK0 K0)
    apply Lw.any rfl
    · intro w3 hw
      go_simp
      exact Lw.ret (HAY.out _ (HM8.out.call hw))
    intro K0 hK0
    rintro v e0
    subst v
    go_simp
    refine hK0.out _ ?_
    clear hK0 K0
    iterate 3 (
      apply Lw.one ?_ rfl
      · intro w3 hw
        obtain ⟨k0, k1⟩ := HF.out _ hw
        go_simp
        exact rfl
      intro K0 hK0
      go_simp
      refine hK0.out _ ?_
      clear hK0 K0)
    rotate_left
    exact []
    refine Lw.fin ?_
    intro v8 hm
    have HB8 := hid (HB.call hm)
    clear hm HF BY HAW HFX HFY HAX HAY HB HBH7
    go_wp2_with fail
    go_ret
    exact ⟨_, rfl, rfl, HB8.out⟩
end Go.Proofs.YtiblmojdjnfoaaaGreat

namespace Go.Proofs.YtiblmojdjnfoaaaGreat
open Go.ChangeShapes Go.WideShapes Go.ChangeAt Go.RowKit Fl Lm Go.Joins Go.Deep

theorem Tryz.cells30 : Tryz.prog.cellsOf 30 = 9 := by kernel_rfl
def numK : Value → Int
  | .int _ n => n
  | _ => 0
theorem under_ks : Tryz.prog.underlying 28 = some (.slice 3) := by kernel_rfl
theorem cells_k : Tryz.prog.cellsOf 3 = 1 := by kernel_rfl

theorem came_skips {H : Type} {enc : TypeId × Value → H} {W : World} {fuel : Nat} {c : Value} {y : DataW H × List MemPlace} (hf : DataW.trod enc Tryz.prog W 0 (fun _ => true) true fuel 28 [c] = some y) :
    ∃ (K : List Int) (ao : Option Addr) (cz : Nat), c = .slice ao K.length cz ∧ K.length ≤ cz ∧ Sl W ao K.length 1 (kvs K) := by
  rcases open_slice1 under_ks cells_k hf with ⟨hcs, _⟩ | ⟨ad, len, cap, m, n, V, D, Pl, hcs, _, hl, hm, hmm, _, hx⟩
  · simp only [List.cons.injEq, and_true] at hcs
    subst hcs
    exact ⟨[], none, 0, rfl, Nat.le_refl _, .inl rfl⟩
  · simp only [List.cons.injEq, and_true] at hcs
    subst hcs
    simp at hmm
    subst hmm
    by_cases h0 : len = 0
    · subst h0
      exact ⟨[], _, _, rfl, hl, .inl rfl⟩
    · obtain ⟨b, off, spot⟩ := ad
      have hspot : spot = none := by simpa [Addr.add] using World.cell?_spot (hx 0 (by omega)).1
      subst hspot
      have hb : b < W.heap.size := by
        have := World.block_lt_of_cell? W _ (hx 0 (by omega)).1
        rw [addr_off] at this
        exact this
      have each : ∀ k, k < len → W.cell? ⟨b, off + k, none⟩ = some (.int .i64 (((List.range len).map fun i => numK (V i)).getD k 0)) := by
        intro k hk
        obtain ⟨k1, k2⟩ := hx k (by omega)
        obtain ⟨x, e0, _, wf⟩ := DataW.trod_int Tryz.underlying3 k2
        simp at e0
        rw [addr_off, e0] at k1
        have hg : ((List.range len).map fun i => numK (V i)).getD k 0 = x := by
          rw [List.getD_eq_getElem?_getD, List.getElem?_map, List.getElem?_range hk]
          simp [e0, numK]
        rw [hg]
        exact k1
      refine ⟨(List.range len).map fun i => numK (V i), some ⟨b, off, none⟩, m, by simp, by simpa using hl, .inr ⟨b, off, rfl, hb, fun i hi j hj => ?_⟩⟩
      obtain rfl : j = 0 := by omega
      rw [Nat.mul_one, Nat.add_zero, each i (by simpa using hi)]
      rfl

theorem slice_tris {H : Type} {enc : TypeId × Value → H} {W : World} {fuel : Nat} {c : Value} {y : DataW H × List MemPlace} (hf : DataW.trod enc Tryz.prog W 0 (fun _ => true) true fuel 22 [c] = some y) : ∃ a l k, c = .slice a l k := by
  rcases open_slice under_tris hf with ⟨hcs, _⟩ | ⟨ad, len, cap, m, n, D, Pl, hcs, _⟩
  · simp only [List.cons.injEq, and_true] at hcs
    exact ⟨_, _, _, hcs⟩
  · simp only [List.cons.injEq, and_true] at hcs
    exact ⟨_, _, _, hcs⟩

set_option maxRecDepth 100000 in
theorem open_four {H : Type} {enc : TypeId × Value → H} {W : World} {r : Reach} {b0 : Nat} {v : Value} {d : DataW H} {ps : List MemPlace} (hv : Value.okWide Tryz.prog W r b0 30 v) (h : DataW.Trod enc Tryz.prog W 0 (fun _ => true) true 30 v d ps) :
    ∃ (n c cs x : Nat) (T : Nat → Tr) (O D : V3) (K : List Int) (ao az : Option Addr), v = .agg #[.slice ao n c, .float .f64 O.x, .float .f64 O.y, .float .f64 O.z, .float .f64 D.x, .float .f64 D.y, .float .f64 D.z, .float .f64 x, .slice az K.length cs] ∧ n ≤ c ∧ Sl W ao n 9 (fun i => tcs (T i)) ∧ K.length ≤ cs ∧ Sl W az K.length 1 (kvs K) := by
  obtain ⟨cs, rfl, hsz⟩ := okWide_struct Tryz.underlying30 hv
  obtain ⟨c0, c1, c2, c3, c4, c5, c6, c7, c8, rfl⟩ := array9 (hsz.trans Tryz.cells30)
  obtain ⟨fuel, hf⟩ := h
  obtain ⟨xs, n, _, hx, hl, hlen, hfs⟩ := DataW.trod_struct Tryz.underlying30 hf
  have k0 : Tryz.prog.cellsOf 22 = 1 := by kernel_rfl
  have k1 : Tryz.prog.cellsOf 27 = 6 := by kernel_rfl
  have k2 : Tryz.prog.cellsOf 23 = 1 := by kernel_rfl
  have k3 : Tryz.prog.cellsOf 28 = 1 := by kernel_rfl
  match xs, hlen with
  | [y0, y1, y2, y3], _ =>
    have h0 : DataW.trod enc Tryz.prog W 0 (fun _ => true) true n 22 [c0] = some y0 := by simpa [Value.cells, k0] using hfs 0 _ rfl
    have h1 : DataW.trod enc Tryz.prog W 0 (fun _ => true) true n 27 [c1, c2, c3, c4, c5, c6] = some y1 := by simpa [Value.cells, k1] using hfs 1 _ rfl
    have h2 : DataW.trod enc Tryz.prog W 0 (fun _ => true) true n 23 [c7] = some y2 := by simpa [Value.cells, k2] using hfs 2 _ rfl
    have h3 : DataW.trod enc Tryz.prog W 0 (fun _ => true) true n 28 [c8] = some y3 := by simpa [Value.cells, k3] using hfs 3 _ rfl
    obtain ⟨a, l, k, rfl⟩ := slice_tris h0
    obtain ⟨m, T, ao, c, e0, hc, hS, _⟩ := came_tris ⟨_, _, _, rfl⟩ (⟨n, h0⟩ : DataW.Trod enc Tryz.prog W 0 (fun _ => true) true 22 (.slice a l k) y0.1 y0.2)
    rw [e0]
    obtain ⟨u0, u1, m', hu, _, hu0, hu1⟩ := trod_struct2 Tryz.underlying27 h1
    simp only [Tryz.cells25, List.drop_zero, List.drop_succ_cons, List.take_succ_cons, List.take_zero] at hu0 hu1
    obtain ⟨o0, o1, o2, rfl, rfl, rfl, _, _⟩ := trod_vec hu0
    obtain ⟨d0, d1, d2, rfl, rfl, rfl, _, _⟩ := trod_vec hu1
    obtain ⟨x, e7, _, _⟩ := trod_float Tryz.underlying23 h2
    simp only [List.cons.injEq, and_true] at e7
    subst e7
    obtain ⟨K, az, cz, rfl, hK, hSK⟩ := came_skips h3
    exact ⟨m, c, cz, x, T, ⟨o0, o1, o2⟩, ⟨d0, d1, d2⟩, K, ao, az, rfl, hc, hS, hK, hSK⟩
end Go.Proofs.YtiblmojdjnfoaaaGreat
