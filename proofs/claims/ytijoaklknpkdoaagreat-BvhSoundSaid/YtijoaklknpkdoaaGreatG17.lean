/- The reference: Mid, longest. The reference's Is of equal boxes; nodes are the same as themselves. Triangles that come in. BvhSound: the walk. -/
import Derived.Laws.StructEq
import Derived.Deep.Slices
import Derived.Carry
import Derived.Test.YtijoaklknpkdoaaGreatG16
import Derived.Test.YtijoaklknpkdoaaGreatG7
import Derived.Test.YtijoaklknpkdoaaGreatG1
namespace Go.Proofs.YtijoaklknpkdoaaGreat
open Go.RowKit Fl Lm

theorem rof_c (t : Tr) (w : World) : Ret Tryz.prog 18 #[.agg #[.float .f64 t.t0, .float .f64 t.t1, .float .f64 t.t2, .float .f64 t.t3, .float .f64 t.t4, .float .f64 t.t5, .float .f64 t.t6, .float .f64 t.t7, .float .f64 t.t8]] w (fun v => v = .agg #[.float .f64 (Tr.box t).a0, .float .f64 (Tr.box t).a1, .float .f64 (Tr.box t).a2, .float .f64 (Tr.box t).a3, .float .f64 (Tr.box t).a4, .float .f64 (Tr.box t).a5]) := rof_any _ _ _ _ _ _ _ _ _ w

set_option maxRecDepth 100000 in
set_option maxHeartbeats 1000000 in
theorem rmid_any {t : Tr} (ht : t.Mo) (w : World) : Ret Tryz.prog 29 #[txv t] w (fun v => v = pxv (Tr.box t).mid) := by
  unfold Ret txv pxv
  have hb := Tr.Mo.box ht
  have HOF := hid (rof_c t)
  generalize hB : Tr.box t = b at *
  clear hB
  go_enter Tryz.func29, Tryz.ntmps29
  go_wp2_with fail
  refine Calls.mono (HOF.out _) ?_
  rintro e w1 ⟨v, rfl, rfl, hm⟩
  have BR := ((Lp.Bk.al1 w (.cells #[.float .f64 t.t0, .float .f64 t.t1, .float .f64 t.t2, .float .f64 t.t3, .float .f64 t.t4, .float .f64 t.t5, .float .f64 t.t6, .float .f64 t.t7, .float .f64 t.t8] 33) #[.float .f64 0, .float .f64 0, .float .f64 0] 31)).keep hm
  have HB : Cl w w1 := (((Below.refl w.heap.size w).alloc (Nat.le_refl _) (.cells #[.float .f64 t.t0, .float .f64 t.t1, .float .f64 t.t2, .float .f64 t.t3, .float .f64 t.t4, .float .f64 t.t5, .float .f64 t.t6, .float .f64 t.t7, .float .f64 t.t8] 33)).alloc (by simp) (.cells #[.float .f64 0, .float .f64 0, .float .f64 0] 31)).trans (Below.mono hm (by simp; omega))
  clear hm HOF
  go_wp2_with fail
  refine Calls.mono (radd_c (A := ⟨b.a0, b.a1, b.a2⟩) (B := ⟨b.a3, b.a4, b.a5⟩) _ (S3.refl _ _ _) (S3.refl _ _ _)) ?_
  rintro e w2 ⟨v, rfl, ⟨x, y, z, rfl, hs, _⟩, hm⟩
  replace BR := (BR.alo _).keep hm
  replace HB := (HB.alloc _).call hm
  clear hm
  go_wp2_with fail
  refine Calls.mono (rscale_c (A := V3.add ⟨b.a0, b.a1, b.a2⟩ ⟨b.a3, b.a4, b.a5⟩) _ hs (Sm.refl 4602678819172646912)) ?_
  rintro e w3 ⟨v, rfl, ⟨x2, y2, z2, rfl, ⟨h0, h1, h2⟩, _⟩, hm⟩
  have q0 := h0.symm.eq (mid_mo hb.h0 hb.h3).nan
  have q1 := h1.symm.eq (mid_mo hb.h1 hb.h4).nan
  have q2 := h2.symm.eq (mid_mo hb.h2 hb.h5).nan
  subst q0 q1 q2
  replace BR := BR.keep hm
  replace HB := HB.call hm
  clear hm hs h0 h1 h2
  have kR := BR.cell
  have zR := BR.frz
  go_wp2_with fail
  refine bodyPost_ret (v := .agg #[.float .f64 (fmul (fadd b.a0 b.a3) half), .float .f64 (fmul (fadd b.a1 b.a4) half), .float .f64 (fmul (fadd b.a2 b.a5) half)]) ?_ rfl ⟨_, rfl, rfl, ?_⟩
  · simp [results, go_sem, kR]
    exact ⟨rfl, rfl, rfl⟩
  (repeat (refine Below.setCell ?_ (by show w.heap.size ≤ w.heap.size + 1; omega) _)); exact HB

theorem best3 (x y z : Nat) : bestF x y z 3 = if gtB z (partF x y z (if gtB y x then 1 else 0 : Nat)) then 2 else if gtB y x then 1 else 0 := by
  have h1 : bestF x y z 1 = 0 := by show (if _ then 0 else 0) = 0; split <;> rfl
  have h2 : bestF x y z 2 = if gtB y x then 1 else 0 := by
    show (if gtB (partF x y z (1 : Nat)) (partF x y z (bestF x y z 1)) then 1 else bestF x y z 1) = _
    rw [h1]
    rfl
  show (if gtB (partF x y z (2 : Nat)) (partF x y z (bestF x y z 2)) then 2 else bestF x y z 2) = _
  rw [h2]
  rfl

set_option maxRecDepth 100000 in
set_option maxHeartbeats 1000000 in
theorem rlongest_any (b : Bx) (w : World) : Ret Tryz.prog 31 #[bxv b] w (fun v => v = .int .i64 (b.axis : Nat)) := by
  unfold Ret bxv
  have HAX := aside (show b.axis = bestF (fsub b.a3 b.a0) (fsub b.a4 b.a1) (fsub b.a5 b.a2) 3 from rfl)
  generalize b.axis = ax at *
  go_enter Tryz.func31, Tryz.ntmps31
  go_wp2_with fail
  refine Calls.mono (rsub_c (A := ⟨b.a3, b.a4, b.a5⟩) (B := ⟨b.a0, b.a1, b.a2⟩) _ (S3.refl _ _ _) (S3.refl _ _ _)) ?_
  rintro e w1 ⟨v, rfl, ⟨x, y, z, rfl, hs, _⟩, hm⟩
  have HB : Cl w w1 := ((Below.refl _ _).alloc (Nat.le_refl _) _).trans (hm.mono (by simp))
  clear hm
  have hax : ax = bestF x y z 3 := by rw [HAX.out]; exact (best_congr hs.x hs.y hs.z 3).symm
  rw [best3] at hax
  clear hs HAX
  have BN := Lp.Bk.al w1 #[.float .f64 x, .float .f64 y, .float .f64 z] 31
  have HB2 := hid (HB.alloc (.cells #[.float .f64 x, .float .f64 y, .float .f64 z] 31))
  have HBN := hid BN
  clear HB BN
  have hp1 : (FloatKind.f64.format.order y x == some .gt) = gtB y x := rfl
  generalize gtB y x = p at hp1 hax
  have HR0 := hid (fun w' => rpart_any x y z (0 : Int) w')
  have HR1 := hid (fun w' => rpart_any x y z (1 : Int) w')
  have kN := HBN.out.cell
  cases p
  · skip
    have HPP := hid (fun (y' : Nat) => (rfl : (FloatKind.f64.format.order z y' == some .gt) = gtB z y'))
    have hq0 : partF x y z (0 : Int) = partF x y z ((0 : Nat) : Int) := rfl
    simp only [Bool.false_eq_true, if_false] at hax
    rw [← hq0] at hax
    generalize partF x y z (0 : Int) = q at *
    have hp2 : (FloatKind.f64.format.order z q == some .gt) = gtB z q := rfl
    generalize gtB z q = r at hp2 hax
    cases r
    · simp only [Bool.false_eq_true, if_false] at hax
      subst hax
      go_wp2_with fail
      apply Lw.region _ _ 6 (by kernel_rfl) (by kernel_rfl) (by kernel_rfl) (Below.refl _ _)
      apply Lw.facts
      · intro w3 hw
        exact (HBN.out.cl hw).cell
      intro HF
      iterate 4 (
        apply Lw.one ?_ rfl
        · intro w3 hw
          have k0 := HF.out _ hw
          go_simp
          exact rfl
        intro K hK
        go_simp
        refine hK.out _ ?_
        clear hK K)
      apply Lw.any rfl
      · intro w3 hw
        go_simp
        exact Lw.ret (HR0.out _)
      intro K hK
      rintro v rfl
      go_simp
      refine hK.out _ ?_
      clear hK K
      apply Lw.one ?_ rfl
      · intro w3 hw
        go_simp
        exact rfl
      intro K hK
      go_simp
      refine hK.out _ ?_
      clear hK K
      rotate_left
      exact []
      refine Lw.fin ?_
      intro v3 hm
      go_wp2_with fail
      exact bodyPost_ret (v := .int .i64 0) (by simp [results, go_sem]) rfl ⟨_, rfl, rfl, HB2.out.call hm⟩
    · simp only [if_true] at hax
      subst hax
      go_wp2_with fail
      apply Lw.region _ _ 6 (by kernel_rfl) (by kernel_rfl) (by kernel_rfl) (Below.refl _ _)
      apply Lw.facts
      · intro w3 hw
        exact (HBN.out.cl hw).cell
      intro HF
      iterate 4 (
        apply Lw.one ?_ rfl
        · intro w3 hw
          have k0 := HF.out _ hw
          go_simp
          exact rfl
        intro K hK
        go_simp
        refine hK.out _ ?_
        clear hK K)
      apply Lw.any rfl
      · intro w3 hw
        go_simp
        exact Lw.ret (HR0.out _)
      intro K hK
      rintro v rfl
      go_simp
      refine hK.out _ ?_
      clear hK K
      apply Lw.one ?_ rfl
      · intro w3 hw
        go_simp
        exact rfl
      intro K hK
      go_simp
      refine hK.out _ ?_
      clear hK K
      rotate_left
      exact []
      refine Lw.fin ?_
      intro v3 hm
      go_wp2_with fail
      exact bodyPost_ret (v := .int .i64 2) (by simp [results, go_sem]) rfl ⟨_, rfl, rfl, HB2.out.call hm⟩
  · skip
    have HPP := hid (fun (y' : Nat) => (rfl : (FloatKind.f64.format.order z y' == some .gt) = gtB z y'))
    have hq0 : partF x y z (1 : Int) = partF x y z ((1 : Nat) : Int) := rfl
    simp only [if_true] at hax
    rw [← hq0] at hax
    generalize partF x y z (1 : Int) = q at *
    have hp2 : (FloatKind.f64.format.order z q == some .gt) = gtB z q := rfl
    generalize gtB z q = r at hp2 hax
    cases r
    · simp only [Bool.false_eq_true, if_false] at hax
      subst hax
      go_wp2_with fail
      apply Lw.region _ _ 6 (by kernel_rfl) (by kernel_rfl) (by kernel_rfl) (Below.refl _ _)
      apply Lw.facts
      · intro w3 hw
        exact (HBN.out.cl hw).cell
      intro HF
      iterate 4 (
        apply Lw.one ?_ rfl
        · intro w3 hw
          have k0 := HF.out _ hw
          go_simp
          exact rfl
        intro K hK
        go_simp
        refine hK.out _ ?_
        clear hK K)
      apply Lw.any rfl
      · intro w3 hw
        go_simp
        exact Lw.ret (HR1.out _)
      intro K hK
      rintro v rfl
      go_simp
      refine hK.out _ ?_
      clear hK K
      apply Lw.one ?_ rfl
      · intro w3 hw
        go_simp
        exact rfl
      intro K hK
      go_simp
      refine hK.out _ ?_
      clear hK K
      rotate_left
      exact []
      refine Lw.fin ?_
      intro v3 hm
      go_wp2_with fail
      exact bodyPost_ret (v := .int .i64 1) (by simp [results, go_sem]) rfl ⟨_, rfl, rfl, HB2.out.call hm⟩
    · simp only [if_true] at hax
      subst hax
      go_wp2_with fail
      apply Lw.region _ _ 6 (by kernel_rfl) (by kernel_rfl) (by kernel_rfl) (Below.refl _ _)
      apply Lw.facts
      · intro w3 hw
        exact (HBN.out.cl hw).cell
      intro HF
      iterate 4 (
        apply Lw.one ?_ rfl
        · intro w3 hw
          have k0 := HF.out _ hw
          go_simp
          exact rfl
        intro K hK
        go_simp
        refine hK.out _ ?_
        clear hK K)
      apply Lw.any rfl
      · intro w3 hw
        go_simp
        exact Lw.ret (HR1.out _)
      intro K hK
      rintro v rfl
      go_simp
      refine hK.out _ ?_
      clear hK K
      apply Lw.one ?_ rfl
      · intro w3 hw
        go_simp
        exact rfl
      intro K hK
      go_simp
      refine hK.out _ ?_
      clear hK K
      rotate_left
      exact []
      refine Lw.fin ?_
      intro v3 hm
      go_wp2_with fail
      exact bodyPost_ret (v := .int .i64 2) (by simp [results, go_sem]) rfl ⟨_, rfl, rfl, HB2.out.call hm⟩

end Go.Proofs.YtijoaklknpkdoaaGreat

namespace Go.Proofs.YtijoaklknpkdoaaGreat
open Go.RowKit Fl Lm

theorem same_eq {x y : Nat} (h : ford x y = some .eq) : sameB x y = true := by
  unfold sameB
  rw [h]
  rfl
theorem ris_eq {ax ay az bx bY bz : Nat} (hx : ford ax bx = some .eq) (hy : ford ay bY = some .eq) (hz : ford az bz = some .eq) (w : World) : Ret Tryz.prog 30 #[.agg #[.float .f64 ax, .float .f64 ay, .float .f64 az], .agg #[.float .f64 bx, .float .f64 bY, .float .f64 bz]] w (fun v => v = .bool true) :=
  (ris_any ax ay az bx bY bz w).mono fun v h => by rw [h, same_eq hx, same_eq hy, same_eq hz]; rfl

set_option maxRecDepth 100000 in
set_option maxHeartbeats 1000000 in
theorem is4_eq {a b : Bx} (h : a.Eq b) (w : World) : Ret Tryz.prog 12 #[bxv a, bxv b] w (fun v => v = .bool true) := by
  unfold Ret bxv
  go_enter Tryz.func12, Tryz.ntmps12
  go_wp2_with fail
  refine Lp.settleC (fun w' => Lp.Bk w' (w.heap.size) #[.float .f64 a.a0, .float .f64 a.a1, .float .f64 a.a2, .float .f64 a.a3, .float .f64 a.a4, .float .f64 a.a5] 42 ∧ Lp.Bk w' (w.heap.size + 1) #[.float .f64 b.a0, .float .f64 b.a1, .float .f64 b.a2, .float .f64 b.a3, .float .f64 b.a4, .float .f64 b.a5] 42 ∧ Cl w w') ⟨((Lp.Bk.al _ _ _).alo _), (Lp.Bk.al1 _ _ _ _), ((Below.refl _ _).alloc (by simp <;> omega) _).alloc (by simp <;> omega) _⟩ ?_
  rintro v1 ⟨BA, BB, HB⟩
  have kA := BA.cell
  have kB := BB.cell
  refine Calls.mono (ris_eq h.h0 h.h1 h.h2 _) ?_
  rintro e v2 ⟨v, rfl, rfl, hm⟩
  clear kA kB
  replace BA := BA.keep hm
  replace BB := BB.keep hm
  replace HB := HB.call hm
  clear hm
  have kA := BA.cell
  have kB := BB.cell
  go_wp2_with fail
  refine Calls.mono (ris_eq h.h3 h.h4 h.h5 _) ?_
  rintro e v3 ⟨v, rfl, rfl, hm⟩
  clear kA kB
  replace BA := BA.keep hm
  replace BB := BB.keep hm
  replace HB := HB.call hm
  clear hm
  have kA := BA.cell
  have kB := BB.cell
  go_wp2_with fail
  go_ret
  exact ⟨_, rfl, rfl, HB⟩


theorem f_self {x : Nat} (h : isN x = false) : (FloatKind.f64.format.order x x == some .eq) = true := by
  have := ford_refl h
  unfold ford at this
  show (F64.order x x == some .eq) = true
  rw [this]
  rfl

set_option maxRecDepth 100000 in
set_option maxHeartbeats 1000000 in
theorem eq_vec (d x y z : Nat) (fx : (FloatKind.f64.format.order x x == some .eq) = true) (fy : (FloatKind.f64.format.order y y == some .eq) = true) (fz : (FloatKind.f64.format.order z z == some .eq) = true) (w : World) :
    (Op.equalIn (d + 1 + 1) 31 (.agg #[.float .f64 x, .float .f64 y, .float .f64 z]) (.agg #[.float .f64 x, .float .f64 y, .float .f64 z])).run Tryz.prog w = .ok true w := by
  have hS2 : Tryz.prog.underlying 31 = some (.struct (Tryz.prog.fieldsOf 31)) := by kernel_rfl
  have hp2 : Tryz.prog.stoodInHeld 31 = false := by kernel_rfl
  have gx : Op.floatEq FloatKind.f64 x x = true := fx
  have gy : Op.floatEq FloatKind.f64 y y = true := fy
  have gz : Op.floatEq FloatKind.f64 z z = true := fz
  rw [run_equalIn_agg w (d + 1) 31 _ _ hS2 hp2]
  simp only [Program.fieldsOf, Tryz.underlying31]
  go_simp

set_option maxRecDepth 100000 in
set_option maxHeartbeats 1000000 in
theorem eq_box (d : Nat) (b : Bx) (h : b.Ok) (w : World) :
    (Op.equalIn (d + 1 + 1 + 1) 42 (bxv b) (bxv b)).run Tryz.prog w = .ok true w := by
  have hS2 : Tryz.prog.underlying 42 = some (.struct (Tryz.prog.fieldsOf 42)) := by kernel_rfl
  have hp2 : Tryz.prog.stoodInHeld 42 = false := by kernel_rfl
  have v0 := fun w => eq_vec d b.a0 b.a1 b.a2 (f_self h.h0) (f_self h.h1) (f_self h.h2) w
  have v1 := fun w => eq_vec d b.a3 b.a4 b.a5 (f_self h.h3) (f_self h.h4) (f_self h.h5) w
  unfold bxv
  rw [run_equalIn_agg w (d + 1 + 1) 42 _ _ hS2 hp2]
  simp only [Program.fieldsOf, Tryz.underlying42]
  go_simp

set_option maxRecDepth 100000 in
set_option maxHeartbeats 1000000 in
theorem eql_node (x : Nd) (h : x.box.Ok) (w : World) : (binOp .eql 44 (dxv x) (dxv x)).run Tryz.prog w = .ok (.bool true) w := by
  have hS : Tryz.prog.underlying 44 = some (.struct (Tryz.prog.fieldsOf 44)) := by kernel_rfl
  have hp : Tryz.prog.stoodInHeld 44 = false := by kernel_rfl
  obtain ⟨d, hd⟩ : ∃ d : Nat, 10000 = d + 1 + 1 + 1 + 1 := ⟨9996, rfl⟩
  have v0 := fun w => eq_box d x.box h w
  unfold dxv
  unfold bxv at v0
  rw [run_eql_struct, hd, run_equalIn_agg w (d + 1 + 1 + 1) 44 _ _ hS hp]
  clear hd
  simp only [Program.fieldsOf, Tryz.underlying44]
  go_simp

end Go.Proofs.YtijoaklknpkdoaaGreat

namespace Go.Proofs.YtijoaklknpkdoaaGreat
open Go.ChangeShapes Go.WideShapes Go.ChangeAt Go.RowKit Fl Lm Go.Joins Go.Deep

theorem trod_tri {H : Type} {enc : TypeId × Value → H} {W : World} {base : Nat} {spare : Nat → Bool} {held : Bool} {fuel : Nat} {cs : List Value} {x : DataW H × List MemPlace} (hsz : cs.length = 9) (h : DataW.trod enc Tryz.prog W base spare held fuel 33 cs = some x) : ∃ t : Tr, cs = tcs t := by
  match cs, hsz with
  | [c0, c1, c2, c3, c4, c5, c6, c7, c8], _ =>
    obtain ⟨y0, y1, y2, m, hx, _, h0, h1, h2⟩ := trod_struct3 Tryz.underlying33 h
    simp only [Tryz.cells31, List.drop_zero, List.drop_succ_cons, List.take_succ_cons, List.take_zero] at h0 h1 h2
    obtain ⟨x0, x1, x2, rfl, rfl, rfl, rfl, w0⟩ := trod_vec h0
    obtain ⟨x3, x4, x5, rfl, rfl, rfl, rfl, w1⟩ := trod_vec h1
    obtain ⟨x6, x7, x8, rfl, rfl, rfl, rfl, w2⟩ := trod_vec h2
    exact ⟨⟨x0, x1, x2, x3, x4, x5, x6, x7, x8⟩, rfl⟩

theorem came_tris {H : Type} {enc : TypeId × Value → H} {W : World} {v : Value} {d : DataW H} {p : List MemPlace}
    (hv : ∃ a l c, v = .slice a l c) (h : DataW.Trod enc Tryz.prog W 0 (fun _ => true) true 22 v d p) :
    ∃ (n : Nat) (T : Nat → Tr) (ao : Option Addr) (cz : Nat), v = .slice ao n cz ∧ n ≤ cz ∧ Sl W ao n 9 (fun i => tcs (T i)) ∧ ∀ i, n ≤ i → T i = ⟨0, 0, 0, 0, 0, 0, 0, 0, 0⟩ := by
  obtain ⟨a, l, c, rfl⟩ := hv
  obtain ⟨fuel, hf⟩ := h
  rcases open_slice under_tris hf with ⟨hcs, _⟩ | ⟨ad, len, cap, m, n, D, Pl, hcs, _, hl, hm, hmm, _, hx⟩
  · simp [Value.cells] at hcs
    obtain ⟨rfl, rfl, rfl⟩ := hcs
    exact ⟨0, fun _ => ⟨0, 0, 0, 0, 0, 0, 0, 0, 0⟩, none, 0, rfl, Nat.le_refl _, .inl rfl, fun _ _ => rfl⟩
  · simp [Value.cells] at hcs
    obtain ⟨rfl, rfl, rfl⟩ := hcs
    simp at hmm
    rw [Tryz.cells33] at hx
    by_cases h0 : l = 0
    · subst h0
      exact ⟨0, fun _ => ⟨0, 0, 0, 0, 0, 0, 0, 0, 0⟩, _, _, rfl, hl, .inl rfl, fun _ _ => rfl⟩
    · obtain ⟨b, off, spot⟩ := ad
      have each : ∀ i, i < l → ∃ t : Tr, ∀ j, j < 9 → W.cell? (((⟨b, off, spot⟩ : Addr).add (i * 9)).add j) = (tcs t)[j]? := by
        intro i hi
        obtain ⟨cs, k1, k2⟩ := hx i (by omega)
        obtain ⟨_, hlen, hcell⟩ := World.cells?_some k1
        obtain ⟨t, rfl⟩ := trod_tri hlen k2
        exact ⟨t, fun j hj => hcell j hj⟩
      obtain ⟨t0, ht0⟩ := each 0 (by omega)
      have hc0 := (ht0 0 (by decide)).trans (show (tcs t0)[0]? = some (.float .f64 t0.t0) from rfl)
      have hspot : spot = none := by simpa [Addr.add] using World.cell?_spot hc0
      subst hspot
      have hb : b < W.heap.size := by
        have := World.block_lt_of_cell? W _ hc0
        rw [addr_off, addr_off] at this
        exact this
      have : Inhabited Tr := ⟨⟨0, 0, 0, 0, 0, 0, 0, 0, 0⟩⟩
      obtain ⟨F, hF⟩ := choose_lt each
      refine ⟨l, fun i => if i < l then F i else ⟨0, 0, 0, 0, 0, 0, 0, 0, 0⟩, some ⟨b, off, none⟩, c, rfl, hl, .inr ⟨b, off, rfl, hb, fun i hi j hj => ?_⟩, fun i hi => if_neg (by omega)⟩
      have := hF i hi j hj
      rw [addr_off, addr_off, Nat.add_assoc] at this
      rw [this]
      show _ = (tcs (if i < l then F i else _))[j]?
      rw [if_pos hi]
end Go.Proofs.YtijoaklknpkdoaaGreat

namespace Go.Proofs.YtijoaklknpkdoaaGreat
open Go.RowKit Fl Lm

def zeroT : Tr := ⟨0, 0, 0, 0, 0, 0, 0, 0, 0⟩
theorem zeroT_mo : zeroT.Mo := Tr.may (by decide +kernel)
/-- The first m triangles, and none behind them. -/
def firstT (T : Nat → Tr) (m : Nat) (i : Nat) : Tr := if i < m then T i else zeroT
theorem firstT_mo {T : Nat → Tr} {m : Nat} (h : ∀ i, i < m → (T i).mayB = true) (i : Nat) : (firstT T m i).Mo := by
  unfold firstT
  split
  · rename_i hi; exact Tr.may (h i hi)
  · exact zeroT_mo
theorem Sl.tris {w : World} {ao : Option Addr} {m : Nat} {T : Nat → Tr} (h : Sl w ao m 9 fun i => tcs (T i)) : Sl w ao m 9 fun i => tcs (firstT T m i) := by
  rcases h with h | ⟨g, o, e, h⟩
  · exact .inl h
  · exact .inr ⟨g, o, e, h.congr fun i hi => by unfold firstT; rw [if_pos hi]⟩
theorem Sl.fewer {w : World} {ao : Option Addr} {m n k : Nat} {e : Nat → List Value} (h : Sl w ao n k e) (hm : m ≤ n) : Sl w ao m k e := by
  rcases h with h | ⟨g, o, h0, h⟩
  · exact .inl (by omega)
  · exact .inr ⟨g, o, h0, h.less hm⟩

set_option maxRecDepth 100000 in
set_option maxHeartbeats 1000000 in
theorem sound_any (T : Nat → Tr) (sur : Bool) (n cz : Nat) (ao : Option Addr) (w : World) (hL0 : Sl w ao n 9 fun i => tcs (T i)) (hn : n ≤ cz) : Ret Tryz.prog 4 #[.slice ao n cz, .bool sur] w (fun v => v = .bool true) := by
  unfold Ret
  have hL1 := hL0.fewer (Nat.min_le_left n 200)
  have hm2 : min n 200 ≤ 200 := Nat.min_le_right _ _
  have HFEW := hid (few_any n cz 200 ao w hn)
  generalize min n 200 = m at *
  have HL := hid hL1
  clear hL0 hL1 hn
  go_enter Tryz.func4, Tryz.ntmps4
  go_wp2_with fail
  refine Calls.mono HFEW.out ?_
  rintro e w1 ⟨rfl, hw⟩
  obtain rfl := hw.symm
  clear hw HFEW
  go_wp2_with fail
  go_loopg [5] m (fun k i wr => ∃ j : Nat, k + j = m ∧ i = .int .i64 (j : Int) ∧ (∀ q, q < j → (T q).mayB = true) ∧ Cl w wr)
  case atStart => exact ⟨0, Nat.add_zero _, rfl, fun q hq => absurd hq (Nat.not_lt_zero q), Below.refl _ _⟩
  case round =>
    obtain ⟨g0, hg0⟩ : ∃ g0, g0 = gk := ⟨_, rfl⟩
    subst hg0
    obtain ⟨j, hk, rfl, hA, HB⟩ := hrel
    have HK := aside hk
    have HA := aside hA
    clear hk hA
    by_cases hj : j < m
    · have hd : ((j : Int) < (m : Int)) = True := eq_true (by omega)
      obtain ⟨g, o, rfl, E⟩ := (HL.out.keep HB).get hj
      obtain ⟨k0, k1, k2, k3, k4, k5, k6, k7, k8⟩ := tat E hj
      have hj5 : j < 512 := by omega
      have HMAY := hid (fun w' => rmay_any (T j) w')
      have hjl := aside hj
      clear E hj
      unfold txv at HMAY
      cases hmy : (T j).mayB with
      | true =>
        rw [hmy] at HMAY
        have HMY := aside hmy
        clear hmy
        go_wp2_with fail
        refine Calls.mono (HMAY.out _) ?_
        rintro e w2 ⟨v, rfl, rfl, hm⟩
        replace HB := HB.call hm
        clear hm k0 k1 k2 k3 k4 k5 k6 k7 k8 HMAY
        go_wp2_with fail
        go_roundg (g0 - 1)
        case measure => have := HK.out; have := hjl.out; omega
        case rel => exact ⟨j + 1, by have := HK.out; have := hjl.out; omega, by go_num, fun q hq => by
          rcases Nat.lt_or_ge q j with h | h
          · exact HA.out q h
          · have e : q = j := by omega
            rw [e]; exact HMY.out, HB⟩
      | false =>
        rw [hmy] at HMAY
        clear hmy
        go_wp2_with fail
        refine Calls.mono (HMAY.out _) ?_
        rintro e w2 ⟨v, rfl, rfl, hm⟩
        replace HB := HB.call hm
        clear hm k0 k1 k2 k3 k4 k5 k6 k7 k8 HMAY
        go_wp2_with fail
        refine Calls.mono (awake_any _) ?_
        rintro e w3 ⟨v, rfl, rfl, hm⟩
        replace HB := HB.call hm
        clear hm
        go_wp2_with fail
        exact bodyPost_ret (v := _) (by simp [results, go_sem]) rfl ⟨_, rfl, rfl, HB⟩
    · have hd : ((j : Int) < (m : Int)) = False := eq_false (by omega)
      have hjm : j = m := by have := HK.out; omega
      subst hjm
      clear hj
      have hT := firstT_mo HA.out
      have hmay : ∀ i, i < j → (firstT T j i).mayB = true := fun i hi => by unfold firstT; rw [if_pos hi]; exact HA.out i hi
      have hLT := (HL.out.keep HB).tris
      generalize firstT T j = T1 at *
      have HNEW := hid (new_any T1 hT sur j cz ao wr hLT (by omega) hmay)
      have HTT := aside hT
      have HLT := hid hLT
      clear hT hLT hmay HL HA HK
      have hwf := nd_wfD (treeT T1 sur) (List.range j)
      have hlenD : (ndL (treeT T1 sur) 0 0 (List.range j)).length ≤ 4000 ∧ 0 < (ndL (treeT T1 sur) 0 0 (List.range j)).length := by
        rw [nd_len]
        have := sz_le (treeT T1 sur) (List.range j)
        rw [List.length_range] at this
        have : max j 1 ≤ 200 := by omega
        exact ⟨by omega, sz_pos _ _⟩
      have hlenO : (orL (treeT T1 sur) (List.range j)).length = j := by rw [or_len, List.length_range]
      have hrise : riseF (orL (treeT T1 sur) (List.range j)) = List.range j := rise_range (or_perm _ _)
      have hok := nd_ok (treeT T1 sur) (List.range j) 0 0
      have htold := told_all (treeT T1 sur) (List.range j) 0 0
      have hbx := fun s => bxs_P HTT.out s
      have hszD := nd_len (treeT T1 sur) (List.range j) 0 0
      rw [List.length_range, Nat.zero_add] at htold
      generalize hD : ndL (treeT T1 sur) 0 0 (List.range j) = D at *
      generalize hO : orL (treeT T1 sur) (List.range j) = O at *
      have HWF := aside hwf
      have HSZ := aside hszD
      clear hszD
      have HLD := aside hlenD
      have HLO := aside hlenO
      have HRI := aside hrise
      have HOK := aside hok
      have HTO := aside htold
      have HBX := aside hbx
      have HOE := aside hO
      clear hwf hlenD hlenO hrise hok htold hbx hO hD
      go_wp2_with fail
      refine Calls.mono HNEW.out ?_
      rintro e w2 ⟨t, rfl, hTR, _, hm⟩
      have HTR := hid hTR
      have HB2 := hid (HB.call hm)
      have HLT2 := hid (HLT.out.keep hm)
      clear hm hTR HB HNEW HLT
      go_wp2_with fail
      refine Calls.mono (order_any t D O w2 HTR.out (by have := HLO.out; omega)) ?_
      rintro e w3 ⟨a1, c1, rfl, hSO, _, hm⟩
      rw [HLO.out]
      have HTR3 := hid (HTR.out.keep hm)
      have HB3 := hid (HB2.out.call hm)
      have HLT3 := hid (HLT2.out.keep hm)
      have HSO3 := hid hSO
      clear hm hSO HTR HB2 HLT2
      go_wp2_with fail
      have HRS := hid (rise_any O c1 a1 w3 HSO3.out (by have := HLO.out; omega))
      rw [HRI.out, HLO.out] at HRS
      refine Calls.mono HRS.out ?_
      rintro e w4 ⟨v1, rfl, hO1, hm⟩
      have HTR4 := hid (HTR3.out.keep hm)
      have HB4 := hid (HB3.out.call hm)
      have HLT4 := hid (HLT3.out.keep hm)
      have HSO4 := hid (HSO3.out.keep hm)
      obtain ⟨a2, c2, rfl⟩ := hO1.slice
      have HS2 := hid (hO1.sl (fun _ _ => rfl))
      clear hm hO1 HTR3 HB3 HLT3 HSO3 HRS HRI
      have hrl : (List.range j).length = j := List.length_range
      go_wp2_with fail
      refine Calls.mono (all_any j w4 (by omega)) ?_
      rintro e w5 ⟨v2, rfl, hO2, hm⟩
      have HTR5 := hid (HTR4.out.keep hm)
      have HB5 := hid (HB4.out.call hm)
      have HLT5 := hid (HLT4.out.keep hm)
      have HSO5 := hid (HSO4.out.keep hm)
      have HS5 := hid (HS2.out.keep hm)
      obtain ⟨a3, c3, rfl⟩ := hO2.slice
      have HS6 := hid (hO2.sl (fun _ _ => rfl))
      clear hm hO2 HTR4 HB4 HLT4 HSO4 HS2
      have HIN := hid (ints_any (List.range j) (List.range j) c2 c3 a2 a3 w5 HS5.out HS6.out (by rw [List.length_range]; omega))
      rw [hrl, decide_eq_true rfl] at HIN
      go_wp2_with fail
      refine Calls.mono HIN.out ?_
      rintro e w6 ⟨v, rfl, rfl, hm⟩
      have HTR6 := hid (HTR5.out.keep hm)
      have HB6 := hid (HB5.out.call hm)
      have HLT6 := hid (HLT5.out.keep hm)
      have HSO6 := hid (HSO5.out.keep hm)
      clear hm HTR5 HB5 HLT5 HSO5 HS5 HS6 HIN
      go_wp2_with fail
      refine Calls.mono (nodes_any t D O w6 HTR6.out HLD.out.2 HLD.out.1) ?_
      rintro e w7 ⟨gD, cD, rfl, hED, _, hm⟩
      have HTR7 := hid (HTR6.out.keep hm)
      have HB7 := hid (HB6.out.call hm)
      have HLT7 := hid (HLT6.out.keep hm)
      have HSO7 := hid (HSO6.out.keep hm)
      have HED7 := hid hED
      clear hm hED HTR6 HB6 HLT6 HSO6
      go_wp2_with fail
      go_loopg [10, 11] D.length (fun k told i wr => ∃ q : Nat, k + q = D.length ∧ i = .int .i64 (q : Int) ∧ told = .int .i64 (toldF 0 (D.take q) : Nat) ∧ Cl w7 wr)
      case atStart => exact ⟨0, Nat.add_zero _, rfl, rfl, Below.refl _ _⟩
      case round =>
        obtain ⟨g1, hg1⟩ : ∃ g1, g1 = gk := ⟨_, rfl⟩
        subst hg1
        obtain ⟨wo, hwo⟩ : ∃ wo, wo = wr := ⟨_, rfl⟩
        subst hwo
        obtain ⟨q, hk, rfl, htold, HBo⟩ := hrel
        have HK := aside hk
        clear hk
        by_cases hq : q < D.length
        · have hdq : ((q : Int) < (D.length : Int)) = True := eq_true (by omega)
          have hq5 : q < 5000 := by have := HLD.out; omega
          obtain ⟨k0, k1, k2, k3, k4, k5, k6, k7, k8, k9⟩ := dat0 (HED7.out.keep HBo) hq
          have hx : D[q]? = some (D.getD q nd0) := by rw [List.getD_eq_getElem?_getD, List.getElem?_eq_getElem hq]; rfl
          generalize D.getD q nd0 = x at *
          have hnd := HOK.out q x hx
          have HTT2 := aside (told_take D 0 q x hx)
          have hql := aside hq
          have hgl : gD < wo.heap.size := (HED7.out.keep HBo).lt
          clear hx hq
          rcases hnd with ⟨n1, n2, n3, n4, n5, _, n7, l', b1, b2, b3, b4, b5⟩ | ⟨n1, n2, n3, n4, n5, l', b1, b2, b3, ⟨y, y1, y2⟩, ⟨z, z1, z2⟩⟩
          · rw [← n3] at htold
            subst htold
            have hl0 : ((x.left : Int) = 0) = True := eq_true (by omega)
            have c1 : ((x.hi : Int) < (x.lo : Int)) = False := eq_false (by omega)
            have c2 : (4 < (x.hi : Int) - (x.lo : Int)) = False := eq_false (by omega)
            rw [List.length_range, Nat.zero_add] at n7
            have c3 : ((j : Int) < (x.hi : Int)) = False := eq_false (by omega)
            have HNEX := aside (show toldF 0 (D.take (q + 1)) = x.hi by rw [HTT2.out, if_pos n1])
            have HL' := aside (And.intro b2 (And.intro b3 b5))
            have HM' := aside b4
            have HOKB := hid (show x.box.Ok by rw [b1]; exact (HBX.out l').ok)
            have HJN := hid (show ∀ i, i ∈ l' → x.box.join (T1 i).box = x.box from fun i hi => by rw [b1]; exact (HBX.out l').has ⟨i, hi, rfl⟩)
            have hhi : x.hi ≤ 1000 := by omega
            have HN4 := aside n4
            have HHJ := aside n7
            have hsub : x.hi - x.lo ≤ 4 := by omega
            clear n2 n3 n5 n7 b1 b2 b3 b4 b5 HTT2
            go_wp2_with fail
            have hB0 := Lp.Bk.al wo #[.float .f64 x.box.a0, .float .f64 x.box.a1, .float .f64 x.box.a2, .float .f64 x.box.a3, .float .f64 x.box.a4, .float .f64 x.box.a5, .int .i64 0, .int .i64 (x.right : Nat), .int .i64 (x.lo : Nat), .int .i64 (x.hi : Nat)] 44
            have hC0 : Cl w7 (wo.alloc (.cells #[.float .f64 x.box.a0, .float .f64 x.box.a1, .float .f64 x.box.a2, .float .f64 x.box.a3, .float .f64 x.box.a4, .float .f64 x.box.a5, .int .i64 0, .int .i64 (x.right : Nat), .int .i64 (x.lo : Nat), .int .i64 (x.hi : Nat)] 44)) := HBo.alloc _
            clear k0 k1 k2 k3 k4 k5 k6 k7 k8 k9 HBo
            have hmw : w7.heap.size ≤ wo.heap.size + 1 := by have := hC0.size; simpa using this
            go_loopg [13] (x.hi - x.lo) (fun kk k wi => ∃ r : Nat, kk + r = x.hi - x.lo ∧ k = .int .i64 ((x.lo + r : Nat) : Int) ∧ Lp.Bk wi wo.heap.size #[.float .f64 x.box.a0, .float .f64 x.box.a1, .float .f64 x.box.a2, .float .f64 x.box.a3, .float .f64 x.box.a4, .float .f64 x.box.a5, .int .i64 0, .int .i64 (x.right : Nat), .int .i64 (x.lo : Nat), .int .i64 (x.hi : Nat)] 44 ∧ Cl w7 wi)
            case atStart => exact ⟨0, Nat.add_zero _, by simp, hB0, hC0⟩
            case round =>
              obtain ⟨g2, hg2⟩ : ∃ g2, g2 = gk := ⟨_, rfl⟩
              subst hg2
              obtain ⟨wi, hwi⟩ : ∃ wi, wi = wr := ⟨_, rfl⟩
              subst hwi
              obtain ⟨r, hkr, rfl, hBN, hCN⟩ := hrel
              clear hB0 hC0
              have HKR := aside hkr
              have HBN := hid hBN
              have HCN := hid hCN
              have hnl : wo.heap.size < wi.heap.size := hBN.lt
              clear hkr
              have kN := hBN.cell
              clear hBN hCN
              by_cases hr : x.lo + r < x.hi
              · have hdr : (((x.lo + r : Nat) : Int) < (x.hi : Int)) = True := eq_true (by omega)
                have hdr2 : ((x.lo : Int) + (r : Int) < (x.hi : Int)) = True := eq_true (by omega)
                have hrO : x.lo + r < O.length := by have := HLO.out; have := HHJ.out; omega
                have hrl : r < l'.length := by have := HL'.out.1; omega
                have hat : ∃ i, O.getD (x.lo + r) 0 = i ∧ i ∈ l' := by
                  have h1 := HL'.out.2.2 r hrl
                  rw [HOE.out, Nat.sub_zero, List.getElem?_eq_getElem hrO, List.getElem?_eq_getElem (by rw [rise_len]; exact hrl)] at h1
                  refine ⟨(riseF l')[r]'(by rw [rise_len]; exact hrl), ?_, (rise_perm l').mem_iff.1 (List.getElem_mem _)⟩
                  rw [List.getD_eq_getElem?_getD, List.getElem?_eq_getElem hrO]
                  exact Option.some.inj h1
                obtain ⟨i, hi, hil⟩ := hat
                have hij : i < j := List.mem_range.1 (HM'.out i hil)
                obtain ⟨go, oo, rfl, EO⟩ := (HSO7.out.keep HCN.out).get hrO
                have q1 := EO.num hrO
                rw [hi] at q1
                obtain ⟨gt, ot, rfl, ET⟩ := (HLT7.out.keep HCN.out).get hij
                obtain ⟨t0, t1, t2, t3, t4, t5, t6, t7, t8⟩ := tat ET hij
                have hdi : ((i : Int) < (j : Int)) = True := eq_true (by omega)
                have hi5 : i < 512 := by omega
                have hri : ((x.lo : Int) + (r : Int) < (j : Int)) = True := eq_true (by have := HLO.out; omega)
                have hr5 : r < 1000 := by omega
                have HRO := hid (fun w' => rof_c (T1 i) w')
                have hjn := HJN.out i hil
                have HJ : Hid (∀ w', Ret Tryz.prog 19 #[.agg #[.float .f64 x.box.a0, .float .f64 x.box.a1, .float .f64 x.box.a2, .float .f64 x.box.a3, .float .f64 x.box.a4, .float .f64 x.box.a5], .agg #[.float .f64 (T1 i).box.a0, .float .f64 (T1 i).box.a1, .float .f64 (T1 i).box.a2, .float .f64 (T1 i).box.a3, .float .f64 (T1 i).box.a4, .float .f64 (T1 i).box.a5]] w' (fun v => v = .agg #[.float .f64 x.box.a0, .float .f64 x.box.a1, .float .f64 x.box.a2, .float .f64 x.box.a3, .float .f64 x.box.a4, .float .f64 x.box.a5])) := hid (fun w' => (rjoin_any _ _ _ _ _ _ _ _ _ _ _ _ w').mono fun v hv => by
                  have e : v = bxv (x.box.join (T1 i).box) := hv
                  rw [hjn] at e
                  exact e)
                have HI : Hid (∀ w', Ret Tryz.prog 12 #[.agg #[.float .f64 x.box.a0, .float .f64 x.box.a1, .float .f64 x.box.a2, .float .f64 x.box.a3, .float .f64 x.box.a4, .float .f64 x.box.a5], .agg #[.float .f64 x.box.a0, .float .f64 x.box.a1, .float .f64 x.box.a2, .float .f64 x.box.a3, .float .f64 x.box.a4, .float .f64 x.box.a5]] w' (fun v => v = .bool true)) := hid (fun w' => is4_eq HOKB.out.eq w')
                have HRR := aside hr
                clear hr hi hil hjn EO ET hrl hrO
                generalize (T1 i).box = tb at *
                generalize T1 i = tt at *
                go_wp2_with fail
                refine Calls.mono (HRO.out _) ?_
                rintro e w8 ⟨v, rfl, rfl, hm⟩
                have HBN2 := hid (HBN.out.keep hm)
                have HCN2 := hid (HCN.out.call hm)
                clear hm t0 t1 t2 t3 t4 t5 t6 t7 t8 q1 kN HRO HBN HCN
                have kN := HBN2.out.cell
                go_wp2_with fail
                have hBB := Lp.Bk.al w8 #[.float .f64 tb.a0, .float .f64 tb.a1, .float .f64 tb.a2, .float .f64 tb.a3, .float .f64 tb.a4, .float .f64 tb.a5] 42
                have HBB := hid hBB
                have HBN3 := hid (HBN2.out.alo (.cells #[.float .f64 tb.a0, .float .f64 tb.a1, .float .f64 tb.a2, .float .f64 tb.a3, .float .f64 tb.a4, .float .f64 tb.a5] 42))
                have HCN3 := hid (HCN2.out.alloc (.cells #[.float .f64 tb.a0, .float .f64 tb.a1, .float .f64 tb.a2, .float .f64 tb.a3, .float .f64 tb.a4, .float .f64 tb.a5] 42))
                clear hBB kN HBN2 HCN2
                apply Lw.region _ _ 8 (by kernel_rfl) (by kernel_rfl) (by kernel_rfl) (Below.refl _ _)
                apply Lw.facts
                · intro w9 hw
                  exact And.intro (HBN3.out.cl hw).cell (HBB.out.cl hw).cell
                intro HF
                iterate 3 (
                  apply Lw.one ?_ rfl
                  · intro w3 hw
                    obtain ⟨f0, f1⟩ := HF.out _ hw
                    go_simp
                    exact rfl
                  intro K hK
                  go_simp
                  refine hK.out _ ?_
                  clear hK K)
                apply Lw.any rfl
                · intro w9 hw
                  go_simp
                  exact Lw.ret (HJ.out _)
                intro K hK
                rintro v rfl
                go_simp
                refine hK.out _ ?_
                clear hK K
                iterate 2 (
                  apply Lw.one ?_ rfl
                  · intro w3 hw
                    obtain ⟨f0, f1⟩ := HF.out _ hw
                    go_simp
                    exact rfl
                  intro K hK
                  go_simp
                  refine hK.out _ ?_
                  clear hK K)
                apply Lw.any rfl
                · intro w9 hw
                  go_simp
                  exact Lw.ret (HI.out _)
                intro K hK
                rintro v rfl
                go_simp
                refine hK.out _ ?_
                clear hK K
                iterate 1 (
                  apply Lw.one ?_ rfl
                  · intro w3 hw
                    obtain ⟨f0, f1⟩ := HF.out _ hw
                    go_simp
                    exact rfl
                  intro K hK
                  go_simp
                  refine hK.out _ ?_
                  clear hK K)
                rotate_left
                exact []
                refine Lw.fin ?_
                intro w9 hm9
                have HBN4 := hid (HBN3.out.keep hm9)
                have HCN4 := hid (HCN3.out.call hm9)
                clear hm9 HF HBN3 HCN3 HBB
                go_wp2_with fail
                go_roundg (g2 - 1)
                case measure => have := HKR.out; have := HRR.out; omega
                case rel => exact ⟨r + 1, by have := HKR.out; have := HRR.out; omega, by go_num, HBN4.out, HCN4.out⟩
              · have hdr : (((x.lo + r : Nat) : Int) < (x.hi : Int)) = False := eq_false (by omega)
                have hdr2 : ((x.lo : Int) + (r : Int) < (x.hi : Int)) = False := eq_false (by omega)
                go_wp2_with fail
                go_roundg (g1 - 1)
                case measure => have := HK.out; have := hql.out; omega
                case rel => exact ⟨q + 1, by have := HK.out; have := hql.out; omega, by go_num, by rw [HNEX.out], HCN.out⟩
          · subst htold
            clear n4 n5
            rw [← HSZ.out] at n3
            rw [Nat.sub_zero] at y1 z1
            have hl0 : ((x.left : Int) = 0) = False := eq_false (by omega)
            have hl1 : (x.left = 0) = False := eq_false (by omega)
            have hxl : x.left < D.length := by omega
            have hxr : x.right < D.length := by omega
            have d1 : ((x.left : Int) != (q : Int) + 1) = false := by simp; omega
            have d1b : ((x.left : Int) == (q : Int) + 1) = true := by simp; omega
            have d1c : ((x.left : Int) = (q : Int) + 1) = True := eq_true (by omega)
            have d1d : (x.left = q + 1) = True := eq_true (by omega)
            have hwq : IntKind.i64.wrap ((q : Int) + 1) = (q : Int) + 1 := by rw [IntKind.wrap_i64]; omega
            have d2 : ((x.right : Int) ≤ (x.left : Int)) = False := eq_false (by omega)
            have d3 : ((D.length : Int) ≤ (x.right : Int)) = False := eq_false (by omega)
            have d4 : ((x.left : Int) < (D.length : Int)) = True := eq_true (by omega)
            have d5 : ((x.right : Int) < (D.length : Int)) = True := eq_true (by omega)
            have d6 : x.left < 5000 := by have := HLD.out; omega
            have d7 : x.right < 5000 := by have := HLD.out; omega
            have HNEX := aside (show toldF 0 (D.take (q + 1)) = toldF 0 (D.take q) by rw [HTT2.out, if_neg (by omega)])
            have hgy : D.getD x.left nd0 = y := by rw [List.getD_eq_getElem?_getD, y1]; rfl
            have hgz : D.getD x.right nd0 = z := by rw [List.getD_eq_getElem?_getD, z1]; rfl
            have HY := hid (fun (w' : World) (hw : Below w7.heap.size w7 w') => by have := dat0 (HED7.out.keep hw) hxl; rw [hgy] at this; exact this)
            have HZ := hid (fun (w' : World) (hw : Below w7.heap.size w7 w') => by have := dat0 (HED7.out.keep hw) hxr; rw [hgz] at this; exact this)
            have hjq : (y.box.join z.box).Eq x.box := by
              have hp := (treeT T1 sur).perm l' b1
              rw [y2, z2, b2]
              refine (((HBX.out _).join (HBX.out _)).iff fun c => ?_).eq (HBX.out l')
              constructor
              · rintro (⟨i, hi, e⟩ | ⟨i, hi, e⟩)
                · exact ⟨i, hp.mem_iff.1 (List.mem_append_left _ hi), e⟩
                · exact ⟨i, hp.mem_iff.1 (List.mem_append_right _ hi), e⟩
              · rintro ⟨i, hi, e⟩
                rcases List.mem_append.1 (hp.mem_iff.2 hi) with h | h
                · exact .inl ⟨i, h, e⟩
                · exact .inr ⟨i, h, e⟩
            have HJ : Hid (∀ w', Ret Tryz.prog 19 #[.agg #[.float .f64 y.box.a0, .float .f64 y.box.a1, .float .f64 y.box.a2, .float .f64 y.box.a3, .float .f64 y.box.a4, .float .f64 y.box.a5], .agg #[.float .f64 z.box.a0, .float .f64 z.box.a1, .float .f64 z.box.a2, .float .f64 z.box.a3, .float .f64 z.box.a4, .float .f64 z.box.a5]] w' (fun v => v = .agg #[.float .f64 (y.box.join z.box).a0, .float .f64 (y.box.join z.box).a1, .float .f64 (y.box.join z.box).a2, .float .f64 (y.box.join z.box).a3, .float .f64 (y.box.join z.box).a4, .float .f64 (y.box.join z.box).a5])) := hid (fun w' => rjoin_any _ _ _ _ _ _ _ _ _ _ _ _ w')
            have HI : Hid (∀ w', Ret Tryz.prog 12 #[.agg #[.float .f64 (y.box.join z.box).a0, .float .f64 (y.box.join z.box).a1, .float .f64 (y.box.join z.box).a2, .float .f64 (y.box.join z.box).a3, .float .f64 (y.box.join z.box).a4, .float .f64 (y.box.join z.box).a5], .agg #[.float .f64 x.box.a0, .float .f64 x.box.a1, .float .f64 x.box.a2, .float .f64 x.box.a3, .float .f64 x.box.a4, .float .f64 x.box.a5]] w' (fun v => v = .bool true)) := hid (fun w' => is4_eq hjq w')
            clear hjq y1 y2 z1 z2 b1 b2 b3 n1 n2 n3 HTT2 hgy hgz hxl hxr
            generalize y.box.join z.box = jb at *
            go_wp2_with fail
            have hB0 := Lp.Bk.al wo #[.float .f64 x.box.a0, .float .f64 x.box.a1, .float .f64 x.box.a2, .float .f64 x.box.a3, .float .f64 x.box.a4, .float .f64 x.box.a5, .int .i64 (x.left : Nat), .int .i64 (x.right : Nat), .int .i64 (x.lo : Nat), .int .i64 (x.hi : Nat)] 44
            have hC0 : Cl w7 (wo.alloc (.cells #[.float .f64 x.box.a0, .float .f64 x.box.a1, .float .f64 x.box.a2, .float .f64 x.box.a3, .float .f64 x.box.a4, .float .f64 x.box.a5, .int .i64 (x.left : Nat), .int .i64 (x.right : Nat), .int .i64 (x.lo : Nat), .int .i64 (x.hi : Nat)] 44)) := HBo.alloc _
            have HBN := hid hB0
            have HCN := hid hC0
            clear k0 k1 k2 k3 k4 k5 k6 k7 k8 k9 HBo hB0 hC0
            apply Lw.region _ _ 38 (by kernel_rfl) (by kernel_rfl) (by kernel_rfl) (Below.refl _ _)
            apply Lw.facts
            · intro w9 hw
              exact And.intro (HBN.out.cl hw).cell (And.intro (HY.out w9 (HCN.out.call hw)) (HZ.out w9 (HCN.out.call hw)))
            intro HF
            iterate 32 (
              apply Lw.one ?_ rfl
              · intro w3 hw
                obtain ⟨f0, ⟨y0, y1, y2, y3, y4, y5, y6, y7, y8, y9⟩, ⟨z0, z1, z2, z3, z4, z5, z6, z7, z8, z9⟩⟩ := HF.out _ hw
                go_simp
                exact rfl
              intro K hK
              go_simp
              refine hK.out _ ?_
              clear hK K)
            apply Lw.any rfl
            · intro w9 hw
              go_simp
              exact Lw.ret (HJ.out _)
            intro K hK
            rintro v rfl
            go_simp
            refine hK.out _ ?_
            clear hK K
            iterate 2 (
              apply Lw.one ?_ rfl
              · intro w3 hw
                obtain ⟨f0, ⟨y0, y1, y2, y3, y4, y5, y6, y7, y8, y9⟩, ⟨z0, z1, z2, z3, z4, z5, z6, z7, z8, z9⟩⟩ := HF.out _ hw
                go_simp
                exact rfl
              intro K hK
              go_simp
              refine hK.out _ ?_
              clear hK K)
            apply Lw.any rfl
            · intro w9 hw
              go_simp
              exact Lw.ret (HI.out _)
            intro K hK
            rintro v rfl
            go_simp
            refine hK.out _ ?_
            clear hK K
            iterate 2 (
              apply Lw.one ?_ rfl
              · intro w3 hw
                obtain ⟨f0, ⟨y0, y1, y2, y3, y4, y5, y6, y7, y8, y9⟩, ⟨z0, z1, z2, z3, z4, z5, z6, z7, z8, z9⟩⟩ := HF.out _ hw
                go_simp
                exact rfl
              intro K hK
              go_simp
              refine hK.out _ ?_
              clear hK K)
            rotate_left
            exact []
            refine Lw.fin ?_
            intro w9 hm9
            have HCN4 := hid (HCN.out.call hm9)
            clear hm9 HF HCN HBN HY HZ
            go_wp2_with fail
            go_roundg (g1 - 1)
            case measure => have := HK.out; have := hql.out; omega
            case rel => exact ⟨q + 1, by have := HK.out; have := hql.out; omega, by go_num, by rw [HNEX.out], HCN4.out⟩
        · have hdq : ((q : Int) < (D.length : Int)) = False := eq_false (by omega)
          have hqe : q = D.length := by have := HK.out; omega
          rw [hqe, List.take_of_length_le (Nat.le_refl _), HTO.out] at htold
          subst htold
          have hx0 := HLD.out.2
          have hno : ¬ outD D (0 : Int) := fun h => by rcases h with h | h <;> omega
          have e1 : ndAt D 0 = D.getD 0 nd0 := if_neg hno
          have e2 : isAt D 0 = true := by unfold isAt; rw [decide_eq_false hno]; rfl
          have hx : D[0]? = some (D.getD 0 nd0) := by rw [List.getD_eq_getElem?_getD, List.getElem?_eq_getElem hx0]; rfl
          have HTRo := hid (HTR7.out.keep HBo)
          have HRT := hid (root_of (.pointer (some ⟨t, 0, none⟩)) (ndAt D 0) (isAt D 0) wo fun w' hw => node_any t D O 0 w' (HTRo.out.keep hw))
          have HDP := hid (fun (w' : World) (hw : Below wo.heap.size wo w') => depth_any t D O HWF.out HLD.out.1 HLD.out.2 w' (HTRo.out.keep hw))
          have hdi := dep_in HWF.out D.length 0 hx0 (by omega)
          have HDD := hid (fun (w' : World) (hw : Below wo.heap.size wo w') => dat0 ((HED7.out.keep HBo).keep hw) hx0)
          have hok0 : (D.getD 0 nd0).box.Ok := by
            rcases HOK.out 0 _ hx with ⟨_, _, _, _, _, _, _, l', b1, _⟩ | ⟨_, _, _, _, _, l', _, b2, _⟩
            · rw [b1]; exact (HBX.out l').ok
            · rw [b2]; exact (HBX.out l').ok
          have HEQ := fun W => eql_node (D.getD 0 nd0) hok0 W
          rw [e1, e2] at HRT
          generalize D.getD 0 nd0 = x at *
          generalize depF D D.length 0 = dd at *
          have d1 : (1 ≤ (dd : Int)) = True := eq_true (by omega)
          have d2 : ((dd : Int) ≤ (D.length : Int)) = True := eq_true (by omega)
          have d3 : (0 < (D.length : Int)) = True := eq_true (by omega)
          have d4 : dd ≤ 5000 := by have := HLD.out; omega
          have d5 : 0 < D.length := hx0
          unfold dxv at HRT HEQ
          have HBB := hid HBo
          have HBW := hid (HB7.out.call HBo)
          clear hx e1 e2 hno hok0 HBo hqe hdi
          go_wp2_with fail
          refine Calls.mono HRT.out ?_
          rintro e w8 ⟨v, rfl, rfl, hm⟩
          have HM8 := hid hm
          have HBW8 := hid (HBW.out.call hm)
          clear hm HRT
          go_wp2_with fail
          have HBN := hid (Lp.Bk.al w8 #[.float .f64 x.box.a0, .float .f64 x.box.a1, .float .f64 x.box.a2, .float .f64 x.box.a3, .float .f64 x.box.a4, .float .f64 x.box.a5, .int .i64 (x.left : Nat), .int .i64 (x.right : Nat), .int .i64 (x.lo : Nat), .int .i64 (x.hi : Nat)] 44)
          have HM9 := hid (HM8.out.trans (((Below.refl w8.heap.size w8).alloc (Nat.le_refl _) (.cells #[.float .f64 x.box.a0, .float .f64 x.box.a1, .float .f64 x.box.a2, .float .f64 x.box.a3, .float .f64 x.box.a4, .float .f64 x.box.a5, .int .i64 (x.left : Nat), .int .i64 (x.right : Nat), .int .i64 (x.lo : Nat), .int .i64 (x.hi : Nat)] 44)).mono HM8.out.size))
          have HBW9 := hid (HBW8.out.alloc (.cells #[.float .f64 x.box.a0, .float .f64 x.box.a1, .float .f64 x.box.a2, .float .f64 x.box.a3, .float .f64 x.box.a4, .float .f64 x.box.a5, .int .i64 (x.left : Nat), .int .i64 (x.right : Nat), .int .i64 (x.lo : Nat), .int .i64 (x.hi : Nat)] 44))
          apply Lw.region _ _ 30 (by kernel_rfl) (by kernel_rfl) (by kernel_rfl) (Below.refl _ _)
          apply Lw.facts
          · intro w9 hw
            exact And.intro (HBN.out.cl hw).cell (HDD.out w9 (HM9.out.trans (Below.mono hw HM9.out.size)))
          intro HF
          apply Lw.any rfl
          · intro w9 hw
            go_simp
            exact Lw.ret (awake_any _)
          intro K hK
          rintro v rfl
          go_simp
          refine hK.out _ ?_
          clear hK K
          iterate 18 (
            apply Lw.one ?_ rfl
            · intro w3 hw
              obtain ⟨f0, ⟨y0, y1, y2, y3, y4, y5, y6, y7, y8, y9⟩⟩ := HF.out _ hw
              simp only [Nat.zero_mul, Nat.zero_add] at y0 y1 y2 y3 y4 y5 y6 y7 y8 y9
              go_simp
              exact rfl
            intro K hK
            go_simp
            refine hK.out _ ?_
            clear hK K)
          apply Lw.any rfl
          · intro w9 hw
            go_simp
            exact Lw.ret (HDP.out _ (HM9.out.trans (Below.mono hw HM9.out.size)))
          intro K hK
          rintro v rfl
          go_simp
          refine hK.out _ ?_
          clear hK K
          iterate 6 (
            apply Lw.one ?_ rfl
            · intro w3 hw
              obtain ⟨f0, ⟨y0, y1, y2, y3, y4, y5, y6, y7, y8, y9⟩⟩ := HF.out _ hw
              simp only [Nat.zero_mul, Nat.zero_add] at y0 y1 y2 y3 y4 y5 y6 y7 y8 y9
              go_simp
              exact rfl
            intro K hK
            go_simp
            refine hK.out _ ?_
            clear hK K)
          apply Lw.any rfl
          · intro w9 hw
            go_simp
            exact Lw.ret (HDP.out _ (HM9.out.trans (Below.mono hw HM9.out.size)))
          intro K hK
          rintro v rfl
          go_simp
          refine hK.out _ ?_
          clear hK K
          iterate 3 (
            apply Lw.one ?_ rfl
            · intro w3 hw
              obtain ⟨f0, ⟨y0, y1, y2, y3, y4, y5, y6, y7, y8, y9⟩⟩ := HF.out _ hw
              simp only [Nat.zero_mul, Nat.zero_add] at y0 y1 y2 y3 y4 y5 y6 y7 y8 y9
              go_simp
              exact rfl
            intro K hK
            go_simp
            refine hK.out _ ?_
            clear hK K)
          rotate_left
          exact []
          refine Lw.fin ?_
          intro w9 hm9
          go_wp2_with fail
          exact bodyPost_ret (v := .bool true) (by simp [results, go_sem]) rfl ⟨_, rfl, rfl, HBW9.out.call hm9⟩

end Go.Proofs.YtijoaklknpkdoaaGreat
