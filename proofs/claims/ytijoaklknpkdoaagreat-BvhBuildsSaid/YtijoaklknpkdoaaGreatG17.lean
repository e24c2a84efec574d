/- The reference: Mid, longest. The reference's Is of equal boxes; nodes are the same as themselves. Triangles that come in. Lists for the reference's ways: an insertion by keys at its place; the cheapest bin, step by step; jobs beside what is still to come. A region that draws its order and stores a result while others are told: Lw over worlds that may turn one block, to what it is told to hold. The reference: Around, half, Low. -/
import Derived.Laws.StructEq
import Derived.Deep.Slices
import Derived.Carry
import Derived.Test.YtijoaklknpkdoaaGreatG16
import Derived.Test.YtijoaklknpkdoaaGreatG7
import Derived.Test.YtijoaklknpkdoaaGreatG1
import Derived.Test.YtijoaklknpkdoaaGreatG10
import Derived.Test.YtijoaklknpkdoaaGreatG2
namespace Go.Proofs.YtijoaklknpkdoaaGreat
open Go.RowKit Fl Lm

theorem rof_c (t : Tr) (w : World) : Ret Tryz.prog 18 #[.agg #[.float .f64 t.t0, .float .f64 t.t1, .float .f64 t.t2, .float .f64 t.t3, .float .f64 t.t4, .float .f64 t.t5, .float .f64 t.t6, .float .f64 t.t7, .float .f64 t.t8]] w (fun v => v = .agg #[.float .f64 (Tr.box t).a0, .float .f64 (Tr.box t).a1, .float .f64 (Tr.box t).a2, .float .f64 (Tr.box t).a3, .float .f64 (Tr.box t).a4, .float .f64 (Tr.box t).a5]) := rof_any _ _ _ _ _ _ _ _ _ w

set_option maxRecDepth 100000 in
set_option maxHeartbeats 1000000 in
theorem rmid_any {t : Tr} (ht : t.Mo) (w : World) : Ret Tryz.prog 29 #[txv t] w (fun v => v = pxv (Tr.box t).mid) := by
  unfold Ret txv pxv
  have hb := Tr.Mo.box ht
  have HOF := hid (rof_c t)
  generalize hB : Tr.box t = b at *
  clear hB
  go_enter Tryz.func29, Tryz.ntmps29
  go_wp2_with fail
  refine Calls.mono (HOF.out _) ?_
  rintro e w1 ⟨v, rfl, rfl, hm⟩
  have BR := ((Lp.Bk.al1 w (.cells #[.float .f64 t.t0, .float .f64 t.t1, .float .f64 t.t2, .float .f64 t.t3, .float .f64 t.t4, .float .f64 t.t5, .float .f64 t.t6, .float .f64 t.t7, .float .f64 t.t8] 33) #[.float .f64 0, .float .f64 0, .float .f64 0] 31)).keep hm
  have HB : Cl w w1 := (((Below.refl w.heap.size w).alloc (Nat.le_refl _) (.cells #[.float .f64 t.t0, .float .f64 t.t1, .float .f64 t.t2, .float .f64 t.t3, .float .f64 t.t4, .float .f64 t.t5, .float .f64 t.t6, .float .f64 t.t7, .float .f64 t.t8] 33)).alloc (by simp) (.cells #[.float .f64 0, .float .f64 0, .float .f64 0] 31)).trans (Below.mono hm (by simp; omega))
  clear hm HOF
  go_wp2_with fail
  refine Calls.mono (radd_c (A := ⟨b.a0, b.a1, b.a2⟩) (B := ⟨b.a3, b.a4, b.a5⟩) _ (S3.refl _ _ _) (S3.refl _ _ _)) ?_
  rintro e w2 ⟨v, rfl, ⟨x, y, z, rfl, hs, _⟩, hm⟩
  replace BR := (BR.alo _).keep hm
  replace HB := (HB.alloc _).call hm
  clear hm
  go_wp2_with fail
  refine Calls.mono (rscale_c (A := V3.add ⟨b.a0, b.a1, b.a2⟩ ⟨b.a3, b.a4, b.a5⟩) _ hs (Sm.refl 4602678819172646912)) ?_
  rintro e w3 ⟨v, rfl, ⟨x2, y2, z2, rfl, ⟨h0, h1, h2⟩, _⟩, hm⟩
  have q0 := h0.symm.eq (mid_mo hb.h0 hb.h3).nan
  have q1 := h1.symm.eq (mid_mo hb.h1 hb.h4).nan
  have q2 := h2.symm.eq (mid_mo hb.h2 hb.h5).nan
  subst q0 q1 q2
  replace BR := BR.keep hm
  replace HB := HB.call hm
  clear hm hs h0 h1 h2
  have kR := BR.cell
  have zR := BR.frz
  go_wp2_with fail
  refine bodyPost_ret (v := .agg #[.float .f64 (fmul (fadd b.a0 b.a3) half), .float .f64 (fmul (fadd b.a1 b.a4) half), .float .f64 (fmul (fadd b.a2 b.a5) half)]) ?_ rfl ⟨_, rfl, rfl, ?_⟩
  · simp [results, go_sem, kR]
    exact ⟨rfl, rfl, rfl⟩
  (repeat (refine Below.setCell ?_ (by show w.heap.size ≤ w.heap.size + 1; omega) _)); exact HB

theorem best3 (x y z : Nat) : bestF x y z 3 = if gtB z (partF x y z (if gtB y x then 1 else 0 : Nat)) then 2 else if gtB y x then 1 else 0 := by
  have h1 : bestF x y z 1 = 0 := by show (if _ then 0 else 0) = 0; split <;> rfl
  have h2 : bestF x y z 2 = if gtB y x then 1 else 0 := by
    show (if gtB (partF x y z (1 : Nat)) (partF x y z (bestF x y z 1)) then 1 else bestF x y z 1) = _
    rw [h1]
    rfl
  show (if gtB (partF x y z (2 : Nat)) (partF x y z (bestF x y z 2)) then 2 else bestF x y z 2) = _
  rw [h2]
  rfl

set_option maxRecDepth 100000 in
set_option maxHeartbeats 1000000 in
theorem rlongest_any (b : Bx) (w : World) : Ret Tryz.prog 31 #[bxv b] w (fun v => v = .int .i64 (b.axis : Nat)) := by
  unfold Ret bxv
  have HAX := aside (show b.axis = bestF (fsub b.a3 b.a0) (fsub b.a4 b.a1) (fsub b.a5 b.a2) 3 from rfl)
  generalize b.axis = ax at *
  go_enter Tryz.func31, Tryz.ntmps31
  go_wp2_with fail
  refine Calls.mono (rsub_c (A := ⟨b.a3, b.a4, b.a5⟩) (B := ⟨b.a0, b.a1, b.a2⟩) _ (S3.refl _ _ _) (S3.refl _ _ _)) ?_
  rintro e w1 ⟨v, rfl, ⟨x, y, z, rfl, hs, _⟩, hm⟩
  have HB : Cl w w1 := ((Below.refl _ _).alloc (Nat.le_refl _) _).trans (hm.mono (by simp))
  clear hm
  have hax : ax = bestF x y z 3 := by rw [HAX.out]; exact (best_congr hs.x hs.y hs.z 3).symm
  rw [best3] at hax
  clear hs HAX
  have BN := Lp.Bk.al w1 #[.float .f64 x, .float .f64 y, .float .f64 z] 31
  have HB2 := hid (HB.alloc (.cells #[.float .f64 x, .float .f64 y, .float .f64 z] 31))
  have HBN := hid BN
  clear HB BN
  have hp1 : (FloatKind.f64.format.order y x == some .gt) = gtB y x := rfl
  generalize gtB y x = p at hp1 hax
  have HR0 := hid (fun w' => rpart_any x y z (0 : Int) w')
  have HR1 := hid (fun w' => rpart_any x y z (1 : Int) w')
  have kN := HBN.out.cell
  cases p
  · skip
    have HPP := hid (fun (y' : Nat) => (rfl : (FloatKind.f64.format.order z y' == some .gt) = gtB z y'))
    have hq0 : partF x y z (0 : Int) = partF x y z ((0 : Nat) : Int) := rfl
    simp only [Bool.false_eq_true, if_false] at hax
    rw [← hq0] at hax
    generalize partF x y z (0 : Int) = q at *
    have hp2 : (FloatKind.f64.format.order z q == some .gt) = gtB z q := rfl
    generalize gtB z q = r at hp2 hax
    cases r
    · simp only [Bool.false_eq_true, if_false] at hax
      subst hax
      go_wp2_with fail
      apply Lw.region _ _ 6 (by kernel_rfl) (by kernel_rfl) (by kernel_rfl) (Below.refl _ _)
      apply Lw.facts
      · intro w3 hw
        exact (HBN.out.cl hw).cell
      intro HF
      iterate 4 (
        apply Lw.one ?_ rfl
        · intro w3 hw
          have k0 := HF.out _ hw
          go_simp
          exact rfl
        intro K hK
        go_simp
        refine hK.out _ ?_
        clear hK K)
      apply Lw.any rfl
      · intro w3 hw
        go_simp
        exact Lw.ret (HR0.out _)
      intro K hK
      rintro v rfl
      go_simp
      refine hK.out _ ?_
      clear hK K
      apply Lw.one ?_ rfl
      · intro w3 hw
        go_simp
        exact rfl
      intro K hK
      go_simp
      refine hK.out _ ?_
      clear hK K
      rotate_left
      exact []
      refine Lw.fin ?_
      intro v3 hm
      go_wp2_with fail
      exact bodyPost_ret (v := .int .i64 0) (by simp [results, go_sem]) rfl ⟨_, rfl, rfl, HB2.out.call hm⟩
    · simp only [if_true] at hax
      subst hax
      go_wp2_with fail
      apply Lw.region _ _ 6 (by kernel_rfl) (by kernel_rfl) (by kernel_rfl) (Below.refl _ _)
      apply Lw.facts
      · intro w3 hw
        exact (HBN.out.cl hw).cell
      intro HF
      iterate 4 (
        apply Lw.one ?_ rfl
        · intro w3 hw
          have k0 := HF.out _ hw
          go_simp
          exact rfl
        intro K hK
        go_simp
        refine hK.out _ ?_
        clear hK K)
      apply Lw.any rfl
      · intro w3 hw
        go_simp
        exact Lw.ret (HR0.out _)
      intro K hK
      rintro v rfl
      go_simp
      refine hK.out _ ?_
      clear hK K
      apply Lw.one ?_ rfl
      · intro w3 hw
        go_simp
        exact rfl
      intro K hK
      go_simp
      refine hK.out _ ?_
      clear hK K
      rotate_left
      exact []
      refine Lw.fin ?_
      intro v3 hm
      go_wp2_with fail
      exact bodyPost_ret (v := .int .i64 2) (by simp [results, go_sem]) rfl ⟨_, rfl, rfl, HB2.out.call hm⟩
  · skip
    have HPP := hid (fun (y' : Nat) => (rfl : (FloatKind.f64.format.order z y' == some .gt) = gtB z y'))
    have hq0 : partF x y z (1 : Int) = partF x y z ((1 : Nat) : Int) := rfl
    simp only [if_true] at hax
    rw [← hq0] at hax
    generalize partF x y z (1 : Int) = q at *
    have hp2 : (FloatKind.f64.format.order z q == some .gt) = gtB z q := rfl
    generalize gtB z q = r at hp2 hax
    cases r
    · simp only [Bool.false_eq_true, if_false] at hax
      subst hax
      go_wp2_with fail
      apply Lw.region _ _ 6 (by kernel_rfl) (by kernel_rfl) (by kernel_rfl) (Below.refl _ _)
      apply Lw.facts
      · intro w3 hw
        exact (HBN.out.cl hw).cell
      intro HF
      iterate 4 (
        apply Lw.one ?_ rfl
        · intro w3 hw
          have k0 := HF.out _ hw
          go_simp
          exact rfl
        intro K hK
        go_simp
        refine hK.out _ ?_
        clear hK K)
      apply Lw.any rfl
      · intro w3 hw
        go_simp
        exact Lw.ret (HR1.out _)
      intro K hK
      rintro v rfl
      go_simp
      refine hK.out _ ?_
      clear hK K
      apply Lw.one ?_ rfl
      · intro w3 hw
        go_simp
        exact rfl
      intro K hK
      go_simp
      refine hK.out _ ?_
      clear hK K
      rotate_left
      exact []
      refine Lw.fin ?_
      intro v3 hm
      go_wp2_with fail
      exact bodyPost_ret (v := .int .i64 1) (by simp [results, go_sem]) rfl ⟨_, rfl, rfl, HB2.out.call hm⟩
    · simp only [if_true] at hax
      subst hax
      go_wp2_with fail
      apply Lw.region _ _ 6 (by kernel_rfl) (by kernel_rfl) (by kernel_rfl) (Below.refl _ _)
      apply Lw.facts
      · intro w3 hw
        exact (HBN.out.cl hw).cell
      intro HF
      iterate 4 (
        apply Lw.one ?_ rfl
        · intro w3 hw
          have k0 := HF.out _ hw
          go_simp
          exact rfl
        intro K hK
        go_simp
        refine hK.out _ ?_
        clear hK K)
      apply Lw.any rfl
      · intro w3 hw
        go_simp
        exact Lw.ret (HR1.out _)
      intro K hK
      rintro v rfl
      go_simp
      refine hK.out _ ?_
      clear hK K
      apply Lw.one ?_ rfl
      · intro w3 hw
        go_simp
        exact rfl
      intro K hK
      go_simp
      refine hK.out _ ?_
      clear hK K
      rotate_left
      exact []
      refine Lw.fin ?_
      intro v3 hm
      go_wp2_with fail
      exact bodyPost_ret (v := .int .i64 2) (by simp [results, go_sem]) rfl ⟨_, rfl, rfl, HB2.out.call hm⟩

end Go.Proofs.YtijoaklknpkdoaaGreat

namespace Go.Proofs.YtijoaklknpkdoaaGreat
open Go.RowKit Fl Lm

theorem same_eq {x y : Nat} (h : ford x y = some .eq) : sameB x y = true := by
  unfold sameB
  rw [h]
  rfl
theorem ris_eq {ax ay az bx bY bz : Nat} (hx : ford ax bx = some .eq) (hy : ford ay bY = some .eq) (hz : ford az bz = some .eq) (w : World) : Ret Tryz.prog 30 #[.agg #[.float .f64 ax, .float .f64 ay, .float .f64 az], .agg #[.float .f64 bx, .float .f64 bY, .float .f64 bz]] w (fun v => v = .bool true) :=
  (ris_any ax ay az bx bY bz w).mono fun v h => by rw [h, same_eq hx, same_eq hy, same_eq hz]; rfl

set_option maxRecDepth 100000 in
set_option maxHeartbeats 1000000 in
theorem is4_eq {a b : Bx} (h : a.Eq b) (w : World) : Ret Tryz.prog 12 #[bxv a, bxv b] w (fun v => v = .bool true) := by
  unfold Ret bxv
  go_enter Tryz.func12, Tryz.ntmps12
  go_wp2_with fail
  refine Lp.settleC (fun w' => Lp.Bk w' (w.heap.size) #[.float .f64 a.a0, .float .f64 a.a1, .float .f64 a.a2, .float .f64 a.a3, .float .f64 a.a4, .float .f64 a.a5] 42 ∧ Lp.Bk w' (w.heap.size + 1) #[.float .f64 b.a0, .float .f64 b.a1, .float .f64 b.a2, .float .f64 b.a3, .float .f64 b.a4, .float .f64 b.a5] 42 ∧ Cl w w') ⟨((Lp.Bk.al _ _ _).alo _), (Lp.Bk.al1 _ _ _ _), ((Below.refl _ _).alloc (by simp <;> omega) _).alloc (by simp <;> omega) _⟩ ?_
  rintro v1 ⟨BA, BB, HB⟩
  have kA := BA.cell
  have kB := BB.cell
  refine Calls.mono (ris_eq h.h0 h.h1 h.h2 _) ?_
  rintro e v2 ⟨v, rfl, rfl, hm⟩
  clear kA kB
  replace BA := BA.keep hm
  replace BB := BB.keep hm
  replace HB := HB.call hm
  clear hm
  have kA := BA.cell
  have kB := BB.cell
  go_wp2_with fail
  refine Calls.mono (ris_eq h.h3 h.h4 h.h5 _) ?_
  rintro e v3 ⟨v, rfl, rfl, hm⟩
  clear kA kB
  replace BA := BA.keep hm
  replace BB := BB.keep hm
  replace HB := HB.call hm
  clear hm
  have kA := BA.cell
  have kB := BB.cell
  go_wp2_with fail
  go_ret
  exact ⟨_, rfl, rfl, HB⟩


theorem f_self {x : Nat} (h : isN x = false) : (FloatKind.f64.format.order x x == some .eq) = true := by
  have := ford_refl h
  unfold ford at this
  show (F64.order x x == some .eq) = true
  rw [this]
  rfl

set_option maxRecDepth 100000 in
set_option maxHeartbeats 1000000 in
theorem eq_vec (d x y z : Nat) (fx : (FloatKind.f64.format.order x x == some .eq) = true) (fy : (FloatKind.f64.format.order y y == some .eq) = true) (fz : (FloatKind.f64.format.order z z == some .eq) = true) (w : World) :
    (Op.equalIn (d + 1 + 1) 31 (.agg #[.float .f64 x, .float .f64 y, .float .f64 z]) (.agg #[.float .f64 x, .float .f64 y, .float .f64 z])).run Tryz.prog w = .ok true w := by
  have hS2 : Tryz.prog.underlying 31 = some (.struct (Tryz.prog.fieldsOf 31)) := by kernel_rfl
  have hp2 : Tryz.prog.stoodInHeld 31 = false := by kernel_rfl
  have gx : Op.floatEq FloatKind.f64 x x = true := fx
  have gy : Op.floatEq FloatKind.f64 y y = true := fy
  have gz : Op.floatEq FloatKind.f64 z z = true := fz
  rw [run_equalIn_agg w (d + 1) 31 _ _ hS2 hp2]
  simp only [Program.fieldsOf, Tryz.underlying31]
  go_simp

set_option maxRecDepth 100000 in
set_option maxHeartbeats 1000000 in
theorem eq_box (d : Nat) (b : Bx) (h : b.Ok) (w : World) :
    (Op.equalIn (d + 1 + 1 + 1) 42 (bxv b) (bxv b)).run Tryz.prog w = .ok true w := by
  have hS2 : Tryz.prog.underlying 42 = some (.struct (Tryz.prog.fieldsOf 42)) := by kernel_rfl
  have hp2 : Tryz.prog.stoodInHeld 42 = false := by kernel_rfl
  have v0 := fun w => eq_vec d b.a0 b.a1 b.a2 (f_self h.h0) (f_self h.h1) (f_self h.h2) w
  have v1 := fun w => eq_vec d b.a3 b.a4 b.a5 (f_self h.h3) (f_self h.h4) (f_self h.h5) w
  unfold bxv
  rw [run_equalIn_agg w (d + 1 + 1) 42 _ _ hS2 hp2]
  simp only [Program.fieldsOf, Tryz.underlying42]
  go_simp

set_option maxRecDepth 100000 in
set_option maxHeartbeats 1000000 in
theorem eql_node (x : Nd) (h : x.box.Ok) (w : World) : (binOp .eql 44 (dxv x) (dxv x)).run Tryz.prog w = .ok (.bool true) w := by
  have hS : Tryz.prog.underlying 44 = some (.struct (Tryz.prog.fieldsOf 44)) := by kernel_rfl
  have hp : Tryz.prog.stoodInHeld 44 = false := by kernel_rfl
  obtain ⟨d, hd⟩ : ∃ d : Nat, 10000 = d + 1 + 1 + 1 + 1 := ⟨9996, rfl⟩
  have v0 := fun w => eq_box d x.box h w
  unfold dxv
  unfold bxv at v0
  rw [run_eql_struct, hd, run_equalIn_agg w (d + 1 + 1 + 1) 44 _ _ hS hp]
  clear hd
  simp only [Program.fieldsOf, Tryz.underlying44]
  go_simp

end Go.Proofs.YtijoaklknpkdoaaGreat

namespace Go.Proofs.YtijoaklknpkdoaaGreat
open Go.ChangeShapes Go.WideShapes Go.ChangeAt Go.RowKit Fl Lm Go.Joins Go.Deep

theorem trod_tri {H : Type} {enc : TypeId × Value → H} {W : World} {base : Nat} {spare : Nat → Bool} {held : Bool} {fuel : Nat} {cs : List Value} {x : DataW H × List MemPlace} (hsz : cs.length = 9) (h : DataW.trod enc Tryz.prog W base spare held fuel 33 cs = some x) : ∃ t : Tr, cs = tcs t := by
  match cs, hsz with
  | [c0, c1, c2, c3, c4, c5, c6, c7, c8], _ =>
    obtain ⟨y0, y1, y2, m, hx, _, h0, h1, h2⟩ := trod_struct3 Tryz.underlying33 h
    simp only [Tryz.cells31, List.drop_zero, List.drop_succ_cons, List.take_succ_cons, List.take_zero] at h0 h1 h2
    obtain ⟨x0, x1, x2, rfl, rfl, rfl, rfl, w0⟩ := trod_vec h0
    obtain ⟨x3, x4, x5, rfl, rfl, rfl, rfl, w1⟩ := trod_vec h1
    obtain ⟨x6, x7, x8, rfl, rfl, rfl, rfl, w2⟩ := trod_vec h2
    exact ⟨⟨x0, x1, x2, x3, x4, x5, x6, x7, x8⟩, rfl⟩

theorem came_tris {H : Type} {enc : TypeId × Value → H} {W : World} {v : Value} {d : DataW H} {p : List MemPlace}
    (hv : ∃ a l c, v = .slice a l c) (h : DataW.Trod enc Tryz.prog W 0 (fun _ => true) true 22 v d p) :
    ∃ (n : Nat) (T : Nat → Tr) (ao : Option Addr) (cz : Nat), v = .slice ao n cz ∧ n ≤ cz ∧ Sl W ao n 9 (fun i => tcs (T i)) ∧ ∀ i, n ≤ i → T i = ⟨0, 0, 0, 0, 0, 0, 0, 0, 0⟩ := by
  obtain ⟨a, l, c, rfl⟩ := hv
  obtain ⟨fuel, hf⟩ := h
  rcases open_slice under_tris hf with ⟨hcs, _⟩ | ⟨ad, len, cap, m, n, D, Pl, hcs, _, hl, hm, hmm, _, hx⟩
  · simp [Value.cells] at hcs
    obtain ⟨rfl, rfl, rfl⟩ := hcs
    exact ⟨0, fun _ => ⟨0, 0, 0, 0, 0, 0, 0, 0, 0⟩, none, 0, rfl, Nat.le_refl _, .inl rfl, fun _ _ => rfl⟩
  · simp [Value.cells] at hcs
    obtain ⟨rfl, rfl, rfl⟩ := hcs
    simp at hmm
    rw [Tryz.cells33] at hx
    by_cases h0 : l = 0
    · subst h0
      exact ⟨0, fun _ => ⟨0, 0, 0, 0, 0, 0, 0, 0, 0⟩, _, _, rfl, hl, .inl rfl, fun _ _ => rfl⟩
    · obtain ⟨b, off, spot⟩ := ad
      have each : ∀ i, i < l → ∃ t : Tr, ∀ j, j < 9 → W.cell? (((⟨b, off, spot⟩ : Addr).add (i * 9)).add j) = (tcs t)[j]? := by
        intro i hi
        obtain ⟨cs, k1, k2⟩ := hx i (by omega)
        obtain ⟨_, hlen, hcell⟩ := World.cells?_some k1
        obtain ⟨t, rfl⟩ := trod_tri hlen k2
        exact ⟨t, fun j hj => hcell j hj⟩
      obtain ⟨t0, ht0⟩ := each 0 (by omega)
      have hc0 := (ht0 0 (by decide)).trans (show (tcs t0)[0]? = some (.float .f64 t0.t0) from rfl)
      have hspot : spot = none := by simpa [Addr.add] using World.cell?_spot hc0
      subst hspot
      have hb : b < W.heap.size := by
        have := World.block_lt_of_cell? W _ hc0
        rw [addr_off, addr_off] at this
        exact this
      have : Inhabited Tr := ⟨⟨0, 0, 0, 0, 0, 0, 0, 0, 0⟩⟩
      obtain ⟨F, hF⟩ := choose_lt each
      refine ⟨l, fun i => if i < l then F i else ⟨0, 0, 0, 0, 0, 0, 0, 0, 0⟩, some ⟨b, off, none⟩, c, rfl, hl, .inr ⟨b, off, rfl, hb, fun i hi j hj => ?_⟩, fun i hi => if_neg (by omega)⟩
      have := hF i hi j hj
      rw [addr_off, addr_off, Nat.add_assoc] at this
      rw [this]
      show _ = (tcs (if i < l then F i else _))[j]?
      rw [if_pos hi]
end Go.Proofs.YtijoaklknpkdoaaGreat

namespace Go.Proofs.YtijoaklknpkdoaaGreat.Fl
open Go.Proofs.YtijoaklknpkdoaaGreat

theorem putK_at {X : Nat → Nat} {x : Nat} : ∀ (O : List Nat) (k : Nat), (∀ i, i < k → ltK X x (O.getD i 0) = false) → k ≤ O.length → (k = O.length ∨ ltK X x (O.getD k 0) = true) → putK X x O = O.take k ++ x :: O.drop k
  | [], k, h, hk, _ => by
    obtain rfl : k = 0 := by simpa using hk
    rfl
  | y :: O, 0, h, hk, hs => by
    unfold putK
    rcases hs with e | e
    · simp at e
    · rw [if_pos (by simpa using e)]
      rfl
  | y :: O, k + 1, h, hk, hs => by
    unfold putK
    have h0 := h 0 (Nat.succ_pos _)
    rw [if_neg (by simpa using h0), putK_at O k (fun i hi => by have := h (i + 1) (by omega); simpa using this) (by simpa using hk) (hs.imp (fun e => by simpa using e) (fun e => by simpa using e))]
    rfl
theorem putK_len (X : Nat → Nat) (x : Nat) (l : List Nat) : (putK X x l).length = l.length + 1 := (putK_perm X x l).length_eq
theorem med_len (X : Nat → Nat) (l : List Nat) : (medF X l).length = l.length := (med_perm X l).length_eq
theorem bestR_pos (c : Nat → Nat) : ∀ k, 0 < k → (bestR c k).1 ≠ 0 ∧ (bestR c k).1 ≤ k
  | 0, h => absurd h (Nat.lt_irrefl _)
  | k + 1, _ => by
    unfold bestR
    split
    · exact ⟨Nat.succ_ne_zero _, Nat.le_refl _⟩
    · rename_i h
      rcases Nat.eq_zero_or_pos k with e | e
      · subst e
        exact absurd rfl h
      · have := bestR_pos c k e
        exact ⟨this.1, Nat.le_succ_of_le this.2⟩
theorem stk_two (P : List Pd) (x y : Pd) : stk (P ++ [x, y]) = y.l :: x.l :: stk P := by simp [stk]

section
variable (S : Parts)
/-- Which nodes the lists of a stack ought to be. -/
def Jbs : Nat → List Pd → Prop
  | _, [] => True
  | k, p :: st => p.a = k ∧ Jbs (k + szL S p.l) st
structure JbP (n : Nat) (D : List Nd) (FO : List Nat) (k : Nat) (O : List Nat) (P : List Pd) : Prop where
  le : k ≤ D.length
  fin : D.drop k = ndS S k O.length (stk P)
  ofin : FO = O ++ orS S (stk P)
  ix : Jbs S k P.reverse
  li : ∀ p, p ∈ P → ∀ i, i ∈ p.l → i < n
end
section
variable {S : Parts} {n : Nat} {D : List Nd} {FO : List Nat} {k : Nat} {O : List Nat} {P : List Pd} {q : Pd}
theorem JbP.start (S : Parts) (n : Nat) (ao : Option Addr) (c : Nat) : JbP S n (ndL S 0 0 (List.range n)) (orL S (List.range n)) 0 [] [⟨ao, c, List.range n, 0⟩] := by
  refine ⟨Nat.zero_le _, by simp [stk, ndS], by simp [stk, orS], ⟨rfl, trivial⟩, fun p hp i hi => ?_⟩
  rcases List.mem_singleton.1 hp with rfl
  exact List.mem_range.1 hi
theorem JbP.wait (h : JbP S n D FO k O P) : P.length ≤ D.length - k := by
  have : ∀ (s : List (List Nat)) (k p : Nat), s.length ≤ (ndS S k p s).length := by
    intro s
    induction s with
    | nil => intro k p; simp
    | cons a s ih =>
      intro k p
      rw [ndS, List.length_append, nd_len, List.length_cons]
      have := ih (k + szL S a) (p + a.length)
      have := sz_pos S a
      omega
  have h1 := this (stk P) k O.length
  rw [← h.fin, List.length_drop] at h1
  have h2 : (stk P).length = P.length := by simp [stk]
  omega
theorem drop_one {α : Type} {L M : List α} {k : Nat} {x : α} (h : L.drop k = x :: M) : L[k]? = some x ∧ L.drop (k + 1) = M := by
  refine ⟨?_, ?_⟩
  · have := congrArg (fun l : List α => l[0]?) h
    simpa using this
  · have := congrArg List.tail h
    simpa using this
theorem JbP.leaf (h : JbP S n D FO k O (P ++ [q])) (h4 : q.l.length ≤ 4) : q.a = k ∧ D[k]? = some (leafOf S O.length q.l) ∧ JbP S n D FO (k + 1) (O ++ riseF q.l) P := by
  have hf := h.fin
  rw [stk_snoc, ndS_leaf S _ _ h4] at hf
  obtain ⟨h1, h2⟩ := drop_one hf
  have hx := h.ix
  rw [List.reverse_append] at hx
  obtain ⟨h3, h5⟩ := hx
  rw [sz_leaf S h4] at h5
  refine ⟨h3, h1, (List.getElem?_eq_some_iff.1 h1).1, ?_, ?_, h5, fun p hp => h.li p (List.mem_append_left _ hp)⟩
  · rw [h2, List.length_append, rise_len]
  · rw [h.ofin, stk_snoc, orS_leaf S h4, List.append_assoc]
theorem JbP.node (h : JbP S n D FO k O (P ++ [q])) (h4 : 4 < q.l.length) (a1 a2 : Option Addr) (c1 c2 : Nat) : q.a = k ∧ D[k]? = some ⟨S.box q.l, k + 1, k + 1 + szL S (S.part q.l).1, 0, 0⟩ ∧
    JbP S n D FO (k + 1) O (P ++ [⟨a2, c2, (S.part q.l).2, k + 1 + szL S (S.part q.l).1⟩, ⟨a1, c1, (S.part q.l).1, k + 1⟩]) := by
  have hf := h.fin
  have hp := S.perm q.l h4
  rw [stk_snoc, ndS_node S _ _ h4] at hf
  obtain ⟨h1, h2⟩ := drop_one hf
  have hx := h.ix
  rw [List.reverse_append] at hx
  obtain ⟨h3, h5⟩ := hx
  rw [sz_node S h4] at h5
  have hq := h.li q (List.mem_append_right _ (List.mem_singleton.2 rfl))
  refine ⟨h3, h1, (List.getElem?_eq_some_iff.1 h1).1, ?_, ?_, ?_, fun p hp' i hi => ?_⟩
  · rw [h2, stk_two]
  · rw [h.ofin, stk_snoc, orS_node S h4, stk_two]
  · rw [List.reverse_append]
    refine ⟨rfl, rfl, ?_⟩
    show Jbs S (k + 1 + szL S (S.part q.l).1 + szL S (S.part q.l).2) P.reverse
    rw [show k + 1 + szL S (S.part q.l).1 + szL S (S.part q.l).2 = k + (szL S (S.part q.l).1 + szL S (S.part q.l).2 + 1) by omega]
    exact h5
  · rcases List.mem_append.1 hp' with e | e
    · exact h.li p (List.mem_append_left _ e) i hi
    · simp only [List.mem_cons, List.not_mem_nil, or_false] at e
      rcases e with rfl | rfl
      · exact hq i (hp.mem_iff.1 (List.mem_append_right _ hi))
      · exact hq i (hp.mem_iff.1 (List.mem_append_left _ hi))
theorem JbP.len (h : JbP S n D FO k O (P ++ [q])) : O.length + q.l.length ≤ FO.length := by
  have h2 := h.ofin
  rw [stk_snoc] at h2
  unfold orS at h2
  rw [List.flatMap_cons] at h2
  have := congrArg List.length h2
  rw [List.length_append, List.length_append, (or_perm S q.l).length_eq] at this
  omega
theorem JbP.done (h : JbP S n D FO k O []) : k = D.length ∧ FO = O := by
  have h1 := h.fin
  have h2 := h.ofin
  refine ⟨?_, by rw [h2]; simp [stk, orS]⟩
  have h3 : D.drop k = [] := h1
  have := congrArg List.length h3
  rw [List.length_drop, List.length_nil] at this
  have := h.le
  omega
end
end Go.Proofs.YtijoaklknpkdoaaGreat.Fl
namespace Go.Proofs.YtijoaklknpkdoaaGreat
open Go.RowKit Fl Lm
section
variable {N : Nat} {w w' : World} {ty : TypeId} {k n : Nat} {v v' : Value} {e e' : Nat → List Value}
/-- Behind append of two. -/
theorem Own.push2 {x y : List Value} (h : Own N w ty k v n e) (h1 : w'.ownsRow 0 ty k v' (n + 2) (flat n e ++ (x ++ y))) (hb : v'.ownBlock = v.ownBlock ∨ ∀ g, v'.ownBlock = some g → w.heap.size ≤ g) (hN : N ≤ w.heap.size) (he : ∀ i, i < n → e i = e' i) (hx : e' n = x) (hy : e' (n + 1) = y) : Own N w' ty k v' (n + 2) e' := by
  refine ⟨?_, fun g hg => ?_⟩
  · rw [flat_succ, flat_succ, ← flat_congr he, hx, hy, List.append_assoc]
    exact h1
  · rcases hb with hb | hb
    · exact h.lo g (hb ▸ hg)
    · exact Nat.le_trans hN (hb g hg)
end
theorem pds_two1 (P : List Pd) (x y : Pd) {i : Nat} (h : i < P.length) : pds P i = pds (P ++ [x, y]) i := by
  unfold pds
  rw [List.getD_eq_getElem?_getD, List.getD_eq_getElem?_getD, List.getElem?_append_left h]
theorem pds_two2 (P : List Pd) (x y : Pd) : pds (P ++ [x, y]) P.length = pcl x := by
  unfold pds
  rw [List.getD_eq_getElem?_getD, List.getElem?_append_right (Nat.le_refl _), Nat.sub_self]
  rfl
theorem pds_two3 (P : List Pd) (x y : Pd) : pds (P ++ [x, y]) (P.length + 1) = pcl y := by
  unfold pds
  rw [List.getD_eq_getElem?_getD, List.getElem?_append_right (Nat.le_add_right _ _), Nat.add_sub_cancel_left]
  rfl
end Go.Proofs.YtijoaklknpkdoaaGreat

namespace Go.Proofs.YtijoaklknpkdoaaGreat.Ls
open Go.RowKit Fl Lp Lw

/-- All but block b is as it was; that is as it was, or new. -/
structure Sto (b : Nat) (new : Obj) (w w' : World) : Prop where
  os : w'.os = w.os
  tape : w'.tape = w.tape
  output : w'.output = w.output
  size : w.heap.size ≤ w'.heap.size
  block : ∀ k, k < w.heap.size → k ≠ b → w'.heap[k]? = w.heap[k]?
  at_ : ∀ o, w.heap[b]? = some o → w'.heap[b]? = some o ∨ w'.heap[b]? = some new
section
variable {b : Nat} {new : Obj} {w w' w'' : World}
theorem Sto.of (h : Below w.heap.size w w') : Sto b new w w' :=
  ⟨h.os, h.tape, h.output, h.size, fun k hk _ => h.block k hk, fun _ ho => .inl ((h.block b (Array.getElem?_eq_some_iff.1 ho).1).trans ho)⟩
theorem Sto.trans (h : Sto b new w w') (k : Sto b new w' w'') : Sto b new w w'' :=
  ⟨k.os.trans h.os, k.tape.trans h.tape, k.output.trans h.output, Nat.le_trans h.size k.size, fun i hi hn => (k.block i (Nat.lt_of_lt_of_le hi h.size) hn).trans (h.block i hi hn), fun o ho => by
    rcases h.at_ o ho with e | e
    · exact k.at_ o e
    · exact .inr (by rcases k.at_ _ e with e | e <;> exact e)⟩
theorem along (W : World) : Along (Sto b new) (Sto b new W) := fun _ _ hr h => h.trans hr
theorem along_new : Along (Sto b new) fun w => w.heap[b]? = some new := fun _ _ hr h => by rcases hr.at_ _ h with e | e <;> exact e
theorem Sto.keep {i : Nat} {vs : Array Value} {t : TypeId} (h : Sto b new w w') (hb : Bk w i vs t) (hn : i ≠ b) : Bk w' i vs t := (h.block i hb.lt hn).trans hb
theorem Sto.cl {W : World} (h : Sto b new w w') (k : Cl W w) (hb : W.heap.size ≤ b) : Cl W w' :=
  ⟨h.os.trans k.os, h.tape.trans k.tape, h.output.trans k.output, Nat.le_trans k.size h.size, fun i hi => (h.block i (Nat.lt_of_lt_of_le hi k.size) (by omega)).trans (k.block i hi)⟩
theorem Sto.refl (w : World) : Sto b new w w := Sto.of (Below.refl _ _)
/-- Block b, before or behind the store. -/
theorem Sto.old {vs ns : Array Value} {t : TypeId} (h : Sto b (.cells ns t) w w') (hb : Bk w b vs t) : Bk w' b vs t ∨ Bk w' b ns t := h.at_ _ hb
theorem same_set {w0 w : World} {b k i : Nat} {u : Value} (hk : k ≠ b) (h : w.heap[k]? = w0.heap[k]?) : (w.setCell ⟨b, i, none⟩ u).heap[k]? = w0.heap[k]? := (Below.heap_setCell w ⟨b, i, none⟩ u k hk).trans h
theorem stored {ns : Array Value} {t : TypeId} (ho : w'.os = w.os) (ht : w'.tape = w.tape) (hp : w'.output = w.output) (hs : w'.heap.size = w.heap.size) (hk : ∀ k, k ≠ b → w'.heap[k]? = w.heap[k]?) (hn : Bk w' b ns t) : Sto b (.cells ns t) w w' :=
  ⟨ho, ht, hp, by rw [hs]; exact Nat.le_refl _, fun k _ h => hk k h, fun _ _ => .inr hn⟩
end
section
variable {P : Program} {ops : Array Oper} {md : Region.Mode} {Q : Exit → Act → World → Prop}
theorem region {id : Nat} {a : Act} {w : World} {l : List Oper} (b : Nat) (new : Obj) (kds : List Kd) (m : Nat) (hm : P.follows .mixedOrders = true) (hB : Region.lexB .any l.toArray = true)
    (hL : tailWaits .any l.toArray m = true) (h : wpLoose P (Sto b new) .any l.toArray (Sto b new w) Q kds m 0 l a (fun _ _ => True)) : (Code.region id l.toArray true).wp P Q a w :=
  wp_region_loose (Sto b new) (Sto b new w) kds m hm hB hL (along w) (Sto.of (Below.drew (Below.refl _ _))) h
theorem ret {b : Nat} {new : Obj} {f : FuncId} {args : Array Value} {V : Value → Prop} {w : World} (h : Ret P f args w V) : Upon P (Sto b new) w (fun v _ => V v) (.ok (.enter f args) w) :=
  Calls.mono h fun _ _ ⟨v, he, hV, hb⟩ => ⟨v, he, hV, Sto.of hb⟩
end
end Go.Proofs.YtijoaklknpkdoaaGreat.Ls

namespace Go.Proofs.YtijoaklknpkdoaaGreat
open Go.RowKit Fl Lm

structure Samb (b : Nat) (w w' : World) : Prop where
  os : w'.os = w.os
  tape : w'.tape = w.tape
  output : w'.output = w.output
  size : w'.heap.size = w.heap.size
  block : ∀ k, k ≠ b → w'.heap[k]? = w.heap[k]?
theorem Samb.set {b : Nat} {w w' : World} (h : Samb b w w') (i : Nat) (u : Value) : Samb b w (w'.setCell ⟨b, i, none⟩ u) :=
  ⟨(show (w'.setCell ⟨b, i, none⟩ u).os = w'.os from rfl).trans h.os, (show (w'.setCell ⟨b, i, none⟩ u).tape = w'.tape from rfl).trans h.tape, (show (w'.setCell ⟨b, i, none⟩ u).output = w'.output from rfl).trans h.output, (show (w'.setCell ⟨b, i, none⟩ u).heap.size = w'.heap.size by simp [World.setCell]).trans h.size, fun k hk => (Below.heap_setCell w' ⟨b, i, none⟩ u k hk).trans (h.block k hk)⟩
theorem sto6 {w : World} {b : Nat} {t : TypeId} {y0 y1 y2 y3 y4 y5 x0 x1 x2 x3 x4 x5 : Value} (h : Lp.Bk w b #[y0, y1, y2, y3, y4, y5] t) :
    ((((((w.setCell ⟨b, 0, none⟩ x0).setCell ⟨b, 1, none⟩ x1).setCell ⟨b, 2, none⟩ x2).setCell ⟨b, 3, none⟩ x3).setCell ⟨b, 4, none⟩ x4).setCell ⟨b, 5, none⟩ x5).heap[b]? = some (.cells #[x0, x1, x2, x3, x4, x5] t) ∧
    Ls.Sto b (.cells #[x0, x1, x2, x3, x4, x5] t) w ((((((w.setCell ⟨b, 0, none⟩ x0).setCell ⟨b, 1, none⟩ x1).setCell ⟨b, 2, none⟩ x2).setCell ⟨b, 3, none⟩ x3).setCell ⟨b, 4, none⟩ x4).setCell ⟨b, 5, none⟩ x5) := by
  have s : Samb b w w := ⟨rfl, rfl, rfl, rfl, fun _ _ => rfl⟩
  have s6 := (((((s.set 0 x0).set 1 x1).set 2 x2).set 3 x3).set 4 x4).set 5 x5
  exact ⟨h.set6, Ls.stored s6.os s6.tape s6.output s6.size s6.block h.set6⟩

set_option maxRecDepth 100000 in
set_option maxHeartbeats 1000000 in
theorem raround_any (T : Nat → Tr) (hT : ∀ i, (T i).Mo) (n cz cl : Nat) (az ao : Option Addr) (l : List Nat) (w : World) (hZ : Sl w az n 9 fun i => tcs (T i)) (hL : Sl w ao l.length 1 (lvs l)) (hl : ∀ i, i ∈ l → i < n) (hn : n ≤ 512) (h5 : l.length ≤ 512) :
    Ret Tryz.prog 11 #[.slice az n cz, .slice ao l.length cl] w (fun v => v = .tuple #[bxv (bxs T l), bxv (mds T l)]) := by
  unfold Ret
  have HZ := hid hZ
  have HL := hid hL
  have HM := aside hl
  have HMI := hid (fun (x : Nat) (w' : World) => rmid_any (t := T x) (hT x) w')
  unfold txv pxv at HMI
  clear hZ hL hl hT
  go_enter Tryz.func11, Tryz.ntmps11
  go_wp2_with fail
  refine Lp.settleC (fun w' => Lp.Bk w' (w.heap.size) #[.float .f64 0, .float .f64 0, .float .f64 0, .float .f64 0, .float .f64 0, .float .f64 0] 42 ∧ Lp.Bk w' (w.heap.size + 1) #[.float .f64 0, .float .f64 0, .float .f64 0, .float .f64 0, .float .f64 0, .float .f64 0] 42 ∧ Cl w w') ⟨(Lp.Bk.al _ _ _).alo _, Lp.Bk.al1 _ _ _ _, ((Below.refl _ _).alloc (by simp <;> omega) _).alloc (by simp <;> omega) _⟩ ?_
  rintro v1 ⟨BR0, BR1, HB⟩
  have kR0 := BR0.cell
  have kR1 := BR1.cell
  have nR00 : (w.heap.size = v1.heap.size) = False := eq_false (by have := BR0.lt; omega)
  have mR00 : w.heap.size < v1.heap.size := by have := BR0.lt; omega
  have nR01 : (w.heap.size = v1.heap.size + 1) = False := eq_false (by have := BR0.lt; omega)
  have mR01 : w.heap.size < v1.heap.size + 1 := by have := BR0.lt; omega
  have nR10 : (w.heap.size + 1 = v1.heap.size) = False := eq_false (by have := BR1.lt; omega)
  have mR10 : w.heap.size + 1 < v1.heap.size := by have := BR1.lt; omega
  have nR11 : (w.heap.size = v1.heap.size) = False := eq_false (by have := BR1.lt; omega)
  have mR11 : w.heap.size < v1.heap.size := by have := BR1.lt; omega
  refine Calls.mono (rempty_any _) ?_
  rintro e v2 ⟨v, rfl, rfl, hm⟩
  clear kR0 kR1 nR00 mR00 nR01 mR01 nR10 mR10 nR11 mR11
  replace BR0 := BR0.keep hm
  replace BR1 := BR1.keep hm
  replace HB := HB.call hm
  clear hm
  have kR0 := BR0.cell
  have kR1 := BR1.cell
  have nR00 : (w.heap.size = v2.heap.size) = False := eq_false (by have := BR0.lt; omega)
  have mR00 : w.heap.size < v2.heap.size := by have := BR0.lt; omega
  have nR01 : (w.heap.size = v2.heap.size + 1) = False := eq_false (by have := BR0.lt; omega)
  have mR01 : w.heap.size < v2.heap.size + 1 := by have := BR0.lt; omega
  have nR10 : (w.heap.size + 1 = v2.heap.size) = False := eq_false (by have := BR1.lt; omega)
  have mR10 : w.heap.size + 1 < v2.heap.size := by have := BR1.lt; omega
  have nR11 : (w.heap.size = v2.heap.size) = False := eq_false (by have := BR1.lt; omega)
  have mR11 : w.heap.size < v2.heap.size := by have := BR1.lt; omega
  go_wp2_with fail
  have HBV := aside BR1.lt
  refine Lp.settleC (fun w' => Lp.Bk w' (w.heap.size) #[.float .f64 0, .float .f64 0, .float .f64 0, .float .f64 0, .float .f64 0, .float .f64 0] 42 ∧ Lp.Bk w' (w.heap.size + 1) #[.float .f64 0, .float .f64 0, .float .f64 0, .float .f64 0, .float .f64 0, .float .f64 0] 42 ∧ Lp.Bk w' (v2.heap.size) #[.float .f64 Bx.none.a0, .float .f64 Bx.none.a1, .float .f64 Bx.none.a2, .float .f64 Bx.none.a3, .float .f64 Bx.none.a4, .float .f64 Bx.none.a5] 42 ∧ Cl w w') ⟨(BR0).alo _, (BR1).alo _, Lp.Bk.al _ _ _, (HB).alloc _⟩ ?_
  clear kR0 kR1 nR00 mR00 nR01 mR01 nR10 mR10 nR11 mR11
  clear BR0 BR1 HB
  rintro v3 ⟨BR0, BR1, BB, HB⟩
  have kR0 := BR0.cell
  have kR1 := BR1.cell
  have kB := BB.cell
  have nR00 : (w.heap.size = v3.heap.size) = False := eq_false (by have := BR0.lt; omega)
  have mR00 : w.heap.size < v3.heap.size := by have := BR0.lt; omega
  have nR01 : (w.heap.size = v3.heap.size + 1) = False := eq_false (by have := BR0.lt; omega)
  have mR01 : w.heap.size < v3.heap.size + 1 := by have := BR0.lt; omega
  have nR10 : (w.heap.size + 1 = v3.heap.size) = False := eq_false (by have := BR1.lt; omega)
  have mR10 : w.heap.size + 1 < v3.heap.size := by have := BR1.lt; omega
  have nR11 : (w.heap.size = v3.heap.size) = False := eq_false (by have := BR1.lt; omega)
  have mR11 : w.heap.size < v3.heap.size := by have := BR1.lt; omega
  have nB0 : (v2.heap.size = v3.heap.size) = False := eq_false (by have := BB.lt; omega)
  have mB0 : v2.heap.size < v3.heap.size := by have := BB.lt; omega
  have nB1 : (v2.heap.size = v3.heap.size + 1) = False := eq_false (by have := BB.lt; omega)
  have mB1 : v2.heap.size < v3.heap.size + 1 := by have := BB.lt; omega
  refine Calls.mono (rempty_any _) ?_
  rintro e v4 ⟨v, rfl, rfl, hm⟩
  clear kR0 kR1 kB nR00 mR00 nR01 mR01 nR10 mR10 nR11 mR11 nB0 mB0 nB1 mB1
  replace BR0 := BR0.keep hm
  replace BR1 := BR1.keep hm
  replace BB := BB.keep hm
  replace HB := HB.call hm
  clear hm
  have kR0 := BR0.cell
  have kR1 := BR1.cell
  have kB := BB.cell
  have nR00 : (w.heap.size = v4.heap.size) = False := eq_false (by have := BR0.lt; omega)
  have mR00 : w.heap.size < v4.heap.size := by have := BR0.lt; omega
  have nR01 : (w.heap.size = v4.heap.size + 1) = False := eq_false (by have := BR0.lt; omega)
  have mR01 : w.heap.size < v4.heap.size + 1 := by have := BR0.lt; omega
  have nR10 : (w.heap.size + 1 = v4.heap.size) = False := eq_false (by have := BR1.lt; omega)
  have mR10 : w.heap.size + 1 < v4.heap.size := by have := BR1.lt; omega
  have nR11 : (w.heap.size = v4.heap.size) = False := eq_false (by have := BR1.lt; omega)
  have mR11 : w.heap.size < v4.heap.size := by have := BR1.lt; omega
  have nB0 : (v2.heap.size = v4.heap.size) = False := eq_false (by have := BB.lt; omega)
  have mB0 : v2.heap.size < v4.heap.size := by have := BB.lt; omega
  have nB1 : (v2.heap.size = v4.heap.size + 1) = False := eq_false (by have := BB.lt; omega)
  have mB1 : v2.heap.size < v4.heap.size + 1 := by have := BB.lt; omega
  go_wp2_with fail
  clear kR0 kR1 kB nR00 mR00 nR01 mR01 nR10 mR10 nR11 mR11 nB0 mB0 nB1 mB1
  have hv2 : v2.heap.size < v4.heap.size := BB.lt
  have hv0 : w.heap.size + 1 < v2.heap.size := by have := HBV.out; omega
  have HVS := aside (And.intro hv0 hv2)
  clear hv0 hv2
  go_loopg [8] l.length (fun k i wr => ∃ (j : Nat) (b m : Bx), k + j = l.length ∧ i = .int .i64 (j : Int) ∧ b = bxs T (l.take j) ∧ m = mds T (l.take j) ∧ Lp.Bk wr (w.heap.size) #[.float .f64 0, .float .f64 0, .float .f64 0, .float .f64 0, .float .f64 0, .float .f64 0] 42 ∧ Lp.Bk wr (w.heap.size + 1) #[.float .f64 0, .float .f64 0, .float .f64 0, .float .f64 0, .float .f64 0, .float .f64 0] 42 ∧ Lp.Bk wr (v2.heap.size) #[.float .f64 b.a0, .float .f64 b.a1, .float .f64 b.a2, .float .f64 b.a3, .float .f64 b.a4, .float .f64 b.a5] 42 ∧ Lp.Bk wr (v4.heap.size) #[.float .f64 m.a0, .float .f64 m.a1, .float .f64 m.a2, .float .f64 m.a3, .float .f64 m.a4, .float .f64 m.a5] 42 ∧ Cl w wr)
  case atStart => exact ⟨0, Bx.none, Bx.none, Nat.add_zero _, rfl, rfl, rfl, BR0.alo _, BR1.alo _, BB.alo _, Lp.Bk.al _ _ _, HB.alloc _⟩
  case round =>
    clear BR0 BR1 BB HB
    obtain ⟨g0, hg0⟩ : ∃ g0, g0 = gk := ⟨_, rfl⟩
    subst hg0
    obtain ⟨wo, hwo⟩ : ∃ wo, wo = wr := ⟨_, rfl⟩
    subst hwo
    obtain ⟨j, b, m, hk, rfl, hb, hmm, BR0, BR1, BB, BM, HB⟩ := hrel
    have HK := aside hk
    have HV := aside (And.intro hb hmm)
    clear hk hb hmm
    have hv := HVS.out
    by_cases hj : j < l.length
    · have hd : ((j : Int) < (l.length : Int)) = True := eq_true (by omega)
      have HV2 := aside (show bxs T (l.take (j + 1)) = b.join (T (l.getD j 0)).box ∧ mds T (l.take (j + 1)) = m.join (T (l.getD j 0)).box.midpt from ⟨by rw [HV.out.1]; exact bxs_more T hj, by rw [HV.out.2]; exact mds_more T hj⟩)
      have hx := HM.out _ (getD_mem hj)
      obtain ⟨gl, ol, rfl, EL0⟩ := HL.out.get hj
      obtain ⟨gz, oz, rfl, EZ0⟩ := HZ.out.get hx
      have EL := hid (EL0.keep HB)
      have EZ := hid (EZ0.keep HB)
      have hgl := EL0.lt
      have hgz := EZ0.lt
      have hjl := aside hj
      have hj5 : j < 512 := by omega
      clear hj EL0 EZ0
      generalize hxx : l.getD j 0 = x at *
      have HXV := aside hxx
      have hxn : ((x : Int) < (n : Int)) = True := eq_true (by omega)
      have hx5 : x < 512 := by omega
      clear hxx
      have hmi := hid (HMI.out x)
      have HRO := hid (fun w' => rof_c (T x) w')
      have hcq := aside (show (T x).box.midpt = ptB (T x).box.mid.x (T x).box.mid.y (T x).box.mid.z from rfl)
      generalize (T x).box.midpt = mp at *
      generalize hcc : (T x).box.mid = c at *
      generalize hbb : (T x).box = q at *
      clear hcc hbb
      go_wp2_with fail
      apply Lw.region _ _ 10 (by kernel_rfl) (by kernel_rfl) (by kernel_rfl) (Below.refl _ _)
      apply Lw.facts
      · intro w1 hw
        exact And.intro (BB.cl hw).cell (And.intro ((EL.out.keep hw).num hjl.out) ((tat (EZ.out.keep hw) hx)))
      intro HF
      iterate 8 (
        apply Lw.one ?_ rfl
        · intro w hw
          obtain ⟨k0, q0, ⟨t0, t1, t2, t3, t4, t5, t6, t7, t8⟩⟩ := HF.out _ hw
          rw [HXV.out] at q0
          go_simp
          exact rfl
        intro K hK
        go_simp
        refine hK.out _ ?_
        clear hK K)
      apply Lw.any rfl
      · intro w hw
        go_simp
        exact Lw.ret (HRO.out _)
      intro K hK
      rintro v rfl
      go_simp
      refine hK.out _ ?_
      clear hK K
      apply Lw.any rfl
      · intro w hw
        go_simp
        exact Lw.ret (rjoin_any _ _ _ _ _ _ _ _ _ _ _ _ _)
      intro K hK
      rintro v rfl
      go_simp
      refine hK.out _ ?_
      clear hK K
      rotate_left
      exact []
      refine Lw.fin ?_
      intro v6 hm
      replace BR0 := BR0.keep hm
      replace BR1 := BR1.keep hm
      replace BB := BB.keep hm
      replace BM := BM.keep hm
      replace HB := HB.call hm
      have EL6 := hid (EL.out.keep hm)
      have EZ6 := hid (EZ.out.keep hm)
      clear hm EL EZ HRO
      have kB := BB.cell
      have zB := BB.frz
      have q0 := EL6.out.num hjl.out
      rw [HXV.out] at q0
      obtain ⟨t0, t1, t2, t3, t4, t5, t6, t7, t8⟩ := tat EZ6.out hx
      have e1 : (v2.heap.size = gl) = False := eq_false (by omega)
      have e2 : (gl = v2.heap.size) = False := eq_false (by omega)
      have e3 : (v2.heap.size = gz) = False := eq_false (by omega)
      have e4 : (gz = v2.heap.size) = False := eq_false (by omega)
      go_wp2_with fail
      refine Lp.settleC (fun w' => Lp.Bk w' (w.heap.size) #[.float .f64 0, .float .f64 0, .float .f64 0, .float .f64 0, .float .f64 0, .float .f64 0] 42 ∧ Lp.Bk w' (w.heap.size + 1) #[.float .f64 0, .float .f64 0, .float .f64 0, .float .f64 0, .float .f64 0, .float .f64 0] 42 ∧ Lp.Bk w' (v2.heap.size) #[.float .f64 (b.join q).a0, .float .f64 (b.join q).a1, .float .f64 (b.join q).a2, .float .f64 (b.join q).a3, .float .f64 (b.join q).a4, .float .f64 (b.join q).a5] 42 ∧ Lp.Bk w' (v4.heap.size) #[.float .f64 m.a0, .float .f64 m.a1, .float .f64 m.a2, .float .f64 m.a3, .float .f64 m.a4, .float .f64 m.a5] 42 ∧ Cl w w') ⟨?_, ?_, BB.set6, ?_, ?_⟩ ?_
      · (repeat (refine Lp.Bk.seto ?_ (by dsimp only; omega) _)); exact BR0
      · (repeat (refine Lp.Bk.seto ?_ (by dsimp only; omega) _)); exact BR1
      · (repeat (refine Lp.Bk.seto ?_ (by dsimp only; omega) _)); exact BM
      · (repeat (refine Below.setCell ?_ (by dsimp only; omega) _)); exact HB
      clear t0 t1 t2 t3 t4 t5 t6 t7 t8 q0 kB zB BR0 BR1 BB BM HB EL6 EZ6 e1 e2 e3 e4
      rintro v7 ⟨BR0, BR1, BB, BM, HB⟩
      refine Calls.mono (hmi.out _) ?_
      rintro e v8 ⟨v, rfl, rfl, hm⟩
      replace BR0 := BR0.keep hm
      replace BR1 := BR1.keep hm
      replace BB := BB.keep hm
      replace BM := BM.keep hm
      replace HB := HB.call hm
      clear hm hmi
      have kM := BM.cell
      have hml : v4.heap.size < v8.heap.size := BM.lt
      have e5 : (v4.heap.size = v8.heap.size) = False := eq_false (by omega)
      have e6 : (v8.heap.size = v4.heap.size) = False := eq_false (by omega)
      go_wp2_with fail
      refine Lp.settleC (fun w' => Lp.Bk w' (w.heap.size) #[.float .f64 0, .float .f64 0, .float .f64 0, .float .f64 0, .float .f64 0, .float .f64 0] 42 ∧ Lp.Bk w' (w.heap.size + 1) #[.float .f64 0, .float .f64 0, .float .f64 0, .float .f64 0, .float .f64 0, .float .f64 0] 42 ∧ Lp.Bk w' (v2.heap.size) #[.float .f64 (b.join q).a0, .float .f64 (b.join q).a1, .float .f64 (b.join q).a2, .float .f64 (b.join q).a3, .float .f64 (b.join q).a4, .float .f64 (b.join q).a5] 42 ∧ Lp.Bk w' (v4.heap.size) #[.float .f64 m.a0, .float .f64 m.a1, .float .f64 m.a2, .float .f64 m.a3, .float .f64 m.a4, .float .f64 m.a5] 42 ∧ Cl w w') ⟨BR0.alo _, BR1.alo _, BB.alo _, BM.alo _, HB.alloc _⟩ ?_
      clear kM BR0 BR1 BB BM HB hml e5 e6
      rintro v9 ⟨BR0, BR1, BB, BM, HB⟩
      refine Calls.mono (rjoin_any _ _ _ _ _ _ _ _ _ _ _ _ _) ?_
      rintro e v10 ⟨v, rfl, rfl, hm⟩
      replace BR0 := BR0.keep hm
      replace BR1 := BR1.keep hm
      replace BB := BB.keep hm
      replace BM := BM.keep hm
      replace HB := HB.call hm
      clear hm
      have kM := BM.cell
      have zM := BM.frz
      go_wp2_with fail
      go_roundg (g0 - 1)
      case measure => have := HK.out; have := hjl.out; omega
      case rel =>
        have hjl := hjl.out
        refine ⟨j + 1, b.join q, m.join mp, by have := HK.out; omega, by go_num, HV2.out.1.symm, HV2.out.2.symm, ?_, ?_, ?_, by rw [hcq.out]; exact BM.set6, ?_⟩
        · (repeat (refine Lp.Bk.seto ?_ (by dsimp only; omega) _)); exact BR0
        · (repeat (refine Lp.Bk.seto ?_ (by dsimp only; omega) _)); exact BR1
        · (repeat (refine Lp.Bk.seto ?_ (by dsimp only; omega) _)); exact BB
        · (repeat (refine Below.setCell ?_ (by dsimp only; omega) _)); exact HB
    · have hd : ((j : Int) < (l.length : Int)) = False := eq_false (by omega)
      have hjl : j = l.length := by have := HK.out; omega
      subst hjl
      have HV2 := aside (show bxv b = bxv (bxs T l) ∧ bxv m = bxv (mds T l) by rw [HV.out.1, HV.out.2, List.take_of_length_le (Nat.le_refl _)]; exact ⟨rfl, rfl⟩)
      clear hj HV
      go_wp2_with fail
      apply Ls.region (w.heap.size) (.cells #[.float .f64 b.a0, .float .f64 b.a1, .float .f64 b.a2, .float .f64 b.a3, .float .f64 b.a4, .float .f64 b.a5] 42) _ 3 (by kernel_rfl) (by kernel_rfl) (by kernel_rfl)
      apply Lw.facts
      · intro w1 hw
        exact And.intro (hw.keep BR1 (by omega)).cell (And.intro (hw.keep BB (by omega)).cell ((hw.keep BM (by omega)).cell))
      intro HF
      iterate 2 (
        apply Lw.one ?_ rfl
        · intro w hw
          obtain ⟨k0, k1, k2⟩ := HF.out _ hw
          go_simp
          exact rfl
        intro K hK
        go_simp
        refine hK.out _ ?_
        clear hK K)
      apply Lw.anyW (V := fun _ w' => w'.heap[w.heap.size]? = some (.cells #[.float .f64 b.a0, .float .f64 b.a1, .float .f64 b.a2, .float .f64 b.a3, .float .f64 b.a4, .float .f64 b.a5] 42)) rfl
      · exact fun _ => Ls.along_new
      · intro w hw _
        rcases hw.old BR0 with h | h
        all_goals
          have kR_ := h.cell
          have zR_ := h.frz
          go_simp
          exact sto6 h
      intro K hK v _
      go_simp
      refine hK.out _ _ ?_
      clear hK K
      rotate_left
      exact []
      refine Lw.finE ?_
      intro v21 hm hE
      have BR0_ : Lp.Bk v21 (w.heap.size) #[.float .f64 b.a0, .float .f64 b.a1, .float .f64 b.a2, .float .f64 b.a3, .float .f64 b.a4, .float .f64 b.a5] 42 := (hE 2).2 rfl
      have HB_ := hm.cl HB (by omega)
      replace BR1 := hm.keep BR1 (by omega)
      replace BB := hm.keep BB (by omega)
      replace BM := hm.keep BM (by omega)
      clear hm hE HB BR0
      have HB := HB_
      have BR0 := BR0_
      clear HB_ BR0_
      have kR0 := BR0.cell
      have kR1 := BR1.cell
      have kB := BB.cell
      have kM := BM.cell
      have zR1 := BR1.frz
      have nR00 : (w.heap.size = v21.heap.size) = False := eq_false (by have := BR0.lt; omega)
      have mR00 : w.heap.size < v21.heap.size := by have := BR0.lt; omega
      have nR01 : (w.heap.size = v21.heap.size + 1) = False := eq_false (by have := BR0.lt; omega)
      have mR01 : w.heap.size < v21.heap.size + 1 := by have := BR0.lt; omega
      have nR10 : (w.heap.size + 1 = v21.heap.size) = False := eq_false (by have := BR1.lt; omega)
      have mR10 : w.heap.size + 1 < v21.heap.size := by have := BR1.lt; omega
      have nR11 : (w.heap.size = v21.heap.size) = False := eq_false (by have := BR1.lt; omega)
      have mR11 : w.heap.size < v21.heap.size := by have := BR1.lt; omega
      have nB0 : (v2.heap.size = v21.heap.size) = False := eq_false (by have := BB.lt; omega)
      have mB0 : v2.heap.size < v21.heap.size := by have := BB.lt; omega
      have nB1 : (v2.heap.size = v21.heap.size + 1) = False := eq_false (by have := BB.lt; omega)
      have mB1 : v2.heap.size < v21.heap.size + 1 := by have := BB.lt; omega
      have nM0 : (v4.heap.size = v21.heap.size) = False := eq_false (by have := BM.lt; omega)
      have mM0 : v4.heap.size < v21.heap.size := by have := BM.lt; omega
      have nM1 : (v4.heap.size = v21.heap.size + 1) = False := eq_false (by have := BM.lt; omega)
      have mM1 : v4.heap.size < v21.heap.size + 1 := by have := BM.lt; omega
      go_wp2_with fail
      refine bodyPost_ret (v := .tuple #[bxv b, bxv m]) (by simp [results, go_sem, kR0, kR1, bxv]) rfl ⟨_, rfl, by rw [HV2.out.1, HV2.out.2], ?_⟩
      repeat (refine Below.setCell ?_ (by dsimp only; omega) _)
      exact HB

set_option maxRecDepth 100000 in
set_option maxHeartbeats 1000000 in
theorem rhalf_any {b : Bx} (hb : b.Mo) (w : World) : Ret Tryz.prog 34 #[bxv b] w (fun v => v = .float .f64 b.halfw) := by
  unfold Ret bxv
  have sx := side_num hb.h3 hb.h0
  have sy := side_num hb.h4 hb.h1
  have sz := side_num hb.h5 hb.h2
  have HH := half_in sx.1 sy.1 sz.1 sx.2.1 sx.2.2 sy.2.1 sy.2.2 sz.2.1 sz.2.2
  have HE := aside (show b.halfw = halfF (fsub b.a3 b.a0) (fsub b.a4 b.a1) (fsub b.a5 b.a2) from rfl)
  generalize b.halfw = hw at *
  obtain ⟨n1, n2, n3, n4, -⟩ := HH
  have HD1 := hid (fun w => run_mul_num (P := Tryz.prog) (w := w) 29 sx.1 sy.1)
  have HD2 := hid (fun w => run_mul_num (P := Tryz.prog) (w := w) 29 sy.1 sz.1)
  have HD3 := hid (fun w => run_mul_num (P := Tryz.prog) (w := w) 29 sz.1 sx.1)
  have HD4 := hid (fun w => run_add_num (P := Tryz.prog) (w := w) 29 n1 n2)
  have HD5 := hid (fun w => run_add_num (P := Tryz.prog) (w := w) 29 n4 n3)
  unfold halfF at HE
  go_enter Tryz.func34, Tryz.ntmps34
  go_wp2_with fail
  refine Calls.mono (rsub_c (A := ⟨b.a3, b.a4, b.a5⟩) (B := ⟨b.a0, b.a1, b.a2⟩) _ (S3.refl _ _ _) (S3.refl _ _ _)) ?_
  rintro e w1 ⟨v, rfl, ⟨x, y, z, rfl, hs, _⟩, hm⟩
  have HB : Cl w w1 := ((Below.refl _ _).alloc (Nat.le_refl _) _).trans (hm.mono (by simp))
  clear hm
  have q0 : x = fsub b.a3 b.a0 := (hs.x.symm.eq (not_nan_num sx.1)).symm
  have q1 : y = fsub b.a4 b.a1 := (hs.y.symm.eq (not_nan_num sy.1)).symm
  have q2 : z = fsub b.a5 b.a2 := (hs.z.symm.eq (not_nan_num sz.1)).symm
  rw [← q0, ← q1] at HD1
  rw [← q1, ← q2] at HD2
  rw [← q2, ← q0] at HD3
  rw [← q0, ← q1, ← q2] at HD4 HD5 HE
  clear q0 q1 q2 sx sy sz n1 n2 n3 n4 hs hb
  generalize fmul x y = p1 at *
  generalize fmul y z = p2 at *
  generalize fmul z x = p3 at *
  generalize fadd p1 p2 = p4 at *
  generalize fadd p4 p3 = p5 at *
  have d1 := HD1.out
  have d2 := HD2.out
  have d3 := HD3.out
  have d4 := HD4.out
  have d5 := HD5.out
  go_wp2_with fail
  go_ret
  exact ⟨_, rfl, congrArg (Value.float .f64) HE.out.symm, HB.alloc _⟩

set_option maxRecDepth 100000 in
set_option maxHeartbeats 1000000 in
theorem low_int (a b : Int) (w : World) : Calls Tryz.prog 53 #[.int .i64 a, .int .i64 b] w fun e w' => e = .returned (.int .i64 (min a b)) ∧ w' = w := by
  by_cases h : a < b
  · rw [Int.min_eq_left (by omega)]
    go_enter Tryz.func53, Tryz.ntmps53
    go_wp2_with fail
    go_ret
    exact ⟨rfl, rfl⟩
  · rw [Int.min_eq_right (by omega)]
    go_enter Tryz.func53, Tryz.ntmps53
    go_wp2_with fail
    go_ret
    exact ⟨rfl, rfl⟩

end Go.Proofs.YtijoaklknpkdoaaGreat
