/- Package rgb: pairs, colours; Add, Mul, Scale, Gray. -/
import Derived.Test.YtldblpgopgggdaaRows
import Derived.Test.YtldblpgopgggdaaRa
namespace Go.Proofs.Ytldblpgopgggdaa
open Go.RowKit Fl

set_option maxRecDepth 100000 in
set_option maxHeartbeats 1000000 in
theorem rpairs_add (ax ay az bx bY bz : Nat) (w : World) : Ret Try.prog 25 #[.agg #[.float .f64 ax, .float .f64 ay, .float .f64 az], .agg #[.float .f64 bx, .float .f64 bY, .float .f64 bz], .func (.func 26) #[] #[]] w (isV (fadd ax bx) (fadd ay bY) (fadd az bz)) := by
  unfold Ret
  go_enter Try.func25, Try.ntmps25
  go_wp2_with fail
  refine Lp.settle (fun w' => Lp.Bk w' (w.heap.size) #[.float .f64 ax, .float .f64 ay, .float .f64 az] 24 ∧ Lp.Bk w' (w.heap.size + 1) #[.float .f64 bx, .float .f64 bY, .float .f64 bz] 24 ∧ Lp.Bk w' (w.heap.size + 1 + 1) #[.float .f64 0, .float .f64 0, .float .f64 0] 24 ∧ Cl w w') ⟨(((Lp.Bk.al _ _ _).alo _).alo _), ((Lp.Bk.al1 _ _ _ _).alo _), (Lp.Bk.al2 _ _ _ _ _), (((Below.refl _ _).alloc (by simp <;> omega) _).alloc (by simp <;> omega) _).alloc (by simp <;> omega) _⟩ ?_
  rintro v1 ⟨BA, BB, BR, HB⟩
  have kA := BA.cell
  have kB := BB.cell
  have kR := BR.cell
  apply Lp.wp_region_loose _ _ 19 (by kernel_rfl) (by kernel_rfl) (by kernel_rfl) (Below.refl _ _)
  apply Lp.facts
  · intro w1 hw
    exact And.intro (BA.cl hw).cell (And.intro (BB.cl hw).cell ((BR.cl hw).cell))
  intro HF
  iterate 5 (
    apply Lp.one ?_ rfl
    · intro w hw
      obtain ⟨k0, k1, k2⟩ := HF.out _ hw
      go_simp
      exact rfl
    intro K hK
    go_simp
    refine hK.out _ ?_
    clear hK K)
  apply Lp.any rfl
  · intro w hw
    go_simp
    exact Lp.ret (rgb_add1 _ _ _)
  intro K hK
  rintro v ⟨r1, rfl, h1⟩
  go_simp
  refine hK.out _ ?_
  clear hK K
  iterate 5 (
    apply Lp.one ?_ rfl
    · intro w hw
      obtain ⟨k0, k1, k2⟩ := HF.out _ hw
      go_simp
      exact rfl
    intro K hK
    go_simp
    refine hK.out _ ?_
    clear hK K)
  apply Lp.any rfl
  · intro w hw
    go_simp
    exact Lp.ret (rgb_add1 _ _ _)
  intro K hK
  rintro v ⟨r2, rfl, h2⟩
  go_simp
  refine hK.out _ ?_
  clear hK K
  iterate 5 (
    apply Lp.one ?_ rfl
    · intro w hw
      obtain ⟨k0, k1, k2⟩ := HF.out _ hw
      go_simp
      exact rfl
    intro K hK
    go_simp
    refine hK.out _ ?_
    clear hK K)
  apply Lp.any rfl
  · intro w hw
    go_simp
    exact Lp.ret (rgb_add1 _ _ _)
  intro K hK
  rintro v ⟨r3, rfl, h3⟩
  go_simp
  refine hK.out _ ?_
  clear hK K
  iterate 1 (
    apply Lp.one ?_ rfl
    · intro w hw
      obtain ⟨k0, k1, k2⟩ := HF.out _ hw
      go_simp
      exact rfl
    intro K hK
    go_simp
    refine hK.out _ ?_
    clear hK K)
  rotate_left
  exact []
  intro v2 hm
  clear kA kB kR
  replace BA := BA.keep hm
  replace BB := BB.keep hm
  replace BR := BR.keep hm
  replace HB := HB.call hm
  clear hm
  have kA := BA.cell
  have kB := BB.cell
  have kR := BR.cell
  have zR := BR.frz
  go_wp2_with fail
  refine bodyPost_ret (v := .agg #[.float .f64 r1, .float .f64 r2, .float .f64 r3]) (by simp [results, go_sem, kR]) rfl ⟨_, rfl, ⟨_, _, _, rfl, h1, h2, h3⟩, ?_⟩
  repeat (refine Below.setCell ?_ (by dsimp only; omega) _)
  exact HB

set_option maxRecDepth 100000 in
set_option maxHeartbeats 1000000 in
theorem rpairs_mul (ax ay az bx bY bz : Nat) (w : World) : Ret Try.prog 25 #[.agg #[.float .f64 ax, .float .f64 ay, .float .f64 az], .agg #[.float .f64 bx, .float .f64 bY, .float .f64 bz], .func (.func 27) #[] #[]] w (isV (fmul ax bx) (fmul ay bY) (fmul az bz)) := by
  unfold Ret
  go_enter Try.func25, Try.ntmps25
  go_wp2_with fail
  refine Lp.settle (fun w' => Lp.Bk w' (w.heap.size) #[.float .f64 ax, .float .f64 ay, .float .f64 az] 24 ∧ Lp.Bk w' (w.heap.size + 1) #[.float .f64 bx, .float .f64 bY, .float .f64 bz] 24 ∧ Lp.Bk w' (w.heap.size + 1 + 1) #[.float .f64 0, .float .f64 0, .float .f64 0] 24 ∧ Cl w w') ⟨(((Lp.Bk.al _ _ _).alo _).alo _), ((Lp.Bk.al1 _ _ _ _).alo _), (Lp.Bk.al2 _ _ _ _ _), (((Below.refl _ _).alloc (by simp <;> omega) _).alloc (by simp <;> omega) _).alloc (by simp <;> omega) _⟩ ?_
  rintro v1 ⟨BA, BB, BR, HB⟩
  have kA := BA.cell
  have kB := BB.cell
  have kR := BR.cell
  apply Lp.wp_region_loose _ _ 19 (by kernel_rfl) (by kernel_rfl) (by kernel_rfl) (Below.refl _ _)
  apply Lp.facts
  · intro w1 hw
    exact And.intro (BA.cl hw).cell (And.intro (BB.cl hw).cell ((BR.cl hw).cell))
  intro HF
  iterate 5 (
    apply Lp.one ?_ rfl
    · intro w hw
      obtain ⟨k0, k1, k2⟩ := HF.out _ hw
      go_simp
      exact rfl
    intro K hK
    go_simp
    refine hK.out _ ?_
    clear hK K)
  apply Lp.any rfl
  · intro w hw
    go_simp
    exact Lp.ret (rgb_product _ _ _)
  intro K hK
  rintro v ⟨r1, rfl, h1⟩
  go_simp
  refine hK.out _ ?_
  clear hK K
  iterate 5 (
    apply Lp.one ?_ rfl
    · intro w hw
      obtain ⟨k0, k1, k2⟩ := HF.out _ hw
      go_simp
      exact rfl
    intro K hK
    go_simp
    refine hK.out _ ?_
    clear hK K)
  apply Lp.any rfl
  · intro w hw
    go_simp
    exact Lp.ret (rgb_product _ _ _)
  intro K hK
  rintro v ⟨r2, rfl, h2⟩
  go_simp
  refine hK.out _ ?_
  clear hK K
  iterate 5 (
    apply Lp.one ?_ rfl
    · intro w hw
      obtain ⟨k0, k1, k2⟩ := HF.out _ hw
      go_simp
      exact rfl
    intro K hK
    go_simp
    refine hK.out _ ?_
    clear hK K)
  apply Lp.any rfl
  · intro w hw
    go_simp
    exact Lp.ret (rgb_product _ _ _)
  intro K hK
  rintro v ⟨r3, rfl, h3⟩
  go_simp
  refine hK.out _ ?_
  clear hK K
  iterate 1 (
    apply Lp.one ?_ rfl
    · intro w hw
      obtain ⟨k0, k1, k2⟩ := HF.out _ hw
      go_simp
      exact rfl
    intro K hK
    go_simp
    refine hK.out _ ?_
    clear hK K)
  rotate_left
  exact []
  intro v2 hm
  clear kA kB kR
  replace BA := BA.keep hm
  replace BB := BB.keep hm
  replace BR := BR.keep hm
  replace HB := HB.call hm
  clear hm
  have kA := BA.cell
  have kB := BB.cell
  have kR := BR.cell
  have zR := BR.frz
  go_wp2_with fail
  refine bodyPost_ret (v := .agg #[.float .f64 r1, .float .f64 r2, .float .f64 r3]) (by simp [results, go_sem, kR]) rfl ⟨_, rfl, ⟨_, _, _, rfl, h1, h2, h3⟩, ?_⟩
  repeat (refine Below.setCell ?_ (by dsimp only; omega) _)
  exact HB

set_option maxRecDepth 100000 in
set_option maxHeartbeats 1000000 in
theorem colours_scale (ax ay az k b : Nat) (w : World) (BK : Lp.Bk w b #[.float .f64 k] 22) : Ret Try.prog 28 #[.agg #[.float .f64 ax, .float .f64 ay, .float .f64 az], .func (.func 29) #[] #[.pointer (some ⟨b, 0, none⟩)]] w (isV (fmul ax k) (fmul ay k) (fmul az k)) := by
  unfold Ret
  go_enter Try.func28, Try.ntmps28
  go_wp2_with fail
  refine Lp.settle (fun w' => Lp.Bk w' (b) #[.float .f64 k] 22 ∧ Lp.Bk w' (w.heap.size) #[.float .f64 ax, .float .f64 ay, .float .f64 az] 24 ∧ Lp.Bk w' (w.heap.size + 1) #[.float .f64 0, .float .f64 0, .float .f64 0] 24 ∧ Cl w w') ⟨((BK.alo _).alo _), ((Lp.Bk.al _ _ _).alo _), (Lp.Bk.al1 _ _ _ _), (((Below.refl _ _).alloc (by simp <;> omega) _).alloc (by simp <;> omega) _)⟩ ?_
  rintro v1 ⟨BK, BA, BR, HB⟩
  have kK := BK.cell
  have kA := BA.cell
  have kR := BR.cell
  apply Lp.wp_region_loose _ _ 13 (by kernel_rfl) (by kernel_rfl) (by kernel_rfl) (Below.refl _ _)
  apply Lp.facts
  · intro w1 hw
    exact And.intro (BK.cl hw).cell (And.intro (BA.cl hw).cell ((BR.cl hw).cell))
  intro HF
  iterate 3 (
    apply Lp.one ?_ rfl
    · intro w hw
      obtain ⟨k0, k1, k2⟩ := HF.out _ hw
      go_simp
      exact rfl
    intro K hK
    go_simp
    refine hK.out _ ?_
    clear hK K)
  apply Lp.any rfl
  · intro w hw
    go_simp
    exact Lp.ret (rgb_scale1 _ k b _ ((BK.cl hw).cell 0))
  intro K hK
  rintro v ⟨r1, rfl, h1⟩
  go_simp
  refine hK.out _ ?_
  clear hK K
  iterate 3 (
    apply Lp.one ?_ rfl
    · intro w hw
      obtain ⟨k0, k1, k2⟩ := HF.out _ hw
      go_simp
      exact rfl
    intro K hK
    go_simp
    refine hK.out _ ?_
    clear hK K)
  apply Lp.any rfl
  · intro w hw
    go_simp
    exact Lp.ret (rgb_scale1 _ k b _ ((BK.cl hw).cell 0))
  intro K hK
  rintro v ⟨r2, rfl, h2⟩
  go_simp
  refine hK.out _ ?_
  clear hK K
  iterate 3 (
    apply Lp.one ?_ rfl
    · intro w hw
      obtain ⟨k0, k1, k2⟩ := HF.out _ hw
      go_simp
      exact rfl
    intro K hK
    go_simp
    refine hK.out _ ?_
    clear hK K)
  apply Lp.any rfl
  · intro w hw
    go_simp
    exact Lp.ret (rgb_scale1 _ k b _ ((BK.cl hw).cell 0))
  intro K hK
  rintro v ⟨r3, rfl, h3⟩
  go_simp
  refine hK.out _ ?_
  clear hK K
  iterate 1 (
    apply Lp.one ?_ rfl
    · intro w hw
      obtain ⟨k0, k1, k2⟩ := HF.out _ hw
      go_simp
      exact rfl
    intro K hK
    go_simp
    refine hK.out _ ?_
    clear hK K)
  rotate_left
  exact []
  intro v2 hm
  clear kK kA kR
  replace BK := BK.keep hm
  replace BA := BA.keep hm
  replace BR := BR.keep hm
  replace HB := HB.call hm
  clear hm
  have kK := BK.cell
  have kA := BA.cell
  have kR := BR.cell
  have zR := BR.frz
  go_wp2_with fail
  refine bodyPost_ret (v := .agg #[.float .f64 r1, .float .f64 r2, .float .f64 r3]) (by simp [results, go_sem, kR]) rfl ⟨_, rfl, ⟨_, _, _, rfl, h1, h2, h3⟩, ?_⟩
  repeat (refine Below.setCell ?_ (by dsimp only; omega) _)
  exact HB

set_option maxRecDepth 100000 in
set_option maxHeartbeats 1000000 in
theorem rgb_add (ax ay az bx bY bz : Nat) (w : World) : Ret Try.prog 8 #[.agg #[.float .f64 ax, .float .f64 ay, .float .f64 az], .agg #[.float .f64 bx, .float .f64 bY, .float .f64 bz]] w (isV (fadd ax bx) (fadd ay bY) (fadd az bz)) := by
  unfold Ret
  go_enter Try.func8, Try.ntmps8
  go_wp2_with fail
  refine Lp.settleC (fun w' => Lp.Bk w' (w.heap.size) #[.float .f64 ax, .float .f64 ay, .float .f64 az] 24 ∧ Lp.Bk w' (w.heap.size + 1) #[.float .f64 bx, .float .f64 bY, .float .f64 bz] 24 ∧ Lp.Bk w' (w.heap.size + 1 + 1) #[.float .f64 0, .float .f64 0, .float .f64 0] 24 ∧ Cl w w') ⟨(((Lp.Bk.al _ _ _).alo _).alo _), ((Lp.Bk.al1 _ _ _ _).alo _), (Lp.Bk.al2 _ _ _ _ _), (((Below.refl _ _).alloc (by simp <;> omega) _).alloc (by simp <;> omega) _).alloc (by simp <;> omega) _⟩ ?_
  rintro v1 ⟨BA, BB, BR, HB⟩
  have kA := BA.cell
  have kB := BB.cell
  have kR := BR.cell
  refine Calls.mono (rpairs_add _ _ _ _ _ _ _) ?_
  rintro e v2 ⟨v, rfl, ⟨r1, r2, r3, rfl, h1, h2, h3⟩, hm⟩
  clear kA kB kR
  replace BA := BA.keep hm
  replace BB := BB.keep hm
  replace BR := BR.keep hm
  replace HB := HB.call hm
  clear hm
  have kA := BA.cell
  have kB := BB.cell
  have kR := BR.cell
  have zR := BR.frz
  go_wp2_with fail
  refine bodyPost_ret (v := .agg #[.float .f64 r1, .float .f64 r2, .float .f64 r3]) (by simp [results, go_sem, kR]) rfl ⟨_, rfl, ⟨_, _, _, rfl, h1, h2, h3⟩, ?_⟩
  repeat (refine Below.setCell ?_ (by dsimp only; omega) _)
  exact HB

set_option maxRecDepth 100000 in
set_option maxHeartbeats 1000000 in
theorem rgb_mul (ax ay az bx bY bz : Nat) (w : World) : Ret Try.prog 10 #[.agg #[.float .f64 ax, .float .f64 ay, .float .f64 az], .agg #[.float .f64 bx, .float .f64 bY, .float .f64 bz]] w (isV (fmul ax bx) (fmul ay bY) (fmul az bz)) := by
  unfold Ret
  go_enter Try.func10, Try.ntmps10
  go_wp2_with fail
  refine Lp.settleC (fun w' => Lp.Bk w' (w.heap.size) #[.float .f64 ax, .float .f64 ay, .float .f64 az] 24 ∧ Lp.Bk w' (w.heap.size + 1) #[.float .f64 bx, .float .f64 bY, .float .f64 bz] 24 ∧ Lp.Bk w' (w.heap.size + 1 + 1) #[.float .f64 0, .float .f64 0, .float .f64 0] 24 ∧ Cl w w') ⟨(((Lp.Bk.al _ _ _).alo _).alo _), ((Lp.Bk.al1 _ _ _ _).alo _), (Lp.Bk.al2 _ _ _ _ _), (((Below.refl _ _).alloc (by simp <;> omega) _).alloc (by simp <;> omega) _).alloc (by simp <;> omega) _⟩ ?_
  rintro v1 ⟨BA, BB, BR, HB⟩
  have kA := BA.cell
  have kB := BB.cell
  have kR := BR.cell
  refine Calls.mono (rpairs_mul _ _ _ _ _ _ _) ?_
  rintro e v2 ⟨v, rfl, ⟨r1, r2, r3, rfl, h1, h2, h3⟩, hm⟩
  clear kA kB kR
  replace BA := BA.keep hm
  replace BB := BB.keep hm
  replace BR := BR.keep hm
  replace HB := HB.call hm
  clear hm
  have kA := BA.cell
  have kB := BB.cell
  have kR := BR.cell
  have zR := BR.frz
  go_wp2_with fail
  refine bodyPost_ret (v := .agg #[.float .f64 r1, .float .f64 r2, .float .f64 r3]) (by simp [results, go_sem, kR]) rfl ⟨_, rfl, ⟨_, _, _, rfl, h1, h2, h3⟩, ?_⟩
  repeat (refine Below.setCell ?_ (by dsimp only; omega) _)
  exact HB

set_option maxRecDepth 100000 in
set_option maxHeartbeats 1000000 in
theorem rgb_scale (ax ay az k : Nat) (w : World) : Ret Try.prog 12 #[.agg #[.float .f64 ax, .float .f64 ay, .float .f64 az], .float .f64 k] w (isV (fmul ax k) (fmul ay k) (fmul az k)) := by
  unfold Ret
  go_enter Try.func12, Try.ntmps12
  go_wp2_with fail
  refine Lp.settleC (fun w' => Lp.Bk w' (w.heap.size) #[.float .f64 ax, .float .f64 ay, .float .f64 az] 24 ∧ Lp.Bk w' (w.heap.size + 1) #[.float .f64 k] 22 ∧ Lp.Bk w' (w.heap.size + 1 + 1) #[.float .f64 0, .float .f64 0, .float .f64 0] 24 ∧ Cl w w') ⟨(((Lp.Bk.al _ _ _).alo _).alo _), ((Lp.Bk.al1 _ _ _ _).alo _), (Lp.Bk.al2 _ _ _ _ _), (((Below.refl _ _).alloc (by simp <;> omega) _).alloc (by simp <;> omega) _).alloc (by simp <;> omega) _⟩ ?_
  rintro v1 ⟨BA, BK, BR, HB⟩
  have kA := BA.cell
  have kK := BK.cell
  have kR := BR.cell
  refine Calls.mono (colours_scale _ _ _ _ _ _ BK) ?_
  rintro e v2 ⟨v, rfl, ⟨r1, r2, r3, rfl, h1, h2, h3⟩, hm⟩
  clear kA kK kR
  replace BA := BA.keep hm
  replace BK := BK.keep hm
  replace BR := BR.keep hm
  replace HB := HB.call hm
  clear hm
  have kA := BA.cell
  have kK := BK.cell
  have kR := BR.cell
  have zR := BR.frz
  go_wp2_with fail
  refine bodyPost_ret (v := .agg #[.float .f64 r1, .float .f64 r2, .float .f64 r3]) (by simp [results, go_sem, kR]) rfl ⟨_, rfl, ⟨_, _, _, rfl, h1, h2, h3⟩, ?_⟩
  repeat (refine Below.setCell ?_ (by dsimp only; omega) _)
  exact HB

set_option maxRecDepth 100000 in
set_option maxHeartbeats 1000000 in
theorem rgb_gray (k : Nat) (w : World) : Ret Try.prog 14 #[.float .f64 k] w (fun v => v = .agg #[.float .f64 k, .float .f64 k, .float .f64 k]) := by
  unfold Ret
  go_enter Try.func14, Try.ntmps14
  go_wp2_with fail
  refine bodyPost_ret (v := .agg #[.float .f64 k, .float .f64 k, .float .f64 k]) (by simp [results, go_sem]) rfl ⟨_, rfl, rfl, (Below.refl _ _).alloc (Nat.le_refl _) _⟩

end Go.Proofs.Ytldblpgopgggdaa
