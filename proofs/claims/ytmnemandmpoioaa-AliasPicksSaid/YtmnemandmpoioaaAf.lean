/- Package alias: remainder, and what it makes. -/
import Derived.Deep.LoopGhost
import Derived.Test.YtmnemandmpoioaaAe
namespace Go.Proofs.Ytmnemandmpoioaa
open Go.RowKit Fl

theorem made_ints (n : Nat) (w : World) (h : n ≤ 4194304) : (Instr.makeSlice 22 (.int .i64 (n : Int)) (.int .i64 (n : Int))).run Try.prog w = .ok (.slice (some ⟨w.heap.size, 0, none⟩) n n) (w.alloc (.cells (madeCells #[.int .i64 0] n) 3)) := by
  obtain ⟨i, hi, z0, z1, z2⟩ := info_int
  have := run_make (P := Try.prog) w 22 3 i (.int .i64 0) under_ints hi z0 .i64 .i64 (n : Int) (n : Int) (by omega) (Int.le_refl _) (by rw [z2]; omega) (by omega)
  rw [this, z1, Nat.mul_one]
  rfl
theorem made_at {n i : Nat} (h : i < n) : (madeCells #[.int .i64 0] n)[i]? = some (.int .i64 0) := by
  simp [madeCells, h, Nat.mod_one]
theorem made_ir {w : World} {g n : Nat} (h : Lp.Bk w g (madeCells #[.int .i64 0] n) 3) : Ir w g n (fun _ => 0) := ⟨_, h, fun i hi => by rw [Nat.zero_add]; exact made_at hi⟩

set_option maxRecDepth 100000 in
set_option maxHeartbeats 2000000 in
theorem rem_any (T n gw cw : Nat) (tot : Int) (st sa : Value) (ws : Nat → Int) (w : World) (hT : Lp.Bk w T #[.slice (some ⟨gw, 0, none⟩) n cw, st, sa, .int .i64 tot] 51) (hw : Ir w gw n ws) (hn : n ≤ 1024) (h0 : ∀ i, i < n → 0 ≤ ws i ∧ ws i ≤ 1048576) :
    Calls Try.prog 30 #[.pointer (some ⟨T, 0, none⟩)] w fun e w' => ∃ D gh, e = .returned (.func (.func 32) #[] #[.pointer (some ⟨D, 0, none⟩)]) ∧
      Lp.Bk w' D #[.slice (some ⟨gh, 0, none⟩) n n] 22 ∧ Ir w' gh n (hasF n ws) ∧ w.heap.size ≤ D ∧ w.heap.size ≤ gh ∧ D ≠ gh ∧ Below w.heap.size w w' := by
  have HL : Hid _ := fun w h => alen_any (tot := tot) (n := n) (T := T) (sw := .slice (some ⟨gw, 0, none⟩) n cw) (st := st) (sa := sa) w rfl h
  have HM : ∀ w, _ := fun w => made_ints n w (by omega)
  have kT := hT.cell
  have HT := hid hT
  have HW : Hid (Ir w gw n ws) := hw
  have H0 : Hid _ := h0
  have hlt := hT.lt
  have hltw := hw.lt
  clear hT hw h0
  go_enter Try.func30, Try.ntmps30
  go_wp2_with fail
  refine Calls.mono (HL.out _ HT.out) ?_
  rintro e w' ⟨rfl, hw⟩
  obtain rfl := hw.symm
  clear hw
  go_wp2_with fail
  have hgh := (Lp.Bk.al w (madeCells #[.int .i64 0] n) 3).alo (.cells #[.slice (some ⟨w.heap.size, 0, none⟩) n n] 22)
  have hD := Lp.Bk.al1 w (.cells (madeCells #[.int .i64 0] n) 3) #[.slice (some ⟨w.heap.size, 0, none⟩) n n] 22
  have HB : Below w.heap.size w ((w.alloc (.cells (madeCells #[.int .i64 0] n) 3)).alloc (.cells #[.slice (some ⟨w.heap.size, 0, none⟩) n n] 22)) := ((Below.refl _ _).alloc (Nat.le_refl _) _).alloc (by simp) _
  clear kT
  generalize hDe : w.heap.size + 1 = D at *
  have HG : Aside (w.heap.size ≤ D ∧ w.heap.size ≠ D ∧ D ≠ w.heap.size) := ⟨by omega, by omega, by omega⟩
  have hI := made_ir hgh
  clear hgh hDe
  go_loopg [14] n (fun k i wr => ∃ (j : Nat) (F : Nat → Int), k + j = n ∧ i = .int .i64 (j : Int) ∧ Ir wr w.heap.size n F ∧ (∀ i, i < j → F i = hasF n ws i) ∧ Lp.Bk wr D #[.slice (some ⟨w.heap.size, 0, none⟩) n n] 22 ∧ Below w.heap.size w wr)
  case atStart => exact ⟨0, _, by omega, rfl, hI, fun i hi => absurd hi (Nat.not_lt_zero i), hD, HB⟩
  case round =>
    clear hI hD HB
    obtain ⟨g0, hg0⟩ : ∃ g0, g0 = gk := ⟨_, rfl⟩
    subst hg0
    obtain ⟨j, F, hk, rfl, hI, hF, hD, HB⟩ := hrel
    have HK : Aside _ := hk
    have HF0 : Aside _ := hF
    have HI : Hid (Ir wr w.heap.size n F) := hI
    have HB0 : Hid _ := HB
    have HD := hid hD
    clear hk hF
    by_cases hj : j < n
    · have hd : ((j : Int) < (n : Int)) = True := eq_true (by omega)
      have kW := Iro.at (HW.out.keep HB) hj
      have hx := H0.out j hj
      have kI := hI.at hj
      have zI := hI.frz
      have hgl := hI.lt
      have hDl := hD.lt
      have hprod : 0 ≤ ws j * n ∧ ws j * n ≤ 1048576 * 1024 := ⟨Int.mul_nonneg hx.1 (by omega), Int.mul_le_mul hx.2 (by omega) (by omega) (by omega)⟩
      have HE : Aside (hasF n ws j = ws j * n) := rfl
      generalize ws j = x at *
      have hwr : IntKind.i64.wrap (x * n) = x * n := by rw [IntKind.wrap_i64]; omega
      obtain ⟨hp0, hp1⟩ := hprod
      obtain ⟨hx0, hx1⟩ := hx
      have HTr := hid (HT.out.keep HB)
      clear hI hD HB
      go_wp2_with fail
      apply Lp.wp_region_loose _ _ 7 (by kernel_rfl) (by kernel_rfl) (by kernel_rfl) (Below.refl _ _)
      apply Lp.facts
      · intro w1 hw
        exact (HD.out.cl hw).cell
      intro HF
      iterate 4 (
        apply Lp.one ?_ rfl
        · intro w hw
          have k0 := HF.out _ hw
          go_simp
          exact rfl
        intro K hK
        go_simp
        refine hK.out _ ?_
        clear hK K)
      apply Lp.any rfl
      · intro w hw
        go_simp
        exact Lp.ret (ret_one (HL.out _ (HTr.out.cl hw)))
      intro K hK
      rintro v rfl
      go_simp
      refine hK.out _ ?_
      clear hK K
      iterate 2 (
        apply Lp.one ?_ rfl
        · intro w hw
          have k0 := HF.out _ hw
          go_simp
          exact rfl
        intro K hK
        go_simp
        refine hK.out _ ?_
        clear hK K)
      rotate_left
      exact []
      intro v1 hm
      have hI1 := HI.out.keep hm
      clear kI zI kW hgl hDl
      have kI1 := hI1.at hj
      have zI1 := hI1.frz
      have HI1 := hid hI1
      clear hI1
      have HM1 := hid hm
      clear hm
      have HF2 : Aside (∀ i, i < j + 1 → upd F j (x * n) i = hasF n ws i) := by
        intro i hi
        by_cases e : i = j
        · subst e; rw [upd_self]; exact HE.out.symm
        · rw [upd_ne e]; exact HF0.out i (by omega)
      have HND := HG.out.2.2
      go_wp2_with fail
      go_roundg (g0 - 1)
      case measure => have := HK.out; omega
      case rel => exact ⟨j + 1, _, by have := HK.out; omega, by go_num, HI1.out.set hj _, HF2.out, (HD.out.keep HM1.out).seto HND _, (HB0.out.trans (HM1.out.mono HB0.out.size)).setCell (Nat.le_refl _) _⟩
    · have hd : ((j : Int) < (n : Int)) = False := eq_false (by omega)
      have hjn : j = n := by have := HK.out; omega
      subst hjn
      have HI2 : Aside _ := HI.out.congr HF0.out
      clear hI hD HB
      go_wp2_with fail
      go_ret
      exact ⟨D, w.heap.size, rfl, HD.out, HI2.out, HG.out.1, Nat.le_refl _, HG.out.2.2, HB0.out⟩

/-- What an option has left, told and lessened. -/
def sameW (w w' : World) : Prop := w' = w
set_option maxRecDepth 100000 in
set_option maxHeartbeats 1000000 in
theorem left_any (i D gh n c : Nat) (H : Nat → Int) (d : Int) (w : World) (hD : Lp.Bk w D #[.slice (some ⟨gh, 0, none⟩) n c] 22) (hI : Ir w gh n H) (hi : i < n) (h0 : -4611686018427387904 ≤ H i ∧ H i ≤ 4611686018427387903) (h1 : -4611686018427387904 ≤ d ∧ d ≤ 4611686018427387903) (hne : D ≠ gh) :
    Calls Try.prog 32 #[.int .i64 i, .int .i64 d, .pointer (some ⟨D, 0, none⟩)] w fun e w' => e = .returned (.int .i64 (H i - d)) ∧ w' = w.setCell ⟨gh, i, none⟩ (.int .i64 (H i - d)) := by
  have kD := hD.cell
  have kI := hI.at hi
  have zI := hI.frz
  have HS := hid (hI.set hi (H i - d))
  have kS := HS.out.at hi
  rw [upd_self] at kS
  have kD2 := (hD.seto (p := ⟨gh, i, none⟩) hne (.int .i64 (H i - d))).cell
  have hd : ((i : Int) < (n : Int)) = True := eq_true (by omega)
  clear hI hD
  generalize H i = x at *
  go_enter Try.func32, Try.ntmps32
  go_wp2_with fail
  go_ret
  exact ⟨rfl, rfl⟩
/-- What an option has left, told. -/
theorem left_zero (i D gh n c : Nat) (H : Nat → Int) (w : World) (hD : Lp.Bk w D #[.slice (some ⟨gh, 0, none⟩) n c] 22) (hI : Ir w gh n H) (hi : i < n) (h0 : -4611686018427387904 ≤ H i ∧ H i ≤ 4611686018427387903) (hne : D ≠ gh) :
    Calls Try.prog 32 #[.int .i64 i, .int .i64 0, .pointer (some ⟨D, 0, none⟩)] w fun e w' => e = .returned (.int .i64 (H i)) ∧ w' = w := by
  have h := left_any i D gh n c H 0 w hD hI hi h0 (by decide) hne
  obtain ⟨cur, hB, hc⟩ := hI
  have hci := hc i hi
  rw [Nat.zero_add] at hci
  rw [Int.sub_zero, setCell_same hB hci] at h
  exact h
end Go.Proofs.Ytmnemandmpoioaa
