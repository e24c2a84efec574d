/- Package warp: the sector of a draw (around, Sector). -/
import Derived.Test.YtnhilikcgfhkbaaZc
namespace Go.Proofs.Ytnhilikcgfhkbaa
open Go.RowKit Fl

theorem conv_small8 {p : Nat} {k : Nat} (hk : k ≤ 7) (h : truncF p = (k : Int)) (hn : Num p) (h0 : 0 ≤ val p) : floatToIntVal .f64 p .i64 = some (k : Int) := by
  have e := trunc_floor hn h0
  have e' : truncF p = (val p).floor := by unfold truncF; rw [e]; rfl
  unfold floatToIntVal
  rw [show (FloatKind.f64.decode p).toInt .zero = some (val p).floor from e, ← e', h]
  have lo : IntKind.i64.min = -9223372036854775808 := by decide +kernel
  have hi : IntKind.i64.max = 9223372036854775807 := by decide +kernel
  dsimp only
  rw [lo, hi, if_pos ⟨by omega, by omega⟩]
theorem convI {m : Nat} {z : Int} (h : floatToIntVal .f64 m .i64 = some z) (w : World) : (convert 22 3 (.float .f64 m)).run Try.prog w = .ok (.int .i64 z) w :=
  run_convert_float_int (w := w) _ _ _ _ _ _ (by rw [Try.underlying22]; rfl) Try.underlying3 h

theorem two_new (w : World) (x y : Nat) : Two (w.alloc (.cells #[.float .f64 x, .float .f64 y] 44)) w.heap.size x y := by
  exact Lp.Bk.al _ _ _

/-- All that is known of a clean draw's sector. -/
structure Sect (c : Nat) : Prop where
  k7 : secK c ≤ 7
  n8 : Num (fmul w8 c)
  conv : floatToIntVal .f64 (fmul w8 c) .i64 = some (secK c : Int)
  nk : Num (floatOfInt .f64 (secK c : Int))
  nf : Num (secF c)
  f0 : 0 ≤ val (secF c)
  f1 : val (secF c) ≤ 1
  nff : Num (fmul (secF c) (secF c))
  sec : Sec (secF c)
theorem sect {c : Nat} (hc : Num c) (c0 : 0 ≤ val c) (c1 : val c < 1) : Sect c := by
  obtain ⟨n8, v8⟩ := eight_ex hc c0 c1
  obtain ⟨t, k7, _, _⟩ := sec_k hc c0 c1
  obtain ⟨nk, _⟩ := ofint_val (n := (secK c : Int)) (by omega) (by omega)
  obtain ⟨nf, f0, f1⟩ := sec_f hc c0 c1
  exact ⟨k7, n8, conv_small8 k7 t n8 (by rw [v8]; grind), nk, nf, f0, f1, (unit_mul nf nf f0 f1 f0 f1).1, sec_vals nf f0 f1⟩

abbrev secX (c : Nat) : Nat := dirX (secC (secF c)) (secS (secF c)) (secK c)
abbrev secY (c : Nat) : Nat := dirY (secC (secF c)) (secS (secF c)) (secK c)
theorem dir_unit {c s : Nat} (h : Unit2 c s) (k : Nat) : Unit2 (dirX c s k) (dirY c s k) := by
  unfold dirX dirY
  split
  · exact h
  · exact h.swap
  · exact h.swap.negx
  · exact h.negx
  · exact h.negx.negy
  · exact h.swap.negx.negy
  · exact h.swap.negy
  · exact h.negy
theorem Sect.unit {c : Nat} (h : Sect c) : Unit2 (secX c) (secY c) := dir_unit h.sec.unit _

set_option maxRecDepth 100000 in
set_option maxHeartbeats 1000000 in
theorem around_any (u : Nat) (w : World) : Calls Try.prog 25 #[.float .f64 u] w fun e w' => ∃ b, e = .returned (.tuple #[.func (.func 36) #[] #[.pointer (some ⟨b, 0, none⟩)], .float .f64 (densF (secF (cleanF u)))]) ∧ Two w' b (secX (cleanF u)) (secY (cleanF u)) ∧ w.heap.size ≤ b ∧ Below w.heap.size w w' := by
  have HC := hid (clean_any u)
  obtain ⟨nc, c0, c1⟩ := clean_num u
  generalize cleanF u = c at *
  have S := sect nc c0 c1
  have HP := hid (prod_num num_w8 nc)
  unfold w8 at HP
  have HV : ∀ w, _ := fun w => convI S.conv w
  have hs : ∀ w, (binOp .sub 22 (.float .f64 (fmul 4620693217682128896 c)) (.float .f64 (floatOfInt .f64 (secK c : Int)))).run Try.prog w = .ok (.float .f64 (secF c)) w := fun w => run_sub_num w 22 S.n8 S.nk
  have HT := hid (stretch_num S.nf S.nff)
  have HR := hid (root_num S.sec.nq (by have := S.sec.q0; have := dl_le; grind))
  have hz : val (fsqrt (secQ (secF c))) ≠ 0 := by have h := S.sec.d0; unfold secD at h; clear HC HP HV hs HT HR; grind
  have hq1 : ∀ w, (binOp .quo 22 (.float .f64 4607182418800017408) (.float .f64 (fsqrt (secQ (secF c))))).run Try.prog w = .ok (.float .f64 (secC (secF c))) w := fun w => run_quo_num w 22 num_w1 S.sec.nd hz
  have hq2 : ∀ w, (binOp .quo 22 (.float .f64 (secF c)) (.float .f64 (fsqrt (secQ (secF c))))).run Try.prog w = .ok (.float .f64 (secS (secF c))) w := fun w => run_quo_num w 22 S.nf S.sec.nd hz
  have HD := hid (dirs_num S.sec.nc S.sec.ns)
  have hi : ∀ w, _ := fun w => dirs_at (c := secC (secF c)) (s := secS (secF c)) S.k7 w
  have HN := hid (density_num S.nf S.nff S.sec.nq)
  unfold w8 at HV
  clear S nc c0 c1 hz
  unfold secX secY
  generalize densF (secF c) = p at *
  generalize secC (secF c) = C at *
  generalize secS (secF c) = Z at *
  generalize fsqrt (secQ (secF c)) = d at *
  generalize secQ (secF c) = q at *
  generalize secF c = f at *
  generalize fmul 4620693217682128896 c = e8 at *
  generalize dirX C Z (secK c) = X at *
  generalize dirY C Z (secK c) = Y at *
  generalize hMC : fsub 0 C = MC at *
  generalize hMZ : fsub 0 Z = MZ at *
  clear hMC hMZ
  generalize secK c = k at *
  go_enter Try.func25, Try.ntmps25
  go_wp2_with fail
  refine Calls.mono (HC.out _) ?_
  rintro e w' ⟨rfl, hw⟩
  obtain rfl := hw.symm
  clear hw
  go_wp2_with fail
  refine Calls.mono (HP.out _) ?_
  rintro e w' ⟨rfl, hw⟩
  obtain rfl := hw.symm
  clear hw
  go_wp2_with fail
  refine Calls.mono (HT.out _) ?_
  rintro e w' ⟨rfl, hw⟩
  obtain rfl := hw.symm
  clear hw
  go_wp2_with fail
  refine Calls.mono (HR.out _) ?_
  rintro e w' ⟨rfl, hw⟩
  obtain rfl := hw.symm
  clear hw
  go_wp2_with fail
  refine Calls.mono (HD.out _) ?_
  rintro e w1 ⟨rfl, hb⟩
  have HB := hid hb
  clear hb
  go_wp2_with fail
  refine Calls.mono (HN.out _) ?_
  rintro e w' ⟨rfl, hw⟩
  obtain rfl := hw.symm
  clear hw
  go_wp2_with fail
  refine bodyPost_ret (v := .tuple #[.func (.func 36) #[] #[.pointer (some ⟨w1.heap.size, 0, none⟩)], .float .f64 p]) (by simp [results, go_sem]) rfl ⟨_, rfl, ?_, HB.out.size, HB.out.alloc HB.out.size _⟩
  exact two_new _ _ _
end Go.Proofs.Ytnhilikcgfhkbaa
