/- The reference's Sector. -/
import Derived.Deep.LoopGhost
import Derived.Test.YtnhilikcgfhkbaaZd
import Derived.Test.YtnhilikcgfhkbaaZg
namespace Go.Proofs.Ytnhilikcgfhkbaa
open Go.RowKit Fl

/-- The swap, and the signs, of a sector. -/
theorem dir_form {c s : Nat} {k : Nat} (hk : k ≤ 7) : dirX c s k = (if 2 ≤ k ∧ k ≤ 5 then fsub 0 (if k = 1 ∨ k = 2 ∨ k = 5 ∨ k = 6 then s else c) else (if k = 1 ∨ k = 2 ∨ k = 5 ∨ k = 6 then s else c)) ∧ dirY c s k = (if 4 ≤ k then fsub 0 (if k = 1 ∨ k = 2 ∨ k = 5 ∨ k = 6 then c else s) else (if k = 1 ∨ k = 2 ∨ k = 5 ∨ k = 6 then c else s)) := by
  have h : k = 0 ∨ k = 1 ∨ k = 2 ∨ k = 3 ∨ k = 4 ∨ k = 5 ∨ k = 6 ∨ k = 7 := by omega
  rcases h with rfl | rfl | rfl | rfl | rfl | rfl | rfl | rfl <;> exact ⟨rfl, rfl⟩
theorem convF (n : Int) (w : World) : (convert 3 22 (.int .i64 n)).run Try.prog w = .ok (.float .f64 (floatOfInt .f64 n)) w := by
  kernel_rfl

set_option maxRecDepth 100000 in
set_option maxHeartbeats 4000000 in
theorem rsector_any (u : Nat) (w : World) : Calls Try.prog 8 #[.float .f64 u] w fun e w' => e = .returned (.tuple #[.float .f64 (secX (cleanF u)), .float .f64 (secY (cleanF u)), .float .f64 (densF (secF (cleanF u)))]) ∧ w' = w := by
  have HC := hid (rclean_any u)
  obtain ⟨nc, c0, c1⟩ := clean_num u
  generalize cleanF u = c at *
  have S := sect nc c0 c1
  have hP : ∀ w, (binOp .mul 22 (.float .f64 4620693217682128896) (.float .f64 c)).run Try.prog w = .ok (.float .f64 (fmul w8 c)) w := fun w => run_mul_num w 22 num_w8 nc
  have hle := hid (fun (j : Nat) (hj : j ≤ 8) => sec_next nc c0 c1 hj)
  have hs : ∀ w, (binOp .sub 22 (.float .f64 (fmul w8 c)) (.float .f64 (floatOfInt .f64 (secK c : Int)))).run Try.prog w = .ok (.float .f64 (secF c)) w := fun w => run_sub_num w 22 S.n8 S.nk
  have hff : ∀ w, _ := fun w => run_mul_num (P := Try.prog) w 22 S.nf S.nf
  have hq : ∀ w, (binOp .add 22 (.float .f64 4607182418800017408) (.float .f64 (fmul (secF c) (secF c)))).run Try.prog w = .ok (.float .f64 (secQ (secF c))) w := fun w => run_add_num w 22 num_w1 S.nff
  have HR := hid (root_num S.sec.nq (by have := S.sec.q0; have := dl_le; grind))
  have hz : val (fsqrt (secQ (secF c))) ≠ 0 := by have h := S.sec.d0; unfold secD at h; clear HC hP hs hle HR hff hq; grind
  have hq1 : ∀ w, (binOp .quo 22 (.float .f64 4607182418800017408) (.float .f64 (fsqrt (secQ (secF c))))).run Try.prog w = .ok (.float .f64 (secC (secF c))) w := fun w => run_quo_num w 22 num_w1 S.sec.nd hz
  have hq2 : ∀ w, (binOp .quo 22 (.float .f64 (secF c)) (.float .f64 (fsqrt (secQ (secF c))))).run Try.prog w = .ok (.float .f64 (secS (secF c))) w := fun w => run_quo_num w 22 S.nf S.sec.nd hz
  have hn1 : ∀ w, _ := fun w => run_sub_num (P := Try.prog) w 22 num_zero S.sec.nc
  have hn2 : ∀ w, _ := fun w => run_sub_num (P := Try.prog) w 22 num_zero S.sec.ns
  have hp : ∀ w, (binOp .mul 22 (.float .f64 (secQ (secF c))) (.float .f64 4593671619917905920)).run Try.prog w = .ok (.float .f64 (densF (secF c))) w := fun w => run_mul_num w 22 S.sec.nq num_eighth
  have k7 := S.k7
  have hv := convF
  clear S nc c0 c1 hz
  unfold secX secY
  generalize densF (secF c) = p at *
  generalize secC (secF c) = C at *
  generalize secS (secF c) = Z at *
  generalize fsqrt (secQ (secF c)) = d at *
  generalize secQ (secF c) = q at *
  generalize fmul (secF c) (secF c) = ff at *
  generalize secF c = f at *
  generalize fmul w8 c = e8 at *
  generalize secK c = k at *
  have HK7 := aside k7
  have HL := aside (fun (i : Int) (h : i < k) (_ : 0 ≤ i) => (show leB (floatOfInt .f64 (i + 1)) e8 = true from by
    have := hle.out (i + 1).toNat (by omega)
    rw [show (((i + 1).toNat : Nat) : Int) = i + 1 by omega] at this
    rw [this]
    exact decide_eq_true (by omega)))
  have HG := aside (show leB (floatOfInt .f64 ((k : Int) + 1)) e8 = false from by
    have := hle.out (k + 1) (by omega)
    rw [show (((k + 1 : Nat) : Nat) : Int) = (k : Int) + 1 by omega] at this
    rw [this]
    exact decide_eq_false (by omega))
  have HS := aside hs
  clear hle k7 hs
  go_enter Try.func8, Try.ntmps8
  go_wp2_with fail
  refine Calls.mono (HC.out _) ?_
  rintro e w' ⟨rfl, hw⟩
  obtain rfl := hw.symm
  clear hw
  go_wp2_with fail
  go_loopg [6] k (fun g i wr => ∃ j : Int, 0 ≤ j ∧ g + j = k ∧ i = .int .i64 j ∧ wr = w)
  case atStart => exact ⟨0, by omega, by omega, rfl, rfl⟩
  case round =>
    obtain ⟨g0, hg0⟩ : ∃ g0, g0 = gk := ⟨_, rfl⟩
    subst hg0
    obtain ⟨j, hj0, hk, rfl, hwr⟩ := hrel
    obtain rfl := hwr.symm
    have HK := aside hk
    clear hk hwr
    have k7 := HK7.out
    cases g0 with
    | succ g =>
      have hlt : j < (k : Int) := by have := HK.out; omega
      have hd : (j < 7) = True := eq_true (by omega)
      have hl := HL.out j hlt hj0
      have hw : IntKind.i64.wrap (j + 1) = j + 1 := by rw [IntKind.wrap_i64]; omega
      replace hl : (FloatKind.f64.format.order (floatOfInt .f64 (j + 1)) e8 == some .lt || FloatKind.f64.format.order (floatOfInt .f64 (j + 1)) e8 == some .eq) = true := hl
      clear hlt
      go_wp2_with fail
      go_roundg g
      case measure => omega
      case rel => exact ⟨j + 1, by omega, by have := HK.out; omega, rfl, rfl⟩
    | zero =>
      have hjk : j = (k : Int) := by have := HK.out; omega
      have hl := HG.out
      have hs := HS.out
      rw [← hjk] at hl hs
      obtain ⟨m, hm⟩ : ∃ m, m = j + 1 := ⟨_, rfl⟩
      rw [← hm] at hl
      replace hl : (FloatKind.f64.format.order (floatOfInt .f64 m) e8 == some .lt || FloatKind.f64.format.order (floatOfInt .f64 m) e8 == some .eq) = false := hl
      have h8 : j = 0 ∨ j = 1 ∨ j = 2 ∨ j = 3 ∨ j = 4 ∨ j = 5 ∨ j = 6 ∨ j = 7 := by omega
      clear HK k7 HG HS HL HK7
      rcases h8 with rfl | rfl | rfl | rfl | rfl | rfl | rfl | rfl
      · obtain rfl : k = 0 := by omega
        obtain rfl : m = 1 := by omega
        clear hjk hj0 hm
        go_wp2_with fail
        refine Calls.mono (HR.out _) ?_
        rintro e w' ⟨rfl, hw⟩
        obtain rfl := hw.symm
        clear hw
        go_wp2_with fail
        exact bodyPost_ret (v := .tuple #[.float .f64 (dirX C Z 0), .float .f64 (dirY C Z 0), .float .f64 p]) (by simp [results, go_sem, dirX, dirY]) rfl ⟨rfl, rfl⟩
      · obtain rfl : k = 1 := by omega
        obtain rfl : m = 2 := by omega
        clear hjk hj0 hm
        go_wp2_with fail
        refine Calls.mono (HR.out _) ?_
        rintro e w' ⟨rfl, hw⟩
        obtain rfl := hw.symm
        clear hw
        go_wp2_with fail
        exact bodyPost_ret (v := .tuple #[.float .f64 (dirX C Z 1), .float .f64 (dirY C Z 1), .float .f64 p]) (by simp [results, go_sem, dirX, dirY]) rfl ⟨rfl, rfl⟩
      · obtain rfl : k = 2 := by omega
        obtain rfl : m = 3 := by omega
        clear hjk hj0 hm
        go_wp2_with fail
        refine Calls.mono (HR.out _) ?_
        rintro e w' ⟨rfl, hw⟩
        obtain rfl := hw.symm
        clear hw
        go_wp2_with fail
        exact bodyPost_ret (v := .tuple #[.float .f64 (dirX C Z 2), .float .f64 (dirY C Z 2), .float .f64 p]) (by simp [results, go_sem, dirX, dirY]) rfl ⟨rfl, rfl⟩
      · obtain rfl : k = 3 := by omega
        obtain rfl : m = 4 := by omega
        clear hjk hj0 hm
        go_wp2_with fail
        refine Calls.mono (HR.out _) ?_
        rintro e w' ⟨rfl, hw⟩
        obtain rfl := hw.symm
        clear hw
        go_wp2_with fail
        exact bodyPost_ret (v := .tuple #[.float .f64 (dirX C Z 3), .float .f64 (dirY C Z 3), .float .f64 p]) (by simp [results, go_sem, dirX, dirY]) rfl ⟨rfl, rfl⟩
      · obtain rfl : k = 4 := by omega
        obtain rfl : m = 5 := by omega
        clear hjk hj0 hm
        go_wp2_with fail
        refine Calls.mono (HR.out _) ?_
        rintro e w' ⟨rfl, hw⟩
        obtain rfl := hw.symm
        clear hw
        go_wp2_with fail
        exact bodyPost_ret (v := .tuple #[.float .f64 (dirX C Z 4), .float .f64 (dirY C Z 4), .float .f64 p]) (by simp [results, go_sem, dirX, dirY]) rfl ⟨rfl, rfl⟩
      · obtain rfl : k = 5 := by omega
        obtain rfl : m = 6 := by omega
        clear hjk hj0 hm
        go_wp2_with fail
        refine Calls.mono (HR.out _) ?_
        rintro e w' ⟨rfl, hw⟩
        obtain rfl := hw.symm
        clear hw
        go_wp2_with fail
        exact bodyPost_ret (v := .tuple #[.float .f64 (dirX C Z 5), .float .f64 (dirY C Z 5), .float .f64 p]) (by simp [results, go_sem, dirX, dirY]) rfl ⟨rfl, rfl⟩
      · obtain rfl : k = 6 := by omega
        obtain rfl : m = 7 := by omega
        clear hjk hj0 hm
        go_wp2_with fail
        refine Calls.mono (HR.out _) ?_
        rintro e w' ⟨rfl, hw⟩
        obtain rfl := hw.symm
        clear hw
        go_wp2_with fail
        exact bodyPost_ret (v := .tuple #[.float .f64 (dirX C Z 6), .float .f64 (dirY C Z 6), .float .f64 p]) (by simp [results, go_sem, dirX, dirY]) rfl ⟨rfl, rfl⟩
      · obtain rfl : k = 7 := by omega
        obtain rfl : m = 8 := by omega
        clear hjk hj0 hm
        go_wp2_with fail
        refine Calls.mono (HR.out _) ?_
        rintro e w' ⟨rfl, hw⟩
        obtain rfl := hw.symm
        clear hw
        go_wp2_with fail
        exact bodyPost_ret (v := .tuple #[.float .f64 (dirX C Z 7), .float .f64 (dirY C Z 7), .float .f64 p]) (by simp [results, go_sem, dirX, dirY]) rfl ⟨rfl, rfl⟩
end Go.Proofs.Ytnhilikcgfhkbaa
