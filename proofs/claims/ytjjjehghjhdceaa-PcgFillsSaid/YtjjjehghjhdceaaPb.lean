/- Package pcg: Next, State, New, and the reference's. -/
import Derived.Deep.LoopGhost
import Derived.Test.YtjjjehghjhdceaaRows
import Derived.Test.YtjjjehghjhdceaaPa
namespace Go.Proofs.Ytjjjehghjhdceaa
open Go.RowKit Fl

set_option maxRecDepth 100000 in
set_option maxHeartbeats 1000000 in
theorem next_any (s c : Int) (B : Nat) (w : World) (h0 : 0 ≤ s) (h1 : s < 18446744073709551616) (BG : Gn w B s c) : Calls Try.prog 12 #[.pointer (some ⟨B, 0, none⟩)] w fun e w' => e = .returned (.int .u32 (numF s)) ∧ Gn w' B (stepF s c) c ∧ But B w w' := by
  have kG := Lp.Bk.cell BG
  have HN : Hid _ := fun w => number_any s w h0 h1
  have HS : Hid _ := fun w => step_any s c B w
  generalize numF s = z at *
  generalize stepF s c = s1 at *
  go_enter Try.func12, Try.ntmps12
  go_wp2_with fail
  refine Calls.mono (HN.out _) ?_
  rintro e w' ⟨rfl, hw⟩
  obtain rfl := hw.symm
  clear hw
  go_wp2_with fail
  refine Calls.mono (HS.out _ BG) ?_
  rintro e w1 ⟨rfl, hG, hB⟩
  clear kG BG
  go_wp2_with fail
  go_ret
  exact ⟨rfl, hG, hB⟩

set_option maxRecDepth 100000 in
set_option maxHeartbeats 1000000 in
theorem next_nil (w : World) : Calls Try.prog 12 #[.pointer none] w fun e w' => e = .returned (.int .u32 0) ∧ w' = w := by
  go_enter Try.func12, Try.ntmps12
  go_wp2_with fail
  go_ret
  exact ⟨rfl, rfl⟩

theorem xor_range (a b : Int) : 0 ≤ bits .xor .u64 a b ∧ bits .xor .u64 a b < 18446744073709551616 := by
  unfold bits
  rw [IntKind.wrap_u64]
  omega

set_option maxRecDepth 100000 in
set_option maxHeartbeats 1000000 in
theorem rnext_any (s c : Int) (B : Nat) (w : World) (h0 : 0 ≤ s) (h1 : s < 18446744073709551616) (BG : Gx w B s c) : Calls Try.prog 13 #[.pointer (some ⟨B, 0, none⟩)] w fun e w' => e = .returned (.int .u32 (numF s)) ∧ Gx w' B (stepF s c) c ∧ But B w w' := by
  have kG := Lp.Bk.cell BG
  have HS : Hid _ := fun w => rstep_any s c B w
  have hx := xor_range (s / 262144) s
  unfold numF
  generalize stepF s c = s1 at *
  generalize hy : bits .xor .u64 (s / 262144) s = y at *
  obtain ⟨x0, x1⟩ := hx
  obtain ⟨n, hn⟩ : ∃ n : Nat, s / 576460752303423488 = n := ⟨(s / 576460752303423488).toNat, by omega⟩
  have hn2 : n < 32 := by omega
  rw [hn]
  have g0 : 0 ≤ y / 134217728 % 4294967296 := by omega
  have g1 : y / 134217728 % 4294967296 < 4294967296 := by omega
  generalize hX : y / 134217728 % 4294967296 = X at *
  go_enter Try.func13, Try.ntmps13
  go_wp2_with fail
  refine Calls.mono (HS.out _ BG) ?_
  rintro e w1 ⟨rfl, hG, hB⟩
  clear kG BG
  go_wp2_with fail
  simp only [hn, hX]
  have HX : Aside _ := g1
  have HX0 : Aside _ := g0
  clear g0 g1 x0 x1 hX hy hn
  go_loop [4, 6] (fun x i => ∃ j : Nat, j ≤ n ∧ i = .int .u64 j ∧ x = .int .u64 (turnF X j)) (fun _ i => n - (intOf i).toNat)
  case atStart => exact ⟨0, Nat.zero_le _, rfl, by rw [show ((0 : Nat) : Int) = 0 from rfl, turn_zero]⟩
  case round =>
    obtain ⟨j, hj, rfl, rfl⟩ := hrel
    have hr := turn_range (k := (j : Int)) HX0.out HX.out (by omega)
    have ht : j < 32 → turn1 (turnF X j) = turnF X ((j : Int) + 1) := turn_step X j
    have HT : Aside _ := ht
    clear ht
    by_cases hl : j < n
    · have hd : ((j : Int) < (n : Int)) = True := eq_true (by omega)
      generalize hx : turnF X (j : Int) = x at *
      obtain ⟨r0, r1⟩ := hr
      go_wp2_with fail
      go_round
      case rel => exact ⟨j + 1, by omega, by go_num, by rw [show ((j + 1 : Nat) : Int) = (j : Int) + 1 by omega, ← HT.out (by omega)]; rfl⟩
      case measure => simp [intOf]; omega
    · have hd : ((j : Int) < (n : Int)) = False := eq_false (by omega)
      obtain ⟨r0, r1⟩ := hr
      have he : j = n := by omega
      subst he
      generalize hx : turnF X (j : Int) = x at *
      go_wp2_with fail
      go_ret
      exact ⟨rfl, hG, hB⟩

/-- The stream, and the state, of a new generator. -/
def strF (c : Int) : Int := IntKind.u64.wrap (IntKind.u64.wrap (2 * c) + 1)
def newF (s c : Int) : Int := stepF (IntKind.u64.wrap (stepF 0 (strF c) + s)) (strF c)

set_option maxRecDepth 100000 in
set_option maxHeartbeats 1000000 in
theorem new_any (s c : Int) (w : World) : Calls Try.prog 6 #[.int .u64 s, .int .u64 c] w fun e w' => ∃ B, e = .returned (.pointer (some ⟨B, 0, none⟩)) ∧ w.heap.size ≤ B ∧ Gn w' B (newF s c) (strF c) ∧ Below w.heap.size w w' := by
  have HS : Hid _ := fun a b B w => step_any a b B w
  have HW : Hid (newF s c = stepF (IntKind.u64.wrap (stepF 0 (strF c) + s)) (strF c)) := rfl
  have hC : IntKind.u64.wrap (IntKind.u64.wrap (2 * c) + 1) = strF c := rfl
  generalize newF s c = z at *
  generalize strF c = C at *
  go_enter Try.func6, Try.ntmps6
  go_wp2_with fail
  refine Calls.mono (HS.out 0 C _ _ (Lp.Bk.al w #[.int .u64 0, .int .u64 C] 48)) ?_
  rintro e w1 ⟨rfl, hG, hB⟩
  have HB : Below w.heap.size w w1 := hB.below ((Below.refl _ _).alloc (Nat.le_refl _) _) (Nat.le_refl _) (by simp)
  clear hB
  generalize stepF 0 C = s1 at *
  have kG := Lp.Bk.cell hG
  have zG := Lp.Bk.frz hG
  go_wp2_with fail
  have hs := HB.size
  refine Calls.mono (HS.out _ C _ _ (Lp.Bk.set hG 0 _)) ?_
  rintro e w2 ⟨rfl, hG2, hB2⟩
  have HB2 : Below w.heap.size w w2 := hB2.below (HB.setCell (Nat.le_refl _) _) (Nat.le_refl _) (by simp; omega)
  clear hB2 kG zG hG HB
  rw [← HW.out] at hG2
  go_wp2_with fail
  go_ret
  exact ⟨_, rfl, Nat.le_refl _, hG2, HB2⟩

set_option maxRecDepth 100000 in
set_option maxHeartbeats 1000000 in
theorem rnew_any (s c : Int) (w : World) : Calls Try.prog 7 #[.int .u64 s, .int .u64 c] w fun e w' => ∃ B, e = .returned (.pointer (some ⟨B, 0, none⟩)) ∧ w.heap.size ≤ B ∧ Gx w' B (newF s c) (strF c) ∧ Below w.heap.size w w' := by
  have HS : Hid _ := fun a b B w => rstep_any a b B w
  have HW : Hid (newF s c = stepF (IntKind.u64.wrap (stepF 0 (strF c) + s)) (strF c)) := rfl
  have hC : IntKind.u64.wrap (IntKind.u64.wrap (2 * c) + 1) = strF c := rfl
  generalize newF s c = z at *
  generalize strF c = C at *
  go_enter Try.func7, Try.ntmps7
  go_wp2_with fail
  refine Calls.mono (HS.out 0 C _ _ (Lp.Bk.al w #[.int .u64 0, .int .u64 C] 33)) ?_
  rintro e w1 ⟨rfl, hG, hB⟩
  have HB : Below w.heap.size w w1 := hB.below ((Below.refl _ _).alloc (Nat.le_refl _) _) (Nat.le_refl _) (by simp)
  clear hB
  generalize stepF 0 C = s1 at *
  have kG := Lp.Bk.cell hG
  have zG := Lp.Bk.frz hG
  go_wp2_with fail
  have hs := HB.size
  refine Calls.mono (HS.out _ C _ _ (Lp.Bk.set hG 0 _)) ?_
  rintro e w2 ⟨rfl, hG2, hB2⟩
  have HB2 : Below w.heap.size w w2 := hB2.below (HB.setCell (Nat.le_refl _) _) (Nat.le_refl _) (by simp; omega)
  clear hB2 kG zG hG HB
  rw [← HW.out] at hG2
  go_wp2_with fail
  go_ret
  exact ⟨_, rfl, Nat.le_refl _, hG2, HB2⟩

end Go.Proofs.Ytjjjehghjhdceaa
