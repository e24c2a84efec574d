/- Package pcg: numbers turned within 32 bits; a generator in memory; number, step, State, New and the reference's. -/
import Derived.Deep.LoopGhost
import Derived.Laws.BitsLemmas
import Derived.Laws.Bits64
import Derived.Test.YtjjjehghjhdceaaRows
import Derived.Test.YtjjjehghjhdceaaLq
namespace Go.Proofs.Ytjjjehghjhdceaa
open Go.RowKit Fl

/-- x turned right by k places, within 32 bits. -/
def turnF (x k : Int) : Int := x / 2 ^ k.toNat + x % 2 ^ k.toNat * 2 ^ (32 - k.toNat)
/-- By one place. -/
def turn1 (x : Int) : Int := x / 2 + x % 2 * 2147483648

theorem turn_zero (x : Int) : turnF x 0 = x := by simp [turnF, Int.emod_one]
theorem two_pow_pos (n : Nat) : (0 : Int) < 2 ^ n := Int.pow_pos (by decide)
theorem two_pow_add (a b : Nat) : (2 : Int) ^ (a + b) = 2 ^ a * 2 ^ b := Int.pow_add 2 a b

theorem turn_step (x : Int) (k : Nat) (hk : k < 32) : turn1 (turnF x k) = turnF x ((k : Int) + 1) := by
  have e1 : ((k : Int) + 1).toNat = k + 1 := by omega
  have e0 : (k : Int).toNat = k := by omega
  unfold turnF turn1
  rw [e1, e0]
  have hj : ∃ j, k + j = 31 := ⟨31 - k, by omega⟩
  obtain ⟨j, hj⟩ := hj
  rw [show 32 - k = j + 1 by omega, show 32 - (k + 1) = j by omega, two_pow_add j 1, two_pow_add k 1]
  have hM : (2 : Int) ^ k * 2 ^ j = 2147483648 := by rw [← two_pow_add, hj]; rfl
  have hK := two_pow_pos k
  generalize (2 : Int) ^ j = M at *
  generalize (2 : Int) ^ k = K at *
  have d1 : x / (K * 2 ^ 1) = x / K / 2 := by rw [Int.ediv_ediv_of_nonneg (Int.le_of_lt hK)]; rfl
  have d2 : x % (K * 2 ^ 1) = K * (x / K % 2) + x % K := by
    have a1 := Int.mul_ediv_add_emod x K
    have a2 := Int.mul_ediv_add_emod (x / K) 2
    have a3 := Int.mul_ediv_add_emod x (K * 2 ^ 1)
    rw [d1] at a3
    grind
  rw [d1, d2]
  generalize x / K = q at *
  generalize x % K = r at *
  have h2 : r * (M * 2 ^ 1) = 2 * (r * M) := by grind
  have h3 : (K * (q % 2) + r) * M = 2147483648 * (q % 2) + r * M := by rw [← hM]; grind
  rw [h2, h3]
  generalize r * M = z
  omega

theorem turn_range {x k : Int} (h0 : 0 ≤ x) (h1 : x < 4294967296) (hk : k ≤ 32) : 0 ≤ turnF x k ∧ turnF x k < 4294967296 := by
  unfold turnF
  have hj : ∃ j, k.toNat + j = 32 := ⟨32 - k.toNat, by omega⟩
  obtain ⟨j, hj⟩ := hj
  rw [show 32 - k.toNat = j by omega]
  have hM : (2 : Int) ^ k.toNat * 2 ^ j = 4294967296 := by rw [← two_pow_add, hj]; rfl
  have hK := two_pow_pos k.toNat
  have hJ := two_pow_pos j
  generalize (2 : Int) ^ j = M at *
  generalize (2 : Int) ^ k.toNat = K at *
  have a1 := Int.ediv_nonneg h0 (Int.le_of_lt hK)
  have a2 := Int.emod_nonneg x (Int.ne_of_gt hK)
  have a3 := Int.emod_lt_of_pos x hK
  have a4 : x / K < M := Int.ediv_lt_of_lt_mul hK (by rw [Int.mul_comm, hM]; exact h1)
  have a5 : 0 ≤ x % K * M := Int.mul_nonneg a2 (Int.le_of_lt hJ)
  have a6 : (x % K + 1) * M ≤ K * M := Int.mul_le_mul_of_nonneg_right (by omega) (Int.le_of_lt hJ)
  rw [Int.add_mul, Int.one_mul, hM] at a6
  omega

theorem wraps_u32 (n : Int) (h₀ : 0 ≤ n) (h₁ : n < 2 ^ 32) : IntKind.u32.wrap n = n := by rw [IntKind.wrap_u32]; omega
theorem wraps_u64 (n : Int) (h₀ : 0 ≤ n) (h₁ : n < 2 ^ 64) : IntKind.u64.wrap n = n := by rw [IntKind.wrap_u64]; omega

/-- What is turned left by what lacks to 32 is turned right. -/
theorem turn_left {x k j : Int} (h0 : 0 ≤ x) (h1 : x < 4294967296) (hk : 0 ≤ k) (hj : j = (32 - k) % 32) (hk2 : k < 32) :
    bits .or .u32 (x * 2 ^ j.toNat % 4294967296) (x / 2 ^ (32 - j).toNat) = turnF x k := by
  by_cases hz : k = 0
  · subst hz
    have : j = 0 := by omega
    subst this
    rw [turn_zero]
    have e1 : x * 2 ^ (0 : Int).toNat % 4294967296 = x := by show x * 1 % 4294967296 = x; omega
    have e2 : x / 2 ^ ((32 : Int) - 0).toNat = 0 := by show x / 4294967296 = 0; omega
    rw [e1, e2, bits_join .u32 32 (by decide) wraps_u32 0 x 0 h0 (by simp [Int.emod_one]) h1 (by decide) (by decide) (by decide)]
    omega
  · have hj2 : j = 32 - k := by omega
    subst hj2
    obtain ⟨n, rfl⟩ : ∃ n : Nat, k = n := ⟨k.toNat, by omega⟩
    rw [show ((32 : Int) - (32 - (n : Int))).toNat = n by omega, show ((32 : Int) - (n : Int)).toNat = 32 - n by omega]
    unfold turnF
    rw [show (n : Int).toNat = n by omega]
    have hM : (2 : Int) ^ n * 2 ^ (32 - n) = 4294967296 := by rw [← two_pow_add, show n + (32 - n) = 32 by omega]; rfl
    have hK := two_pow_pos n
    have hJ := two_pow_pos (32 - n)
    have e1 : x * 2 ^ (32 - n) % 4294967296 = x % 2 ^ n * 2 ^ (32 - n) := by
      rw [← hM, Int.mul_comm x, Int.mul_comm (2 ^ n), Int.mul_emod_mul_of_pos _ _ hJ, Int.mul_comm]
    have a1 := Int.ediv_nonneg h0 (Int.le_of_lt hK)
    have a2 := Int.emod_nonneg x (Int.ne_of_gt hK)
    have a3 := Int.emod_lt_of_pos x hK
    have a4 : x / 2 ^ n < 2 ^ (32 - n) := Int.ediv_lt_of_lt_mul hK (by rw [Int.mul_comm, hM]; exact h1)
    have a5 : 0 ≤ x % 2 ^ n * 2 ^ (32 - n) := Int.mul_nonneg a2 (Int.le_of_lt hJ)
    have a6 : (x % 2 ^ n + 1) * 2 ^ (32 - n) ≤ 2 ^ n * 2 ^ (32 - n) := Int.mul_le_mul_of_nonneg_right (by omega) (Int.le_of_lt hJ)
    have a7 : x / 2 ^ n ≤ x := Int.ediv_le_self _ h0
    rw [Int.add_mul, Int.one_mul, hM] at a6
    rw [e1, bits_join .u32 32 (by decide) wraps_u32 (32 - n) _ _ a5 (by rw [Int.mul_emod_left]) (by show _ < (4294967296 : Int); omega) a1 a4 (by show _ < (4294967296 : Int); omega), Int.add_comm]

theorem turn_mask {k : Int} (_h0 : 0 ≤ k) (_h1 : k < 32) : bits .and .u64 (IntKind.u64.wrap (-k)) 31 = (32 - k) % 32 := by
  have h := bits_mask .u64 64 (by decide) wraps_u64 5 (by decide) (IntKind.u64.wrap (-k)) (by rw [IntKind.wrap_u64]; omega) (by rw [IntKind.wrap_u64]; show _ < (18446744073709551616 : Int); omega)
  rw [show (2 : Int) ^ 5 - 1 = 31 from rfl, show (2 : Int) ^ 5 = 32 from rfl] at h
  rw [h, IntKind.wrap_u64]
  omega

set_option maxRecDepth 100000 in
set_option maxHeartbeats 1000000 in
theorem rot_any (x k : Int) (w : World) (h0 : 0 ≤ x) (h1 : x < 4294967296) (hk : 0 ≤ k) (hk2 : k < 32) : Calls Try.prog 21 #[.int .u32 x, .int .i64 (-k)] w fun e w' => e = .returned (.int .u32 (turnF x k)) ∧ w' = w := by
  have hj := turn_mask hk hk2
  have hl := turn_left h0 h1 hk rfl hk2
  have g0 : 0 ≤ (32 - k) % 32 := by omega
  have g1 : (32 - k) % 32 < 32 := by omega
  generalize (32 - k) % 32 = j at *
  have HL : Hid _ := hl
  clear hl
  go_enter Try.func21, Try.ntmps21
  go_wp2_with fail
  go_ret
  exact ⟨congrArg (fun z => Ending.returned (Value.int .u32 z)) HL.out, rfl⟩

/-- The number of a state. -/
def numF (s : Int) : Int := turnF (bits .xor .u64 (s / 262144) s / 134217728 % 4294967296) (s / 576460752303423488)
/-- The state behind a step. -/
def stepF (s c : Int) : Int := IntKind.u64.wrap (IntKind.u64.wrap (s * 6364136223846793005) + c)

theorem step_range (s c : Int) : 0 ≤ stepF s c ∧ stepF s c < 18446744073709551616 := by
  unfold stepF
  rw [IntKind.wrap_u64]
  omega
theorem num_range {s : Int} (h0 : 0 ≤ s) (h1 : s < 18446744073709551616) : 0 ≤ numF s ∧ numF s < 4294967296 := turn_range (by omega) (by omega) (by omega)

set_option maxRecDepth 100000 in
set_option maxHeartbeats 1000000 in
theorem number_any (s : Int) (w : World) (h0 : 0 ≤ s) (h1 : s < 18446744073709551616) : Calls Try.prog 18 #[.int .u64 s] w fun e w' => e = .returned (.int .u32 (numF s)) ∧ w' = w := by
  have HR : Hid _ := fun w => rot_any (bits .xor .u64 (s / 262144) s / 134217728 % 4294967296) (s / 576460752303423488) w (by omega) (by omega) (by omega) (by omega)
  have g0 : 0 ≤ s / 576460752303423488 := by omega
  have g1 : s / 576460752303423488 < 32 := by omega
  show Calls _ _ _ w fun e w' => e = .returned (.int .u32 (turnF (bits .xor .u64 (s / 262144) s / 134217728 % 4294967296) (s / 576460752303423488))) ∧ w' = w
  generalize hk : s / 576460752303423488 = k at *
  generalize turnF _ k = z at *
  go_enter Try.func18, Try.ntmps18
  go_wp2_with fail
  refine Calls.mono (HR.out _) ?_
  rintro e w' ⟨rfl, hw⟩
  obtain rfl := hw.symm
  clear hw
  go_wp2_with fail
  go_ret
  exact ⟨rfl, rfl⟩

/-- All blocks but B are as they were. -/
structure But (B : Nat) (w w' : World) : Prop where
  os : w'.os = w.os
  tape : w'.tape = w.tape
  output : w'.output = w.output
  size : w.heap.size ≤ w'.heap.size
  block : ∀ k, k < w.heap.size → k ≠ B → w'.heap[k]? = w.heap[k]?
theorem But.refl (B : Nat) (w : World) : But B w w := ⟨rfl, rfl, rfl, Nat.le_refl _, fun _ _ _ => rfl⟩
theorem But.trans {B : Nat} {a b c : World} (h : But B a b) (k : But B b c) : But B a c :=
  ⟨k.os.trans h.os, k.tape.trans h.tape, k.output.trans h.output, Nat.le_trans h.size k.size, fun i hi hn => (k.block i (Nat.lt_of_lt_of_le hi h.size) hn).trans (h.block i hi hn)⟩
theorem But.of {B : Nat} {w w' : World} (h : Below w.heap.size w w') : But B w w' := ⟨h.os, h.tape, h.output, h.size, fun k hk _ => h.block k hk⟩
theorem But.set (B i : Nat) (w : World) (u : Value) : But B w (w.setCell ⟨B, i, none⟩ u) := ⟨rfl, rfl, rfl, by simp [World.setCell], fun k _ hn => Below.heap_setCell _ _ _ _ hn⟩
theorem But.keep {B b : Nat} {w w' : World} {vs : Array Value} {t : TypeId} (h : But B w w') (hb : Lp.Bk w b vs t) (hn : b ≠ B) : Lp.Bk w' b vs t := (h.block b hb.lt hn).trans hb
theorem But.below {B T : Nat} {W w w' : World} (h : But B w w') (hb : Below T W w) (hT : T ≤ B) (hs : T ≤ w.heap.size) : Below T W w' :=
  hb.trans ⟨h.os, h.tape, h.output, h.size, fun k hk => h.block k (by omega) (by omega)⟩

/-- A generator at block B; the reference's. -/
def Gn (w : World) (B : Nat) (s c : Int) : Prop := Lp.Bk w B #[.int .u64 s, .int .u64 c] 48
def Gx (w : World) (B : Nat) (s c : Int) : Prop := Lp.Bk w B #[.int .u64 s, .int .u64 c] 33

set_option maxRecDepth 100000 in
set_option maxHeartbeats 1000000 in
theorem step_any (s c : Int) (B : Nat) (w : World) (BG : Gn w B s c) : Calls Try.prog 17 #[.pointer (some ⟨B, 0, none⟩)] w fun e w' => e = .returned (.tuple #[]) ∧ Gn w' B (stepF s c) c ∧ But B w w' := by
  have kG := Lp.Bk.cell BG
  have zG := Lp.Bk.frz BG
  go_enter Try.func17, Try.ntmps17
  go_wp2_with fail
  apply Lp.wp_region_loose _ _ 11 (by kernel_rfl) (by kernel_rfl) (by kernel_rfl) (Below.refl _ _)
  apply Lp.facts
  · intro w1 hw
    exact (Lp.Bk.cl BG hw).cell
  intro HF
  iterate 11 (
    apply Lp.one ?_ rfl
    · intro w hw
      have k0 := HF.out _ hw
      go_simp
      exact rfl
    intro K hK
    go_simp
    refine hK.out _ ?_
    clear hK K)
  rotate_left
  exact []
  intro v1 hm
  replace BG := Lp.Bk.keep BG hm
  clear kG zG
  have kG := Lp.Bk.cell BG
  have zG := Lp.Bk.frz BG
  go_wp2_with fail
  go_end0
  exact ⟨rfl, BG.set 0 _, (But.of hm).trans (But.set _ _ _ _)⟩

set_option maxRecDepth 100000 in
set_option maxHeartbeats 1000000 in
theorem rstep_any (s c : Int) (B : Nat) (w : World) (BG : Gx w B s c) : Calls Try.prog 10 #[.pointer (some ⟨B, 0, none⟩)] w fun e w' => e = .returned (.tuple #[]) ∧ Gx w' B (stepF s c) c ∧ But B w w' := by
  have kG := Lp.Bk.cell BG
  have zG := Lp.Bk.frz BG
  go_enter Try.func10, Try.ntmps10
  go_wp2_with fail
  apply Lp.wp_region_loose _ _ 11 (by kernel_rfl) (by kernel_rfl) (by kernel_rfl) (Below.refl _ _)
  apply Lp.facts
  · intro w1 hw
    exact (Lp.Bk.cl BG hw).cell
  intro HF
  iterate 11 (
    apply Lp.one ?_ rfl
    · intro w hw
      have k0 := HF.out _ hw
      go_simp
      exact rfl
    intro K hK
    go_simp
    refine hK.out _ ?_
    clear hK K)
  rotate_left
  exact []
  intro v1 hm
  replace BG := Lp.Bk.keep BG hm
  clear kG zG
  have kG := Lp.Bk.cell BG
  have zG := Lp.Bk.frz BG
  go_wp2_with fail
  go_end0
  exact ⟨rfl, BG.set 0 _, (But.of hm).trans (But.set _ _ _ _)⟩

end Go.Proofs.Ytjjjehghjhdceaa
