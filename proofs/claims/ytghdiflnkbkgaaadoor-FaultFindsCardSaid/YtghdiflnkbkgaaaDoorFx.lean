/- The document's own answers of a chain: Has and Line. -/
import Derived.Test.YtghdiflnkbkgaaaDoorFv
namespace Go.Proofs.YtghdiflnkbkgaaaDoor
open Go.RowKit

theorem hasC_any (tc : Int) (R : List (Int × Int)) : hasC none tc R = R.any (fun p => p.1 == tc) := by
  induction R with
  | nil => rfl
  | cons p r ih => obtain ⟨c, l⟩ := p; simp [hasC, ih]

theorem hasC_rev (tc : Int) (I : List (Int × Int)) : hasC none tc I.reverse = I.any (fun p => p.1 == tc) := by rw [hasC_any, List.any_reverse]

/-- The first line that is not 0. -/
def firstNZ : List (Int × Int) → Int
  | [] => 0
  | (_, l) :: r => if l = 0 then firstNZ r else l

theorem goes_line (R : List (Int × Int)) : ∀ d, (goes lineStep none 0 R d).1 = firstNZ R := by
  induction R with
  | nil => intro d; rfl
  | cons p r ih =>
    obtain ⟨c, l⟩ := p
    intro d
    by_cases h : l = 0
    · subst h; simp [goes, lineStep, firstNZ, ih]
    · simp [goes, lineStep, firstNZ, h]

theorem goes_depth (R : List (Int × Int)) : ∀ d : Int, (goes depthStep none (d - 1) R d).1 = d - 1 + R.length := by
  induction R with
  | nil => intro d; simp [goes]
  | cons p r ih =>
    obtain ⟨c, l⟩ := p
    intro d
    have h : max (d - 1) d = d + 1 - 1 := by omega
    simp only [goes, depthStep, h, if_true, List.length_cons]
    rw [ih (d + 1)]
    omega

theorem take_rev (I : List (Int × Int)) (j : Nat) (h : j < I.length) : (I.take (j + 1)).reverse = (I[j]'h) :: (I.take j).reverse := by
  rw [List.take_succ_eq_append_getElem h]; simp

set_option maxRecDepth 100000 in
set_option maxHeartbeats 400000 in
theorem has_any (g cap : Nat) (I : List (Int × Int)) (tc : Int) (hI : I.length ≤ 40) (w : World) (hc : ∀ j (h : j < I.length), w.cell? ⟨g, j * 2, none⟩ = some (.int .i64 (I[j]'h).1)) :
    Calls Tryd.prog 12 #[.slice (some ⟨g, 0, none⟩) I.length cap, .int .i64 tc] w fun e w' => e = .returned (.bool (hasC none tc I.reverse)) ∧ w' = w := by
  rw [hasC_rev]
  obtain ⟨n, hn⟩ : ∃ n, n = I.length := ⟨_, rfl⟩
  rw [← hn]
  go_enter Tryd.func12, Tryd.ntmps12
  go_wp2
  go_loop [5] (fun i => ∃ k : Nat, k ≤ n ∧ i = .int .i64 k ∧ (I.take k).any (fun p => p.1 == tc) = false) (fun i => n - (intOf i).toNat)
  case atStart => exact ⟨0, Nat.zero_le _, rfl, by simp⟩
  case round =>
    obtain ⟨k, hk, rfl, hno⟩ := hrel
    have HN : Hid _ := hno
    have HI : Hid _ := hn
    have hn40 : n ≤ 40 := by omega
    clear hno
    by_cases hlt : k < n
    · have hx := hc k (by omega)
      have hk' : (k : Int) < (n : Int) := by omega
      have HT : Hid _ := List.take_succ_eq_append_getElem (l := I) (i := k) (by omega)
      have HG : Hid (I[k]'(by omega) ∈ I) := List.getElem_mem _
      generalize I[k]'(by omega) = pk at hx HT HG
      clear hn
      cases heq : (pk.1 == tc)
      · go_wp2
        go_round
        case rel => exact ⟨k + 1, by omega, by go_num, by rw [HT.out, List.any_append, HN.out]; simp [heq]⟩
        case measure => simp [intOf]; omega
      · go_wp2
        go_ret
        refine ⟨?_, rfl⟩
        have : I.any (fun p => p.1 == tc) = true := List.any_eq_true.2 ⟨pk, HG.out, heq⟩
        rw [this]; rfl
    · clear hn
      go_wp2
      go_ret
      refine ⟨?_, rfl⟩
      have : I.take k = I := List.take_of_length_le (by have := HI.out; omega)
      have h2 := HN.out
      rw [this] at h2
      rw [h2]; rfl

set_option maxRecDepth 100000 in
set_option maxHeartbeats 400000 in
theorem rline_any (g cap : Nat) (I : List (Int × Int)) (hI : I.length ≤ 40) (w : World) (hc : ∀ j (h : j < I.length), w.cell? ⟨g, j * 2 + 1, none⟩ = some (.int .i64 (I[j]'h).2)) :
    Calls Tryd.prog 13 #[.slice (some ⟨g, 0, none⟩) I.length cap] w fun e w' => e = .returned (.int .i64 (firstNZ I.reverse)) ∧ w' = w := by
  obtain ⟨n, hn⟩ : ∃ n, n = I.length := ⟨_, rfl⟩
  rw [← hn]
  have hn40 : n ≤ 40 := by omega
  have HI : Hid (n = I.length) := hn
  have HC : Hid _ := hc
  clear hn hc
  go_enter Tryd.func13, Tryd.ntmps13
  go_wp2
  go_loop [3] (fun i => ∃ j : Nat, j ≤ n ∧ i = .int .i64 ((j : Int) - 1) ∧ firstNZ I.reverse = firstNZ (I.take j).reverse) (fun i => (intOf i + 1).toNat)
  case atStart => exact ⟨n, Nat.le_refl _, rfl, by rw [List.take_of_length_le (by have := HI.out; omega)]⟩
  case round =>
    obtain ⟨j, hj, rfl, hf⟩ := hrel
    have HF : Hid _ := hf
    clear hf
    cases j with
    | zero =>
      go_wp2
      go_ret
      exact ⟨by rw [HF.out]; rfl, rfl⟩
    | succ j =>
      have hjl : j < I.length := by have := HI.out; omega
      have e1 : ((j + 1 : Nat) : Int) - 1 = (j : Int) := by omega
      rw [e1]
      have hx := HC.out j hjl
      have hk' : (j : Int) < (n : Int) := by omega
      have HT : Hid _ := take_rev I j hjl
      generalize I[j]'hjl = pk at hx HT
      obtain ⟨c, l⟩ := pk
      clear e1
      by_cases hl : l = 0
      · subst hl
        go_wp2
        go_round
        case rel => exact ⟨j, by omega, rfl, by rw [HF.out, HT.out, firstNZ, if_pos rfl]⟩
        case measure => simp [intOf]
      · have hl' : (l != 0) = true := by simpa using hl
        go_wp2
        go_ret
        exact ⟨by rw [HF.out, HT.out, firstNZ, if_neg hl]; rfl, rfl⟩
end Go.Proofs.YtghdiflnkbkgaaaDoor
