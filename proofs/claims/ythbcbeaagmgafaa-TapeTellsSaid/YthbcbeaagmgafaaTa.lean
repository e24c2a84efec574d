/- Package tape: whether all numbers are within. -/
import Derived.Deep.LoopGhost
import Derived.Test.YthbcbeaagmgafaaRows
import Derived.Test.YthbcbeaagmgafaaLq
namespace Go.Proofs.Ythbcbeaagmgafaa
open Go.RowKit Fl

/-- All of them are from lo to hi. -/
def inB (lo hi : Int) (zs : List Int) : Bool := zs.all fun z => decide (lo ≤ z) && decide (z ≤ hi)

theorem inB_step {lo hi : Int} {zs : List Int} {k : Nat} (h : inB lo hi (zs.take k) = true) (hk : k < zs.length) (h1 : lo ≤ zs[k]) (h2 : zs[k] ≤ hi) : inB lo hi (zs.take (k + 1)) = true := by
  unfold inB at *
  rw [List.take_add_one, List.all_append, h, List.getElem?_eq_getElem hk]
  simp [h1, h2]
theorem inB_off {lo hi : Int} {zs : List Int} {k : Nat} (hk : k < zs.length) (h : zs[k] < lo ∨ hi < zs[k]) : inB lo hi zs = false := by
  unfold inB
  rw [List.all_eq_false]
  refine ⟨zs[k], List.getElem_mem hk, ?_⟩
  simp
  omega

set_option maxRecDepth 100000 in
set_option maxHeartbeats 1000000 in
theorem within_any (lo hi : Int) (zs : List Int) (b : Nat) (w : World) (hn : zs.length ≤ 100) (hc : ∀ k, k < zs.length → w.cell? ⟨b, k, none⟩ = some (.int .i64 (zs.getD k 0))) : Calls Try.prog 24 #[.int .i64 lo, .int .i64 hi, .slice (some ⟨b, 0, none⟩) zs.length zs.length] w fun e w' => e = .returned (.bool (inB lo hi zs)) ∧ w' = w := by
  go_enter Try.func24, Try.ntmps24
  go_wp2_with fail
  go_loop [11] (fun i => ∃ k : Nat, k ≤ zs.length ∧ i = .int .i64 k ∧ inB lo hi (zs.take k) = true) (fun i => zs.length - (intOf i).toNat)
  case atStart => exact ⟨0, Nat.zero_le _, rfl, rfl⟩
  case round =>
    obtain ⟨k, hk, rfl, hi⟩ := hrel
    have HI : Aside _ := hi
    clear hi
    have hcell : k < zs.length → w.cell? ⟨b, k, none⟩ = some (.int .i64 (zs.getD k 0)) := fun _ => hc k (by omega)
    have HC : Aside _ := hc
    clear hc
    go_wp2_with fail
    · have hl : k < zs.length := by assumption
      go_ret
      exact ⟨by rw [inB_off hl (by assumption)]; rfl, rfl⟩
    · have hl : k < zs.length := by assumption
      go_round
      case rel => exact ⟨k + 1, by omega, by go_num, inB_step HI.out hl (by omega) (by omega)⟩
      case measure => simp [intOf]; omega
    · have hl : k < zs.length := by assumption
      go_ret
      exact ⟨by rw [inB_off hl (.inl (by assumption))]; rfl, rfl⟩
    · have he : k = zs.length := by omega
      have h1 := HI.out
      rw [he, List.take_length] at h1
      go_ret
      exact ⟨by rw [h1]; rfl, rfl⟩
end Go.Proofs.Ythbcbeaagmgafaa
