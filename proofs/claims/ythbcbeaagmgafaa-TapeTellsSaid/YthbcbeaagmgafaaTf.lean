/- Package tape: what a draw counts as; the reference's. -/
import Derived.Test.YthbcbeaagmgafaaTd
namespace Go.Proofs.Ythbcbeaagmgafaa
open Go.RowKit Fl

def oneW : Nat := 4607182418800017408
/-- Whether a draw counts. -/
def okB (x : Nat) : Bool := (ford x 0 == some .gt || ford x 0 == some .eq) && ford x 4607182418800017408 == some .lt
/-- What a draw counts as. -/
def cleanF (x : Nat) : Nat := if okB x then x else 0

set_option maxRecDepth 100000 in
set_option maxHeartbeats 1000000 in
theorem clean_any (x : Nat) (w : World) : Calls Try.prog 14 #[.float .f64 x] w fun e w' => e = .returned (.float .f64 (cleanF x)) ∧ w' = w := by
  unfold cleanF okB
  have hp : (FloatKind.f64.format.order x 0 == some .gt) = (ford x 0 == some .gt) := rfl
  have hq : (FloatKind.f64.format.order x 0 == some .eq) = (ford x 0 == some .eq) := rfl
  have hr : (FloatKind.f64.format.order x 4607182418800017408 == some .lt) = (ford x 4607182418800017408 == some .lt) := rfl
  generalize (ford x 0 == some .gt) = p at hp ⊢
  generalize (ford x 0 == some .eq) = q at hq ⊢
  generalize (ford x 4607182418800017408 == some .lt) = r at hr ⊢
  cases p <;> cases q <;> cases r <;>
  · go_enter Try.func14, Try.ntmps14
    go_wp2_with fail
    go_ret
    exact ⟨rfl, rfl⟩

set_option maxRecDepth 100000 in
set_option maxHeartbeats 1000000 in
theorem behind_any (i : Int) (h : i ≤ 9223372036854775807) (h0 : 0 ≤ i) (w : World) : Calls Try.prog 22 #[.int .i64 i] w fun e w' => e = .returned (.int .i64 (if i = 9223372036854775807 then i else i + 1)) ∧ w' = w := by
  by_cases hi : i = 9223372036854775807
  · rw [if_pos hi]
    go_enter Try.func22, Try.ntmps22
    go_wp2_with fail
    go_ret
    exact ⟨rfl, rfl⟩
  · rw [if_neg hi]
    go_enter Try.func22, Try.ntmps22
    go_wp2_with fail
    go_ret
    exact ⟨rfl, rfl⟩

set_option maxRecDepth 100000 in
set_option maxHeartbeats 1000000 in
theorem high_int (a b : Int) (w : World) : Calls Try.prog 10 #[.int .i64 a, .int .i64 b] w fun e w' => e = .returned (.int .i64 (max a b)) ∧ w' = w := by
  by_cases h : b < a
  · rw [Int.max_eq_left (by omega)]
    go_enter Try.func10, Try.ntmps10
    go_wp2_with fail
    go_ret
    exact ⟨rfl, rfl⟩
  · rw [Int.max_eq_right (by omega)]
    go_enter Try.func10, Try.ntmps10
    go_wp2_with fail
    go_ret
    exact ⟨rfl, rfl⟩
end Go.Proofs.Ythbcbeaagmgafaa
