/- Package tape: a list of draws in memory; the closure that counts; the reference's At. -/
import Derived.Test.YtmnemandmpoioaaRows
import Derived.Test.YtmnemandmpoioaaTf
namespace Go.Proofs.Ytmnemandmpoioaa
open Go.RowKit Fl

/-- v is a slice of these floats, in a block below T. -/
def Row (T : Nat) (w : World) (v : Value) (xs : List Nat) : Prop := ∃ ao cap, v = .slice ao xs.length cap ∧ xs.length ≤ 100 ∧ (xs = [] ∨ ∃ b off, ao = some ⟨b, off, none⟩ ∧ b < T ∧ ∀ k, k < xs.length → w.cell? ⟨b, off + k, none⟩ = some (.float .f64 (xs.getD k 0)))

theorem Row.keep {T : Nat} {w w' : World} {v : Value} {xs : List Nat} (h : Row T w v xs) (hb : Below T w w') : Row T w' v xs := by
  obtain ⟨ao, cap, hv, hl, h⟩ := h
  refine ⟨ao, cap, hv, hl, ?_⟩
  rcases h with h | ⟨b, off, ha, hT, hc⟩
  · exact .inl h
  · exact .inr ⟨b, off, ha, hT, fun k hk => (hb.cell (p := ⟨b, off + k, none⟩) hT).trans (hc k hk)⟩

theorem Row.mono {T T' : Nat} {w : World} {v : Value} {xs : List Nat} (h : Row T w v xs) (hT : T ≤ T') : Row T' w v xs := by
  obtain ⟨ao, cap, hv, hl, h⟩ := h
  refine ⟨ao, cap, hv, hl, ?_⟩
  rcases h with h | ⟨b, off, ha, hT2, hc⟩
  · exact .inl h
  · exact .inr ⟨b, off, ha, by omega, hc⟩

/-- The draw at a place. -/
def drawF (xs : List Nat) (i : Int) : Nat := if i < 0 then 0 else if (xs.length : Int) ≤ i then 0 else cleanF (xs.getD i.toNat 0)

/-- Of a word that is a number, and another, one of three. -/
theorem ford_three {x y : Nat} (h : isN x = false) (k : isN y = false) : ford x y = some .lt ∨ ford x y = some .eq ∨ ford x y = some .gt := by
  have hs : (ford x y).isSome = true := by
    unfold isN Ieee.Datum.isNaN at h k
    unfold ford Ieee.Format.order
    cases hr : F64.read x with
    | nan s f => simp [hr] at h
    | number s m e => cases hq : F64.read y with
      | nan s f => simp [hq] at k
      | number s m e => simp [Ieee.Datum.order]
      | infinity s => simp [Ieee.Datum.order]
    | infinity s => cases hq : F64.read y with
      | nan s f => simp [hq] at k
      | number s m e => simp [Ieee.Datum.order]
      | infinity s => simp [Ieee.Datum.order]
  cases h1 : ford x y with
  | none => rw [h1] at hs; cases hs
  | some o => cases o <;> simp

theorem isN_zero : isN 0 = false := by decide +kernel
theorem isN_one : isN 4607182418800017408 = false := by decide +kernel
/-- The reference's test is the other's. -/
theorem clean_key (x : Nat) : ((ford x 0 == some .lt || (ford x 4607182418800017408 == some .gt || ford x 4607182418800017408 == some .eq)) || !(ford x x == some .eq)) = !okB x := by
  unfold okB
  rw [ford_self]
  cases h : isN x
  · rcases ford_three h isN_zero with k | k | k <;> rcases ford_three h isN_one with l | l | l <;> rw [k, l] <;> decide
  · rw [ord_nan_left h, ord_nan_left h]; decide

set_option maxRecDepth 100000 in
set_option maxHeartbeats 2000000 in
theorem rclean_any (x : Nat) (w : World) : Calls Try.prog 15 #[.float .f64 x] w fun e w' => e = .returned (.float .f64 (cleanF x)) ∧ w' = w := by
  have hk := clean_key x
  have hc : cleanF x = if okB x then x else 0 := rfl
  generalize okB x = ok at hk hc
  rw [hc]
  clear hc
  have hp : (FloatKind.f64.format.order x 0 == some .lt) = (ford x 0 == some .lt) := rfl
  have hq : (FloatKind.f64.format.order x 4607182418800017408 == some .gt) = (ford x 4607182418800017408 == some .gt) := rfl
  have hr : (FloatKind.f64.format.order x 4607182418800017408 == some .eq) = (ford x 4607182418800017408 == some .eq) := rfl
  have hs : (FloatKind.f64.format.order x x != some .eq) = !(ford x x == some .eq) := rfl
  generalize (ford x 0 == some .lt) = p at *
  generalize (ford x 4607182418800017408 == some .gt) = q at *
  generalize (ford x 4607182418800017408 == some .eq) = r at *
  generalize (ford x x == some .eq) = s at *
  cases p <;> cases q <;> cases r <;> cases s <;> cases ok <;> first | (exact absurd hk (by decide)) | skip
  all_goals
    clear hk
    go_enter Try.func15, Try.ntmps15
    go_wp2_with fail
    go_ret
    exact ⟨rfl, rfl⟩

end Go.Proofs.Ytmnemandmpoioaa