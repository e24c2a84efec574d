/- The text of a code: api.number and Errno.Error. -/
import Derived.Test.YtghdiflnkbkgaaaDoorFs
import Derived.Deep.RegionHeld
import Derived.Laws.BytesArg
namespace Go.Proofs.YtghdiflnkbkgaaaDoor
open Go.RowKit

theorem below_step {a b c : World} (h : Below a.heap.size a b) (k : Below b.heap.size b c) : Below a.heap.size a c := h.trans (k.mono h.size)

theorem cvt1 (W : World) (b : Nat) (x : Int) (h : W.cell? ⟨b, 0, none⟩ = some (.int .u8 x)) : (convert 82 9 (.slice (some ⟨b, 0, none⟩) 1 1)).run Tryd.prog W = .ok (.string (strOfNums [x])) W :=
  run_convert_bytes_arg W 82 5 Tryd.underlying82 Tryd.underlying5 b 0 1 1 [x] rfl (fun i hi => by
    obtain rfl : i = 0 := by omega
    exact h) 9 Tryd.underlying9

set_option maxRecDepth 100000 in
set_option maxHeartbeats 400000 in
theorem num_q (n : Int) (h : n < 0 ∨ 9999 < n) (w : World) : Calls Tryd.prog 42 #[.int .i64 n] w fun e w' => (∃ s : ByteArray, e = .returned (.string s) ∧ s.size ≤ 1) ∧ Below w.heap.size w w' := by
  rcases h with h | h
  · go_enter Tryd.func42, Tryd.ntmps42
    go_wp2_with fail
    go_ret
    exact ⟨⟨_, rfl, by decide⟩, Below.refl _ _⟩
  · have h' : ¬ n < 0 := by omega
    go_enter Tryd.func42, Tryd.ntmps42
    go_wp2_with fail
    go_ret
    exact ⟨⟨_, rfl, by decide⟩, Below.refl _ _⟩

set_option maxRecDepth 100000 in
set_option maxHeartbeats 400000 in
theorem num_one (n : Int) (h0 : 0 ≤ n) (h1 : n < 10) (w : World) : Calls Tryd.prog 42 #[.int .i64 n] w fun e w' => (∃ s : ByteArray, e = .returned (.string s) ∧ s.size ≤ 1) ∧ Below w.heap.size w w' := by
  have h' : ¬ n < 0 := by omega
  have h2 : ¬ 9999 < n := by omega
  have hv := cvt1
  go_enter Tryd.func42, Tryd.ntmps42
  go_wp2_with fail
  go_ret
  exact ⟨⟨_, rfl, by rw [strOfNums_size]; simp⟩, (Below.refl _ _).alloc (Nat.le_refl _) _⟩

set_option maxRecDepth 100000 in
set_option maxHeartbeats 400000 in
theorem num_more (n q : Int) (m : Nat) (hm : m < 100) (hq : IntKind.i64.wrap (n.tdiv 10) = q) (h0 : 10 ≤ n) (h1 : n ≤ 9999) (w : World)
    (ih : ∀ w, Calls Tryd.prog 42 #[.int .i64 q] w fun e w' => (∃ s : ByteArray, e = .returned (.string s) ∧ s.size ≤ m) ∧ Below w.heap.size w w') :
    Calls Tryd.prog 42 #[.int .i64 n] w fun e w' => (∃ s : ByteArray, e = .returned (.string s) ∧ s.size ≤ m + 1) ∧ Below w.heap.size w w' := by
  have h' : ¬ n < 0 := by omega
  have h2 : ¬ 9999 < n := by omega
  have h3 : ¬ n < 10 := by omega
  have hv := cvt1
  have IH : Hid _ := ih
  clear ih
  go_enter Tryd.func42, Tryd.ntmps42
  go_wp2_with fail
  go_region_held (fun w' => Below w.heap.size w w') (first | assumption | exact (Below.refl _ _).drew | exact Below.alloc (by assumption) (Below.size (by assumption)) _)
   (first
    | (go_at_call 42; refine Calls.mono (IH.out _) ?_; rintro e w1 ⟨⟨s, rfl, hs⟩, hb⟩; have hS1 : Below w.heap.size w w1 := below_step (by assumption) hb; have hcc := fun b o (h : b < _) => hb.cell (p := ⟨b, o, none⟩) h; clear hb; simp at hcc; have hadd : ∀ x, ¬ 9223372036854775807 < s.size + (strOfNums [x]).size := fun x => (by rw [strOfNums_size]; simp; omega))
    | fail)
  all_goals
    go_wp2
    go_ret
    exact ⟨⟨_, rfl, by rw [ByteArray.size_append, strOfNums_size]; simp; omega⟩, by assumption⟩

theorem wrap_q (n : Int) (h0 : 0 ≤ n) (h1 : n ≤ 9999) : IntKind.i64.wrap (n.tdiv 10) = n / 10 := by
  rw [IntKind.wrap_i64, Int.tdiv_eq_ediv_of_nonneg h0]
  omega

theorem num_any (n : Int) (w : World) : Calls Tryd.prog 42 #[.int .i64 n] w fun e w' => (∃ s : ByteArray, e = .returned (.string s) ∧ s.size ≤ 4) ∧ Below w.heap.size w w' := by
  have up : ∀ (m : Nat) (n : Int) (w : World), m ≤ 4 → (Calls Tryd.prog 42 #[.int .i64 n] w fun e w' => (∃ s : ByteArray, e = .returned (.string s) ∧ s.size ≤ m) ∧ Below w.heap.size w w') →
      Calls Tryd.prog 42 #[.int .i64 n] w fun e w' => (∃ s : ByteArray, e = .returned (.string s) ∧ s.size ≤ 4) ∧ Below w.heap.size w w' := fun m n w hm h =>
    h.mono fun e w' ⟨⟨s, h1, h2⟩, h3⟩ => ⟨⟨s, h1, by omega⟩, h3⟩
  have h1 : ∀ (n : Int) (w : World), 0 ≤ n → n < 10 → _ := fun n w a b => num_one n a b w
  have h2 : ∀ (n : Int) (w : World), 10 ≤ n → n < 100 → _ := fun n w a b => num_more n (n / 10) 1 (by omega) (wrap_q n (by omega) (by omega)) a (by omega) w (fun w => h1 (n / 10) w (by omega) (by omega))
  have h3 : ∀ (n : Int) (w : World), 100 ≤ n → n < 1000 → _ := fun n w a b => num_more n (n / 10) 2 (by omega) (wrap_q n (by omega) (by omega)) (by omega) (by omega) w (fun w => h2 (n / 10) w (by omega) (by omega))
  have h4 : ∀ (n : Int) (w : World), 1000 ≤ n → n ≤ 9999 → _ := fun n w a b => num_more n (n / 10) 3 (by omega) (wrap_q n (by omega) (by omega)) (by omega) (by omega) w (fun w => h3 (n / 10) w (by omega) (by omega))
  by_cases a : n < 0 ∨ 9999 < n
  · exact up 1 n w (by omega) (num_q n a w)
  by_cases b : n < 10
  · exact up 1 n w (by omega) (h1 n w (by omega) b)
  by_cases c : n < 100
  · exact up 2 n w (by omega) (h2 n w (by omega) c)
  by_cases d : n < 1000
  · exact up 3 n w (by omega) (h3 n w (by omega) d)
  · exact h4 n w (by omega) (by omega)

set_option maxRecDepth 100000 in
set_option maxHeartbeats 400000 in
theorem err_any (c : Int) (w : World) : Calls Tryd.prog 32 #[.int .i64 c] w fun e w' => (∃ s : ByteArray, e = .returned (.string s) ∧ 1 ≤ s.size ∧ s.size ≤ 19) ∧ Below w.heap.size w w' := by
  go_enter Tryd.func32, Tryd.ntmps32
  go_wp2_with (go_at_call 42; refine (num_any c _).mono ?_; rintro e w1 ⟨⟨s, rfl, hs⟩, hb⟩; have hz : ¬ 9223372036854775807 < 15 + s.size := (by omega); have HB : Hid _ := hb; clear hb)
  go_ret
  exact ⟨⟨_, rfl, by rw [ByteArray.size_append]; show 1 ≤ 15 + s.size; omega, by rw [ByteArray.size_append]; show 15 + s.size ≤ 19; omega⟩, HB.out⟩
end Go.Proofs.YtghdiflnkbkgaaaDoor
