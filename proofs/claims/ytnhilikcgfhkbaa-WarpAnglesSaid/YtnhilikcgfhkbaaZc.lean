/- Package warp: the eight directions; a point that is turned; a draw's sector. -/
import Derived.Deep.QuietTactic
import Derived.BigQuiet
import Derived.Test.YtnhilikcgfhkbaaZb
import Derived.Test.YtnhilikcgfhkbaaLq
namespace Go.Proofs.Ytnhilikcgfhkbaa
open Go.RowKit Fl

/-- The direction of a sector. -/
def dirX (c s : Nat) : Nat → Nat
  | 0 => c | 1 => s | 2 => fsub 0 s | 3 => fsub 0 c | 4 => fsub 0 c | 5 => fsub 0 s | 6 => s | _ => c
def dirY (c s : Nat) : Nat → Nat
  | 0 => s | 1 => c | 2 => c | 3 => s | 4 => fsub 0 s | 5 => fsub 0 c | 6 => fsub 0 c | _ => fsub 0 s
abbrev dirs (c s mc ms : Nat) : Value := .agg #[.float .f64 c, .float .f64 s, .float .f64 s, .float .f64 c, .float .f64 ms, .float .f64 c, .float .f64 mc, .float .f64 s, .float .f64 mc, .float .f64 ms, .float .f64 ms, .float .f64 mc, .float .f64 s, .float .f64 mc, .float .f64 c, .float .f64 ms]

set_option maxRecDepth 100000 in
set_option maxHeartbeats 1000000 in
theorem dirs_num {c s : Nat} (hc : Num c) (hs : Num s) (w : World) : Calls Try.prog 35 #[.float .f64 c, .float .f64 s] w fun e w' => e = .returned (dirs c s (fsub 0 c) (fsub 0 s)) ∧ Below w.heap.size w w' := by
  have hm : ∀ w, _ := fun w => run_sub_num (P := Try.prog) w 22 num_zero hc
  have hn : ∀ w, _ := fun w => run_sub_num (P := Try.prog) w 22 num_zero hs
  clear hc hs
  generalize fsub 0 c = mc at *
  generalize fsub 0 s = ms at *
  go_enter Try.func35, Try.ntmps35
  go_wp2_with fail
  refine bodyPost_ret (v := dirs c s mc ms) (by simp [results, go_sem]) rfl ⟨rfl, (Below.refl _ _).alloc (Nat.le_refl _) _⟩

theorem dirs_at0 (c s mc ms : Nat) (w : World) : (Instr.index 45 (dirs c s mc ms) (.int .i64 0)).run Try.prog w = .ok (.agg #[.float .f64 c, .float .f64 s]) w := by kernel_rfl
theorem dirs_at1 (c s mc ms : Nat) (w : World) : (Instr.index 45 (dirs c s mc ms) (.int .i64 1)).run Try.prog w = .ok (.agg #[.float .f64 s, .float .f64 c]) w := by kernel_rfl
theorem dirs_at2 (c s mc ms : Nat) (w : World) : (Instr.index 45 (dirs c s mc ms) (.int .i64 2)).run Try.prog w = .ok (.agg #[.float .f64 ms, .float .f64 c]) w := by kernel_rfl
theorem dirs_at3 (c s mc ms : Nat) (w : World) : (Instr.index 45 (dirs c s mc ms) (.int .i64 3)).run Try.prog w = .ok (.agg #[.float .f64 mc, .float .f64 s]) w := by kernel_rfl
theorem dirs_at4 (c s mc ms : Nat) (w : World) : (Instr.index 45 (dirs c s mc ms) (.int .i64 4)).run Try.prog w = .ok (.agg #[.float .f64 mc, .float .f64 ms]) w := by kernel_rfl
theorem dirs_at5 (c s mc ms : Nat) (w : World) : (Instr.index 45 (dirs c s mc ms) (.int .i64 5)).run Try.prog w = .ok (.agg #[.float .f64 ms, .float .f64 mc]) w := by kernel_rfl
theorem dirs_at6 (c s mc ms : Nat) (w : World) : (Instr.index 45 (dirs c s mc ms) (.int .i64 6)).run Try.prog w = .ok (.agg #[.float .f64 s, .float .f64 mc]) w := by kernel_rfl
theorem dirs_at7 (c s mc ms : Nat) (w : World) : (Instr.index 45 (dirs c s mc ms) (.int .i64 7)).run Try.prog w = .ok (.agg #[.float .f64 c, .float .f64 ms]) w := by kernel_rfl
theorem dirs_at {c s : Nat} {k : Nat} (hk : k ≤ 7) (w : World) : (Instr.index 45 (dirs c s (fsub 0 c) (fsub 0 s)) (.int .i64 (k : Int))).run Try.prog w = .ok (.agg #[.float .f64 (dirX c s k), .float .f64 (dirY c s k)]) w := by
  have h : k = 0 ∨ k = 1 ∨ k = 2 ∨ k = 3 ∨ k = 4 ∨ k = 5 ∨ k = 6 ∨ k = 7 := by omega
  rcases h with rfl | rfl | rfl | rfl | rfl | rfl | rfl | rfl
  · exact dirs_at0 c s (fsub 0 c) (fsub 0 s) w
  · exact dirs_at1 c s (fsub 0 c) (fsub 0 s) w
  · exact dirs_at2 c s (fsub 0 c) (fsub 0 s) w
  · exact dirs_at3 c s (fsub 0 c) (fsub 0 s) w
  · exact dirs_at4 c s (fsub 0 c) (fsub 0 s) w
  · exact dirs_at5 c s (fsub 0 c) (fsub 0 s) w
  · exact dirs_at6 c s (fsub 0 c) (fsub 0 s) w
  · exact dirs_at7 c s (fsub 0 c) (fsub 0 s) w

/-- A pair in memory. -/
def Two (w : World) (b x y : Nat) : Prop := w.heap[b]? = some (.cells #[.float .f64 x, .float .f64 y] 44)
theorem Two.cells {w : World} {b x y : Nat} (h : Two w b x y) : w.cell? ⟨b, 0, none⟩ = some (.float .f64 x) ∧ w.cell? ⟨b, 1, none⟩ = some (.float .f64 y) ∧ b < w.heap.size := by
  unfold Two at h
  have hlt : b < w.heap.size := by
    rcases Nat.lt_or_ge b w.heap.size with k | k
    · exact k
    · rw [Array.getElem?_eq_none k] at h; cases h
  refine ⟨?_, ?_, hlt⟩
  · exact (Lp.blk h).1 0
  · exact (Lp.blk h).1 1
theorem Two.keep {w w' : World} {b x y : Nat} (h : Two w b x y) (hb : Below w.heap.size w w') : Two w' b x y := (hb.block b h.cells.2.2).trans h

set_option maxRecDepth 100000 in
set_option maxHeartbeats 1000000 in
theorem turn_num {x y r : Nat} (hx : Num x) (hy : Num y) (hr : Num r) {b : Nat} {w : World} (h : Two w b x y) : Calls Try.prog 36 #[.float .f64 r, .pointer (some ⟨b, 0, none⟩)] w fun e w' => e = .returned (.tuple #[.float .f64 (fmul x r), .float .f64 (fmul y r)]) ∧ Below w.heap.size w w' := by
  have HX := hid (prod_num hx hr)
  have HY := hid (prod_num hy hr)
  obtain ⟨c0, c1, hlt⟩ := h.cells
  clear hx hy hr h
  generalize fmul x r = X at *
  generalize fmul y r = Y at *
  go_enter Try.func36, Try.ntmps36
  go_wp2_with fail
  go_quiet ((go_at_call 27; first | exact Calls.quiet_of_same (HX.out _) | exact Calls.quiet_of_same (HY.out _)))
  go_wp2_with fail
  refine bodyPost_ret (v := .tuple #[.float .f64 X, .float .f64 Y]) (by simp [results, go_sem]) rfl ⟨rfl, below_dr (Below.refl _ _) _⟩
end Go.Proofs.Ytnhilikcgfhkbaa
