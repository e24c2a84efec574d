/- The text of a fault. -/
import Derived.Test.YtghdiflnkbkgaaaDoorGa
import Derived.Test.YtghdiflnkbkgaaaDoorShelf
import Derived.Lib.ItoaLen
import Derived.WalkSmall
import Derived.BigQuiet
namespace Go.Proofs.YtghdiflnkbkgaaaDoor
open Go.RowKit Go.Sort

abbrev Tab (w : World) : Prop := Lib.TabIs Tryd.prog w "internal/strconv.uint64pow10" .u64 Lib.pow10Tab

theorem Tryd.g10 : Tryd.prog.globalNamed "internal/strconv.uint64pow10" = some 2 := by kernel_rfl

theorem tab_below {w w' : World} (h : Tab w) (hb : Below w.heap.size w w') (h2 : 2 < w.heap.size) : Tab w' := by
  have := hb.block 2 h2
  unfold Tab Lib.TabIs World.var? at h ⊢
  rw [Tryd.g10] at h ⊢
  simpa [this] using h

theorem below_grow (w : World) (k : Nat) (os : Array Obj) : Below w.heap.size w (grow (w.drewN k) os) := by
  refine ⟨rfl, rfl, rfl, by simp [grow], fun i hi => ?_⟩
  show (w.heap ++ os)[i]? = _
  rw [Array.getElem?_append_left hi]

theorem itoa_any (n : Int) (h0 : -9223372036854775808 ≤ n) (h1 : n ≤ 9223372036854775807) (w : World) (htab : Tab w) :
    Calls Tryd.prog 41 #[.int .i64 n] w fun e w' => (∃ s : ByteArray, e = .returned (.string s) ∧ s.size ≤ 21) ∧ Below w.heap.size w w' := by
  refine (Tryd.strconv_Itoa n h0 h1 w htab).mono fun e w' ⟨he, k, os, hw⟩ => ?_
  refine ⟨⟨_, he, ?_⟩, hw ▸ below_grow w k os⟩
  simpa [ByteArray.size] using Lib.itoa_length_le n h0 h1
set_option maxRecDepth 100000 in
set_option maxHeartbeats 400000 in
theorem text_zero (c : Int) (x : Value) (hx : x.oneCell' = true) (w : World) :
    Calls Tryd.prog 31 #[.agg #[.int .i64 c, .int .i64 0, x]] w fun e w' => (∃ s : ByteArray, e = .returned (.string s) ∧ 1 ≤ s.size ∧ s.size ≤ 100) ∧ Below w.heap.size w w' := by
  have hs : ∀ a m w, (store a x m).run Tryd.prog w = stored Tryd.prog w a x m := fun a m w => run_store _ w a x m hx
  go_enter Tryd.func31, Tryd.ntmps31
  go_wp2_with (go_at_call 32; refine (err_any c _).mono ?_; rintro e w1 ⟨⟨s, rfl, hs1, hs2⟩, hb⟩; have HB : Hid _ := hb; clear hb)
  go_ret
  exact ⟨⟨_, rfl, hs1, by omega⟩, below_step (box_below _ _) HB.out⟩

set_option maxRecDepth 100000 in
set_option maxHeartbeats 1000000 in
theorem text_line (c l : Int) (hl : (l == 0) = false) (h0 : -9223372036854775808 ≤ l) (h1 : l ≤ 9223372036854775807) (x : Value) (hx : x.oneCell' = true) (w : World) (htab : Tab w) (h2 : 2 < w.heap.size) :
    Calls Tryd.prog 31 #[.agg #[.int .i64 c, .int .i64 l, x]] w fun e w' => (∃ s : ByteArray, e = .returned (.string s) ∧ 1 ≤ s.size ∧ s.size ≤ 100) ∧ Below w.heap.size w w' := by
  have hs : ∀ a m w, (store a x m).run Tryd.prog w = stored Tryd.prog w a x m := fun a m w => run_store _ w a x m hx
  have HI : Hid _ := fun w1 (h : Tab w1) => itoa_any l h0 h1 w1 h
  have HT : Hid (Tab w) := htab
  clear htab h0 h1
  go_enter Tryd.func31, Tryd.ntmps31
  go_wp2_with fail
  have HS : Hid (∀ w', Below (w.heap.size + 1) (w.alloc (.cells #[.int .i64 c, .int .i64 l, x] 43)) w' → Below w.heap.size w w' ∧ w'.cell? ⟨w.heap.size, 0, none⟩ = some (.int .i64 c) ∧ w'.cell? ⟨w.heap.size, 1, none⟩ = some (.int .i64 l)) := fun w' h =>
    ⟨(box_below _ _).trans (h.mono (by omega)), (h.cell (p := ⟨w.heap.size, 0, none⟩) (by simp)).trans (cell_new rfl rfl), (h.cell (p := ⟨w.heap.size, 1, none⟩) (by simp)).trans (cell_new rfl rfl)⟩
  go_region_held (fun w' => Below (w.heap.size + 1) (w.alloc (.cells #[.int .i64 c, .int .i64 l, x] 43)) w' ∧ Below w.heap.size w w' ∧ w'.cell? ⟨w.heap.size, 0, none⟩ = some (.int .i64 c) ∧ w'.cell? ⟨w.heap.size, 1, none⟩ = some (.int .i64 l))
    (first | assumption | exact ⟨(Below.refl _ _).drew, HS.out _ ((Below.refl _ _).drew)⟩)
   (first
    | (go_at_call 32; refine (err_any c _).mono ?_; rintro e w1 ⟨⟨s, rfl, hs1, hs2⟩, hb⟩; have hb1 : Below (w.heap.size + 1) (w.alloc (.cells #[.int .i64 c, .int .i64 l, x] 43)) w1 := (Below.refl _ _).drew.trans (hb.mono (by simp)); have hS1 := And.intro hb1 (HS.out _ hb1); clear hb; have hz1 : ¬ 9223372036854775807 < s.size + 9 := (by omega))
    | (go_at_call 41; refine Calls.mono (HI.out _ ?_) ?_; exact tab_below HT.out hS1.2.1 h2; rintro e w2 ⟨⟨s2, rfl, hs3⟩, hb⟩; have hb2 : Below (w.heap.size + 1) (w.alloc (.cells #[.int .i64 c, .int .i64 l, x] 43)) w2 := hb1.trans (hb.mono (by have := hb1.size; simpa using this)); have hS2 := And.intro hb2 (HS.out _ hb2); clear hb; have hz2 : ¬ 9223372036854775807 < s.size + 9 + s2.size := (by omega))
    | fail)
  go_wp2
  go_ret
  refine ⟨⟨_, rfl, ?_, ?_⟩, hS2.2.1⟩
  · rw [ByteArray.size_append, ByteArray.size_append]; omega
  · rw [ByteArray.size_append, ByteArray.size_append]; show s.size + 9 + s2.size ≤ 100; omega
end Go.Proofs.YtghdiflnkbkgaaaDoor
