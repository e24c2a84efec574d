/- What the functions that Line and Depth make do, told one error. -/
import Derived.Test.YtghdiflnkbkgaaaDoorFf
namespace Go.Proofs.YtghdiflnkbkgaaaDoor
open Go.RowKit

/-- A captured variable of one cell, in memory of the call's own; all that is older is as it was. -/
structure Cap (w0 : World) (B cb : Nat) (v : Value) (w : World) : Prop where
  below : Below B w0 w
  le : B ≤ cb
  lt : cb < w.heap.size
  cell : w.cell? ⟨cb, 0, none⟩ = some v
  frozen : w.frozen? ⟨cb, 0, none⟩ = false

theorem Cap.grow {w0 : World} {B cb : Nat} {v : Value} {w w' : World} (h : Cap w0 B cb v w) (hb : Below w.heap.size w w') : Cap w0 B cb v w' :=
  ⟨h.below.trans (hb.mono (Nat.le_of_lt (Nat.lt_of_le_of_lt h.le h.lt))), h.le, Nat.lt_of_lt_of_le h.lt hb.size, (hb.cell h.lt).trans h.cell, (hb.frozen h.lt).trans h.frozen⟩

theorem Cap.left {w0 : World} {B cb lb : Nat} {v : Value} {w : World} (h : Cap w0 B cb v w) (hl : B ≤ lb) (hne : cb ≠ lb) (u : Value) : Cap w0 B cb v (w.setCell ⟨lb, 0, none⟩ u) :=
  ⟨h.below.setCell hl u, h.le, by simpa using h.lt, (World.cell?_of_block (w := w) (Below.heap_setCell w ⟨lb, 0, none⟩ u cb hne)).trans h.cell, (World.frozen?_of_block (w := w) (Below.heap_setCell w ⟨lb, 0, none⟩ u cb hne)).trans h.frozen⟩

theorem Cap.set {w0 : World} {B cb : Nat} {v : Value} {w : World} (h : Cap w0 B cb v w) (u : Value) : Cap w0 B cb u (w.setCell ⟨cb, 0, none⟩ u) :=
  ⟨h.below.setCell h.le u, h.le, by simpa using h.lt, by rw [World.cell?_setCell_same' _ _ _ (by rw [h.cell]; rfl)], by simpa [go_sem] using h.frozen⟩

theorem Left.other {w : World} {lb cb : Nat} {k : Int} (h : Left w lb k) (hne : cb ≠ lb) (u : Value) : Left (w.setCell ⟨cb, 0, none⟩ u) lb k :=
  ⟨by simpa using h.lt, (World.cell?_of_block (w := w) (Below.heap_setCell w ⟨cb, 0, none⟩ u lb (Ne.symm hne))).trans h.cell, (World.frozen?_of_block (w := w) (Below.heap_setCell w ⟨cb, 0, none⟩ u lb (Ne.symm hne))).trans h.frozen⟩

theorem keeps_cap {σ : Type} (val : σ → Value) (w0 : World) (B cb lb : Nat) (hl : B ≤ lb) (hne : cb ≠ lb) : Keeps σ lb (fun s _ w => Cap w0 B cb (val s) w) :=
  ⟨fun _ _ _ _ h hb => h.grow hb, fun _ _ _ _ h => h.left hl hne _⟩

/-- Behind the work of a told function: the captured variable has been written, all else is as it was. -/
theorem tell_set {w0 w w1 : World} {B cb lb : Nat} {v u : Value} {k : Int} {o : Obj} (h : Cap w0 B cb v w) (hL : Left w lb k) (hne : cb ≠ lb) (hb : Below (w.heap.size + 1) (w.alloc o) w1) :
    Cap w0 B cb u (w1.setCell ⟨cb, 0, none⟩ u) ∧ Left (w1.setCell ⟨cb, 0, none⟩ u) lb k ∧ w.heap.size < (w1.setCell ⟨cb, 0, none⟩ u).heap.size ∧ (w1.setCell ⟨cb, 0, none⟩ u).heap[w.heap.size]? = some o := by
  have h0 : Below w.heap.size w w1 := ((Below.refl _ _).alloc (Nat.le_refl _) _).trans (hb.mono (by omega))
  have hz := hb.size
  have hlt := h.lt
  refine ⟨(h.grow h0).set u, (hL.below h0).other hne u, by simp at hz ⊢; omega, ?_⟩
  rw [Below.heap_setCell _ _ _ _ (by show w.heap.size ≠ cb; omega), hb.block _ (by omega)]
  exact heap_alloc_new w o

theorem tell_same {w0 w w1 : World} {B cb lb : Nat} {v : Value} {k : Int} {o : Obj} (h : Cap w0 B cb v w) (hL : Left w lb k) (hb : Below (w.heap.size + 1) (w.alloc o) w1) :
    Cap w0 B cb v w1 ∧ Left w1 lb k ∧ w.heap.size < w1.heap.size ∧ w1.heap[w.heap.size]? = some o := by
  have h0 : Below w.heap.size w w1 := ((Below.refl _ _).alloc (Nat.le_refl _) _).trans (hb.mono (by omega))
  have hz := hb.size
  refine ⟨h.grow h0, hL.below h0, by simp at hz; omega, ?_⟩
  rw [hb.block _ (by omega)]
  exact heap_alloc_new w o

/-- .. and new blocks behind that. -/
theorem tell_more {w0 w w1 w2 : World} {B cb lb : Nat} {v : Value} {k : Int} {o : Obj} (h : Cap w0 B cb v w1 ∧ Left w1 lb k ∧ w.heap.size < w1.heap.size ∧ w1.heap[w.heap.size]? = some o) (hb : Below w1.heap.size w1 w2) :
    Cap w0 B cb v w2 ∧ Left w2 lb k ∧ w.heap.size < w2.heap.size ∧ w2.heap[w.heap.size]? = some o :=
  ⟨h.1.grow hb, h.2.1.below hb, Nat.lt_of_lt_of_le h.2.2.1 hb.size, (hb.block _ h.2.2.1).trans h.2.2.2⟩

theorem tell_first {w0 w : World} {B cb lb : Nat} {v u : Value} {k : Int} {o : Obj} (h : Cap w0 B cb v w) (hL : Left w lb k) (hne : cb ≠ lb) :
    Cap w0 B cb u ((w.setCell ⟨cb, 0, none⟩ u).alloc o) ∧ Left ((w.setCell ⟨cb, 0, none⟩ u).alloc o) lb k ∧ w.heap.size < ((w.setCell ⟨cb, 0, none⟩ u).alloc o).heap.size ∧ ((w.setCell ⟨cb, 0, none⟩ u).alloc o).heap[w.heap.size]? = some o := by
  have hb := (Below.refl (w.setCell ⟨cb, 0, none⟩ u).heap.size (w.setCell ⟨cb, 0, none⟩ u)).alloc (Nat.le_refl _) o
  refine ⟨(h.set u).grow hb, (hL.other hne u).below hb, by simp, ?_⟩
  have := heap_alloc_new (w.setCell ⟨cb, 0, none⟩ u) o
  simpa using this

/-- Line: the line of a fault is taken over; it goes on while there is none. -/
def lineStep (s : Int) : Itm → Int → Int × Bool
  | .inl (_, l), _ => (l, l == 0)
  | .inr _, _ => (s, s == 0)

set_option maxRecDepth 100000 in
set_option maxHeartbeats 400000 in
theorem line_tells (w0 : World) (B cb lb : Nat) (hne : cb ≠ lb) : Tells lineStep (fun s _ w => Cap w0 B cb (.int .i64 s) w) lb (.pointer (some ⟨cb, 0, none⟩)) 24 := by
  intro s v it d k w o hit h1 h2 hI hL
  have hlt := hI.lt
  cases it with
  | inl q =>
    obtain ⟨c, l⟩ := q
    obtain ⟨x, hx, rfl⟩ := hit
    have hs : ∀ a m w, (store a x m).run Tryd.prog w = stored Tryd.prog w a x m := fun a m w => run_store _ w a x m hx
    have HI : Hid _ := hI
    have HL : Hid _ := hL
    clear hI hL
    go_enter Tryd.func24, Tryd.ntmps24
    go_wp2_with (first
      | (go_at_call 25; refine (faultOf_flt c l x _ hx).mono ?_; rintro e w1 ⟨rfl, hb⟩;
         have hc0 : w1.cell? ⟨cb, 0, none⟩ = some (.int .i64 s) := (hb.cell (p := ⟨cb, 0, none⟩) (by simp; omega)).trans (by simp [go_sem, hlt, HI.out.cell]);
         have hf0 : w1.frozen? ⟨cb, 0, none⟩ = false := (hb.frozen (p := ⟨cb, 0, none⟩) (by simp; omega)).trans (by simp [go_sem, hlt, HI.out.frozen]);
         have hz : w.heap.size + 1 + 1 ≤ w1.heap.size := (by have := hb.size; simpa using this);
         have hlt1 : cb < w1.heap.size := (by omega);
         have HB : Hid _ := hb; clear hb)
      | fail)
    go_ret
    have hB : Below (w.heap.size + 1) (w.alloc o) w1 := ((Below.refl _ _).alloc (by simp) _).trans (HB.out.mono (by simp))
    exact ⟨rfl, tell_more (tell_set HI.out HL.out hne hB) ((Below.refl _ _).alloc (Nat.le_refl _) _)⟩
  | inr c =>
    obtain rfl := hit
    have HI : Hid _ := hI
    have HL : Hid _ := hL
    clear hI hL
    go_enter Tryd.func24, Tryd.ntmps24
    go_wp2_with (first
      | (go_at_call 25; refine (faultOf_ern c _).mono ?_; rintro e w1 ⟨rfl, hb⟩;
         have hc0 : w1.cell? ⟨cb, 0, none⟩ = some (.int .i64 s) := (hb.cell (p := ⟨cb, 0, none⟩) (by simp; omega)).trans (by simp [go_sem, hlt, HI.out.cell]);
         have hf0 : w1.frozen? ⟨cb, 0, none⟩ = false := (hb.frozen (p := ⟨cb, 0, none⟩) (by simp; omega)).trans (by simp [go_sem, hlt, HI.out.frozen]);
         have hz : w.heap.size + 1 + 1 ≤ w1.heap.size := (by have := hb.size; simpa using this);
         have hlt1 : cb < w1.heap.size := (by omega);
         have HB : Hid _ := hb; clear hb)
      | fail)
    go_ret
    have hB : Below (w.heap.size + 1) (w.alloc o) w1 := ((Below.refl _ _).alloc (by simp) _).trans (HB.out.mono (by simp))
    exact ⟨rfl, tell_same HI.out HL.out (hB.alloc (by omega) _)⟩

/-- Depth: the deepest so far; it goes on always. -/
def depthStep (s : Int) : Itm → Int → Int × Bool := fun _ d => (max s d, true)

set_option maxRecDepth 100000 in
set_option maxHeartbeats 400000 in
theorem depth_tells (w0 : World) (B cb lb : Nat) (hne : cb ≠ lb) : Tells depthStep (fun s _ w => Cap w0 B cb (.int .i64 s) w) lb (.pointer (some ⟨cb, 0, none⟩)) 26 := by
  intro s v it d k w o hit h1 h2 hI hL
  have hlt := hI.lt
  have hv : v.oneCell' = true := by
    cases it with
    | inl q => obtain ⟨c, l⟩ := q; obtain ⟨x, hx, rfl⟩ := hit; rfl
    | inr c => obtain rfl := hit; rfl
  have hs : ∀ a m w, (store a v m).run Tryd.prog w = stored Tryd.prog w a v m := fun a m w => run_store _ w a v m hv
  have hc0 := hI.cell
  have hf0 := hI.frozen
  have HI : Hid _ := hI
  have HL : Hid _ := hL
  clear hI hL hit
  go_enter Tryd.func26, Tryd.ntmps26
  go_wp2_with fail
  all_goals
    go_ret
    refine ⟨rfl, tell_more ?_ ((Below.refl _ _).alloc (Nat.le_refl _) _)⟩
    first
      | (have e : max s d = d := by omega
         simp only [depthStep, e]; exact tell_first HI.out HL.out hne)
      | (have e : max s d = s := by omega
         simp only [depthStep, e]; exact tell_first HI.out HL.out hne)
end Go.Proofs.YtghdiflnkbkgaaaDoor
