/- Lists of floats and of whole numbers that come in. -/
import Derived.Deep.Slices
import Derived.Carry
import Derived.Test.YthbcbeaagmgafaaVo
import Derived.Test.YthbcbeaagmgafaaTq
namespace Go.Proofs.Ythbcbeaagmgafaa
open Go.ChangeShapes Go.WideShapes Go.ChangeAt Go.RowKit Fl Go.Joins Go.Deep

theorem addr_add (b off j : Nat) : (⟨b, off, none⟩ : Addr).add j = ⟨b, off + j, none⟩ := by
  simp only [Addr.add]
  split
  · rename_i hz; rw [hz]; rfl
  · rfl
theorem cells_f64 : Try.prog.cellsOf 26 = 1 := by kernel_rfl
theorem cells_int : Try.prog.cellsOf 3 = 1 := by kernel_rfl
theorem under_is : Try.prog.underlying 23 = some (.slice 3) := by kernel_rfl
def fltOf : Value → Nat
  | .float _ n => n
  | _ => 0
def numI : Value → Int
  | .int _ n => n
  | _ => 0

theorem came_floats {H : Type} {enc : TypeId × Value → H} {W : World} {v : Value} {d : DataW H} {p : List MemPlace} (hv : ∃ a l c, v = .slice a l c) (h : DataW.Trod enc Try.prog W 0 (fun _ => true) true 22 v d p) :
    ∃ (xs : List Nat) (ao : Option Addr) (cx : Nat), v = .slice ao xs.length cx ∧ xs.length ≤ cx ∧ (xs = [] ∨ ∃ b off, ao = some ⟨b, off, none⟩ ∧ b < W.heap.size ∧ ∀ k, k < xs.length → W.cell? ⟨b, off + k, none⟩ = some (.float .f64 (xs.getD k 0))) := by
  obtain ⟨a, l, c, rfl⟩ := hv
  obtain ⟨fuel, hf⟩ := h
  rcases open_slice1 under_fs cells_f64 hf with ⟨hcs, _⟩ | ⟨ad, len, cap, m, n, V, D, Pl, hcs, _, hl, hm, hmm, _, hx⟩
  · simp [Value.cells] at hcs
    obtain ⟨rfl, rfl, rfl⟩ := hcs
    exact ⟨[], none, 0, rfl, by simp, .inl rfl⟩
  · simp [Value.cells] at hcs
    obtain ⟨rfl, rfl, rfl⟩ := hcs
    simp at hmm
    subst hmm
    by_cases h0 : l = 0
    · subst h0
      exact ⟨[], _, _, rfl, by simp, .inl rfl⟩
    · obtain ⟨b, off, spot⟩ := ad
      have hspot : spot = none := by simpa [Addr.add] using World.cell?_spot (hx 0 (by omega)).1
      subst hspot
      have hb : b < W.heap.size := by
        have := World.block_lt_of_cell? W _ (hx 0 (by omega)).1
        rw [addr_add] at this
        exact this
      refine ⟨(List.range l).map fun i => fltOf (V i), some ⟨b, off, none⟩, m, by simp, by simpa using hl, .inr ⟨b, off, rfl, hb, fun k hk => ?_⟩⟩
      simp at hk
      obtain ⟨k1, k2⟩ := hx k (by omega)
      obtain ⟨x, e0, _, _⟩ := trod_float Try.underlying26 k2
      simp at e0
      rw [addr_add, e0] at k1
      rw [k1, List.getD_eq_getElem?_getD, List.getElem?_map, List.getElem?_range hk]
      simp [e0, fltOf]

theorem came_ints {H : Type} {enc : TypeId × Value → H} {W : World} {v : Value} {d : DataW H} {p : List MemPlace} (hv : ∃ a l c, v = .slice a l c) (h : DataW.Trod enc Try.prog W 0 (fun _ => true) true 23 v d p) :
    ∃ (zs : List Int) (ao : Option Addr) (cz : Nat), v = .slice ao zs.length cz ∧ Ints W.heap.size W ao zs ∧ ∀ k, k < zs.length → zs.getD k 0 ≤ 9223372036854775807 := by
  obtain ⟨a, l, c, rfl⟩ := hv
  obtain ⟨fuel, hf⟩ := h
  rcases open_slice1 under_is cells_int hf with ⟨hcs, _⟩ | ⟨ad, len, cap, m, n, V, D, Pl, hcs, _, hl, hm, hmm, _, hx⟩
  · simp [Value.cells] at hcs
    obtain ⟨rfl, rfl, rfl⟩ := hcs
    exact ⟨[], none, 0, rfl, .inl rfl, by simp⟩
  · simp [Value.cells] at hcs
    obtain ⟨rfl, rfl, rfl⟩ := hcs
    simp at hmm
    subst hmm
    by_cases h0 : l = 0
    · subst h0
      exact ⟨[], _, _, rfl, .inl rfl, by simp⟩
    · obtain ⟨b, off, spot⟩ := ad
      have hspot : spot = none := by simpa [Addr.add] using World.cell?_spot (hx 0 (by omega)).1
      subst hspot
      have hb : b < W.heap.size := by
        have := World.block_lt_of_cell? W _ (hx 0 (by omega)).1
        rw [addr_add] at this
        exact this
      have each : ∀ k, k < l → W.cell? ⟨b, off + k, none⟩ = some (.int .i64 (((List.range l).map fun i => numI (V i)).getD k 0)) ∧ ((List.range l).map fun i => numI (V i)).getD k 0 ≤ 9223372036854775807 := by
        intro k hk
        obtain ⟨k1, k2⟩ := hx k (by omega)
        obtain ⟨x, e0, _, wf⟩ := DataW.trod_int Try.underlying3 k2
        simp at e0
        rw [addr_add, e0] at k1
        have hg : ((List.range l).map fun i => numI (V i)).getD k 0 = x := by
          rw [List.getD_eq_getElem?_getD, List.getElem?_map, List.getElem?_range hk]
          simp [e0, numI]
        rw [hg]
        refine ⟨k1, ?_⟩
        simp only [Lit.wf, Bool.and_eq_true, decide_eq_true_eq] at wf
        exact Int.le_trans wf.2 (by decide)
      exact ⟨(List.range l).map fun i => numI (V i), some ⟨b, off, none⟩, m, by simp, .inr ⟨b, off, rfl, hb, fun k hk => (each k (by simpa using hk)).1⟩, fun k hk => (each k (by simpa using hk)).2⟩
end Go.Proofs.Ythbcbeaagmgafaa
