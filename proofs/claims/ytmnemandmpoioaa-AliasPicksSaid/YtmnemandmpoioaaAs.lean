/- Lists of whole numbers of any kind that come in. -/
import Derived.Deep.Slices
import Derived.Carry
import Derived.Test.YtmnemandmpoioaaVo
import Derived.Test.YtmnemandmpoioaaAd
namespace Go.Proofs.Ytmnemandmpoioaa
open Go.ChangeShapes Go.WideShapes Go.ChangeAt Go.RowKit Fl Go.Joins Go.Deep

def numI : Value → Int
  | .int _ n => n
  | _ => 0
theorem came_kind {kd : IntKind} {st et : TypeId} {H : Type} {enc : TypeId × Value → H} {W : World} {v : Value} {d : DataW H} {p : List MemPlace} (under_is : Try.prog.underlying st = some (.slice et)) (cells_int : Try.prog.cellsOf et = 1) (under_e : Try.prog.underlying et = some (.int kd))
    (hv : ∃ a l c, v = .slice a l c) (h : DataW.Trod enc Try.prog W 0 (fun _ => true) true st v d p) :
    ∃ (zs : List Int) (ao : Option Addr) (cz : Nat), v = .slice ao zs.length cz ∧ (zs.length = 0 ∨ ∃ b off, ao = some ⟨b, off, none⟩ ∧ b < W.heap.size ∧ ∀ k, k < zs.length → W.cell? ⟨b, off + k, none⟩ = some (.int kd (zs.getD k 0))) ∧ ∀ k, k < zs.length → (Lit.int kd (zs.getD k 0)).wf = true := by
  obtain ⟨a, l, c, rfl⟩ := hv
  obtain ⟨fuel, hf⟩ := h
  rcases open_slice1 under_is cells_int hf with ⟨hcs, _⟩ | ⟨ad, len, cap, m, n, V, D, Pl, hcs, _, hl, hm, hmm, _, hx⟩
  · simp [Value.cells] at hcs
    obtain ⟨rfl, rfl, rfl⟩ := hcs
    exact ⟨[], none, 0, rfl, .inl rfl, by simp⟩
  · simp [Value.cells] at hcs
    obtain ⟨rfl, rfl, rfl⟩ := hcs
    simp at hmm
    subst hmm
    by_cases h0 : l = 0
    · subst h0
      exact ⟨[], _, _, rfl, .inl rfl, by simp⟩
    · obtain ⟨b, off, spot⟩ := ad
      have hspot : spot = none := by simpa [Addr.add] using World.cell?_spot (hx 0 (by omega)).1
      subst hspot
      have hb : b < W.heap.size := by
        have := World.block_lt_of_cell? W _ (hx 0 (by omega)).1
        rw [addr_off] at this
        exact this
      have each : ∀ k, k < l → W.cell? ⟨b, off + k, none⟩ = some (.int kd (((List.range l).map fun i => numI (V i)).getD k 0)) ∧ (Lit.int kd (((List.range l).map fun i => numI (V i)).getD k 0)).wf = true := by
        intro k hk
        obtain ⟨k1, k2⟩ := hx k (by omega)
        obtain ⟨x, e0, _, wf⟩ := DataW.trod_int under_e k2
        simp at e0
        rw [addr_off, e0] at k1
        have hg : ((List.range l).map fun i => numI (V i)).getD k 0 = x := by
          rw [List.getD_eq_getElem?_getD, List.getElem?_map, List.getElem?_range hk]
          simp [e0, numI]
        rw [hg]
        exact ⟨k1, wf⟩
      exact ⟨(List.range l).map fun i => numI (V i), some ⟨b, off, none⟩, m, by simp, .inr ⟨b, off, rfl, hb, fun k hk => (each k (by simpa using hk)).1⟩, fun k hk => (each k (by simpa using hk)).2⟩
theorem came_nms {H : Type} {enc : TypeId × Value → H} {W : World} {v : Value} {d : DataW H} {p : List MemPlace} (hv : ∃ a l c, v = .slice a l c) (h : DataW.Trod enc Try.prog W 0 (fun _ => true) true 22 v d p) :
    ∃ (n : Nat) (f : Nat → Int) (ao : Option Addr) (cz : Nat), v = .slice ao n cz ∧ Nms W ao n f := by
  obtain ⟨zs, ao, cz, rfl, hz, _⟩ := came_kind Try.underlying22 (by kernel_rfl) Try.underlying3 hv h
  exact ⟨zs.length, fun i => zs.getD i 0, ao, cz, rfl, hz.elim .inl fun ⟨b, off, e, hb, hc⟩ => .inr ⟨b, off, e, hb, hc⟩⟩
end Go.Proofs.Ytmnemandmpoioaa
