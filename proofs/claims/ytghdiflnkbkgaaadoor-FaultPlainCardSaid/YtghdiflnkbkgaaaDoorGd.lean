/- The text of a fault that wraps a code is not empty. -/
import Derived.Test.YtghdiflnkbkgaaaDoorGc
import Derived.Test.YtghdiflnkbkgaaaDoorFj
import Derived.Lib.Join
namespace Go.Proofs.YtghdiflnkbkgaaaDoor
open Go.RowKit

theorem join_two {w : World} {base : Nat} {v : Value} {xs : List ByteArray} (h : w.ownsRow base 9 1 v 2 (xs.map Value.string)) (hx : ∀ x ∈ xs, 1 ≤ x.size ∧ x.size ≤ 100) :
    Calls Tryd.prog 33 #[v, .string ⟨#[58, 32]⟩] w fun e w' => (∃ s : List UInt8, e = .returned (.string ⟨s.toArray⟩) ∧ s ≠ []) ∧ Below w.heap.size w w' := by
  have hl : xs.length = 2 := by simpa using h.1
  obtain ⟨a, b, rfl⟩ : ∃ a b, xs = [a, b] := by
    match xs, hl with
    | [a, b], _ => exact ⟨a, b, rfl⟩
  have hcell := fun g hg => h.cells (g := g) hg
  rcases h.2 with ⟨_, h0⟩ | ⟨g, cap, cur, rfl, _, hg, hcap, _, _, _⟩
  · omega
  have ha := hx a (by simp)
  have hb := hx b (by simp)
  have hlen : (Lib.join ([a, b].map (·.data.toList)) [58, 32]).length = 2 + a.size + b.size := by
    simp only [List.map_cons, List.map_nil]
    rw [Lib.join_length]
    have e1 : a.data.toList.length = a.size := Array.length_toList
    have e2 : b.data.toList.length = b.size := Array.length_toList
    simp only [Lib.lens, List.length_cons, List.length_nil, List.map_cons, List.map_nil, List.sum_cons, List.sum_nil, e1, e2]
    omega
  refine (Tryd.strings_Join g 0 cap [a, b] ⟨#[58, 32]⟩ w (fun j x hj => ?_) (Array.getElem?_eq_some_iff.1 hg).1 (by simp) (by simpa using hcap) ?_).mono fun e w' ⟨he, hw⟩ => ⟨⟨_, he, fun e0 => ?_⟩, hw⟩
  · have h1 : ([a, b].map Value.string)[j]? = some (.string x) := by rw [List.getElem?_map, hj]; rfl
    have := hcell g rfl j _ h1
    have hadd : (⟨g, 0, none⟩ : Addr).add j = ⟨g, 0 + j, none⟩ := by unfold Addr.add; split <;> simp_all
    rwa [hadd] at this
  · show (Lib.join ([a, b].map (·.data.toList)) [58, 32]).length ≤ _
    omega
  · have e1 : (Lib.join ([a, b].map (·.data.toList)) [58, 32]).length = 0 := by
      have : Lib.join ([a, b].map (·.data.toList)) [58, 32] = [] := e0
      rw [this]; rfl
    omega

set_option maxRecDepth 100000 in
set_option maxHeartbeats 400000 in
theorem error_two (c l c2 : Int) (hok : okI (.inl (c, l))) (w : World) (hT : Tab w) (h2 : 2 < w.heap.size) :
    Calls Tryd.prog 18 #[.agg #[.int .i64 c, .int .i64 l, .iface 23 (.int .i64 c2)]] w fun e w' => (∃ s : List UInt8, e = .returned (.string ⟨s.toArray⟩) ∧ s ≠ []) ∧ Below w.heap.size w w' := by
  have h3 := mkf
  have HC : Hid _ := fun lb w1 (hlt : w.heap.size + 1 < lb) (hI : CapTxt w w.heap.size (w.heap.size + 1) lb 0 1 w1) (hL : Left w1 lb 63) =>
    each30_any errStep _ lb (.pointer (some ⟨w.heap.size + 1, 0, none⟩)) (keeps_txt w w.heap.size (w.heap.size + 1) lb (by omega) (by omega)) (err_tells w w.heap.size (w.heap.size + 1) lb hlt hT h2) (some c2) [(c, l)] 0 1 63 w1 (by intro p hp; simp at hp; subst hp; exact hok) (by omega) (by simp) (by simp) (by omega) hI hL
  have HT : Hid _ := hT
  clear hT hok
  go_enter Tryd.func18, Tryd.ntmps18
  go_wp2_with (first
    | (go_at_call 22; refine (look_any _ (.inr ⟨_, _, rfl⟩) _ _ (by omega) (by omega)).mono ?_; rintro e w1 ⟨rfl, hL, hb, hz⟩;
       have hI : Cap w w.heap.size (w.heap.size + 1) (.slice none 0 0) w1 := ⟨((box_below _ _).alloc (by simp) _).trans (hb.mono (by simp; omega)), (by omega), (by simp at hz; omega), (hb.cell (p := ⟨w.heap.size + 1, 0, none⟩) (by simp)).trans (cell_new (by simp) rfl), (hb.frozen (p := ⟨w.heap.size + 1, 0, none⟩) (by simp)).trans (by simp [go_sem])⟩;
       have HI : Hid _ := hI; have HL : Hid _ := hL; clear hI hL hb hz)
    | (go_at_call 23; refine Calls.mono (HC.out _ _ (by omega) ⟨_, [], HI.out, World.ownsRow_nil _ _ _ _, by simp, by omega, _, _, rfl⟩ (by simpa using HL.out)) ?_; rintro e w2 ⟨rfl, ⟨d', v', xs, hI2, ho2, hxs, _, a', c', rfl⟩, _⟩;
       have hc2 := hI2.cell; have hb2 := hI2.below; have HB : Hid (Below w.heap.size w w2) := hb2; have HO : Hid (w2.ownsRow _ 9 1 _ _ (xs.map Value.string)) := ho2; have HX : Hid _ := hxs; clear hI2 hb2 ho2 hxs)
    | fail)
  refine Calls.mono (join_two HO.out HX.out) ?_
  rintro e w3 ⟨⟨s, rfl, hs⟩, hb⟩
  have HS : Hid _ := hs
  have HB3 : Hid _ := hb
  clear hs hb
  go_wp2_with fail
  go_ret
  exact ⟨⟨s, rfl, HS.out⟩, below_step HB.out HB3.out⟩
end Go.Proofs.YtghdiflnkbkgaaaDoor
