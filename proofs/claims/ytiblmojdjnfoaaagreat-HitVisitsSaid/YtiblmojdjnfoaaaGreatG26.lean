/- Structs of two and of three vectors that come in, opened and shut. Triangles that come in. -/
import Derived.Deep.Slices
import Derived.Carry
import Derived.Test.YtiblmojdjnfoaaaGreatG25
import Derived.Test.YtiblmojdjnfoaaaGreatG23
namespace Go.Proofs.YtiblmojdjnfoaaaGreat
open Go.ChangeShapes Go.WideShapes Go.ChangeAt Go.RowKit Fl Go.Joins Go.Deep

theorem array6 {α : Type} {cs : Array α} (h : cs.size = 6) : ∃ c0 c1 c2 c3 c4 c5, cs = #[c0, c1, c2, c3, c4, c5] := by
  obtain ⟨l⟩ := cs
  match l, h with
  | [c0, c1, c2, c3, c4, c5], _ => exact ⟨c0, c1, c2, c3, c4, c5, rfl⟩
theorem array9 {α : Type} {cs : Array α} (h : cs.size = 9) : ∃ c0 c1 c2 c3 c4 c5 c6 c7 c8, cs = #[c0, c1, c2, c3, c4, c5, c6, c7, c8] := by
  obtain ⟨l⟩ := cs
  match l, h with
  | [c0, c1, c2, c3, c4, c5, c6, c7, c8], _ => exact ⟨c0, c1, c2, c3, c4, c5, c6, c7, c8, rfl⟩
/-- Three words. -/
def Wf3 (x y z : Nat) : Prop := (Lit.float .f64 x).wf = true ∧ (Lit.float .f64 y).wf = true ∧ (Lit.float .f64 z).wf = true

theorem trod_vec {H : Type} {enc : TypeId × Value → H} {W : World} {base : Nat} {spare : Nat → Bool} {held : Bool} {n : Nat} {c0 c1 c2 : Value} {y : DataW H × List MemPlace} (h : DataW.trod enc Tryz.prog W base spare held n 25 [c0, c1, c2] = some y) :
    ∃ x y' z, c0 = .float .f64 x ∧ c1 = .float .f64 y' ∧ c2 = .float .f64 z ∧ y = (.agg [.lit (.float .f64 x), .lit (.float .f64 y'), .lit (.float .f64 z)], []) ∧ Wf3 x y' z := by
  obtain ⟨y0, y1, y2, m, hx, _, h0, h1, h2⟩ := trod_struct3 Tryz.underlying25 h
  have k : Tryz.prog.cellsOf 23 = 1 := by kernel_rfl
  simp only [k, List.drop_zero, List.drop_succ_cons, List.take_succ_cons, List.take_zero] at h0 h1 h2
  obtain ⟨x, e0, rfl, wx⟩ := trod_float Tryz.underlying23 h0
  obtain ⟨y', e1, rfl, wy⟩ := trod_float Tryz.underlying23 h1
  obtain ⟨z, e2, rfl, wz⟩ := trod_float Tryz.underlying23 h2
  simp at e0 e1 e2
  subst e0 e1 e2 hx
  exact ⟨x, y', z, rfl, rfl, rfl, rfl, wx, wy, wz⟩

theorem trod_vec_mk {H : Type} {enc : TypeId × Value → H} {W : World} {base : Nat} {spare : Nat → Bool} {held : Bool} {x y z : Nat} (h : Wf3 x y z) :
    DataW.trod enc Tryz.prog W base spare held 2 25 [.float .f64 x, .float .f64 y, .float .f64 z] = some (.agg [.lit (.float .f64 x), .lit (.float .f64 y), .lit (.float .f64 z)], []) := by
  have k : Tryz.prog.cellsOf 23 = 1 := by kernel_rfl
  refine trod_struct3_mk (n := 1) (y0 := (.lit (.float .f64 x), [])) (y1 := (.lit (.float .f64 y), [])) (y2 := (.lit (.float .f64 z), [])) Tryz.underlying25 (by rw [Tryz.cells25]; rfl) ?_ ?_ ?_ <;>
  simp only [k, List.drop_zero, List.drop_succ_cons, List.take_succ_cons, List.take_zero] <;> simp [DataW.trod, Tryz.underlying23, h.1, h.2.1, h.2.2]

theorem Tryz.cells54 : Tryz.prog.cellsOf 54 = 6 := by kernel_rfl

set_option maxRecDepth 100000 in
theorem open_box {H : Type} {enc : TypeId × Value → H} {W : World} {base : Nat} {spare : Nat → Bool} {held : Bool} {r : Reach} {b0 : Nat} {v : Value} {d : DataW H} {ps : List MemPlace} (hv : Value.okWide Tryz.prog W r b0 54 v) (h : DataW.Trod enc Tryz.prog W base spare held 54 v d ps) :
    ∃ x0 x1 x2 x3 x4 x5, v = .agg #[.float .f64 x0, .float .f64 x1, .float .f64 x2, .float .f64 x3, .float .f64 x4, .float .f64 x5] ∧ d = .agg [.agg [.lit (.float .f64 x0), .lit (.float .f64 x1), .lit (.float .f64 x2)], .agg [.lit (.float .f64 x3), .lit (.float .f64 x4), .lit (.float .f64 x5)]] ∧ ps = [] ∧ Wf3 x0 x1 x2 ∧ Wf3 x3 x4 x5 := by
  obtain ⟨cs, rfl, hsz⟩ := okWide_struct Tryz.underlying54 hv
  obtain ⟨c0, c1, c2, c3, c4, c5, rfl⟩ := array6 (hsz.trans Tryz.cells54)
  obtain ⟨fuel, hf⟩ := h
  obtain ⟨y0, y1, m, hx, _, h0, h1⟩ := trod_struct2 Tryz.underlying54 hf
  simp only [Value.cells, Tryz.cells25, List.drop_zero, List.drop_succ_cons, List.take_succ_cons, List.take_zero] at h0 h1
  obtain ⟨x0, x1, x2, rfl, rfl, rfl, rfl, w0⟩ := trod_vec h0
  obtain ⟨x3, x4, x5, rfl, rfl, rfl, rfl, w1⟩ := trod_vec h1
  simp only [Prod.mk.injEq] at hx
  exact ⟨x0, x1, x2, x3, x4, x5, rfl, hx.1, hx.2, w0, w1⟩

theorem shut_box {H : Type} {enc : TypeId × Value → H} {W : World} {base : Nat} {spare : Nat → Bool} {held : Bool} {x0 x1 x2 x3 x4 x5 : Nat} (w0 : Wf3 x0 x1 x2) (w1 : Wf3 x3 x4 x5) : DataW.Trod enc Tryz.prog W base spare held 54 (.agg #[.float .f64 x0, .float .f64 x1, .float .f64 x2, .float .f64 x3, .float .f64 x4, .float .f64 x5]) (.agg [.agg [.lit (.float .f64 x0), .lit (.float .f64 x1), .lit (.float .f64 x2)], .agg [.lit (.float .f64 x3), .lit (.float .f64 x4), .lit (.float .f64 x5)]]) [] := by
  refine ⟨3, ?_⟩
  refine trod_struct2_mk (n := 2) (y0 := (_, [])) (y1 := (_, [])) Tryz.underlying54 (by rw [Tryz.cells54]; rfl) ?_ ?_ <;>
  simp only [Value.cells, Tryz.cells25, List.drop_zero, List.drop_succ_cons, List.take_succ_cons, List.take_zero]
  · exact trod_vec_mk w0
  · exact trod_vec_mk w1

theorem Tryz.cells27 : Tryz.prog.cellsOf 27 = 6 := by kernel_rfl

set_option maxRecDepth 100000 in
theorem open_ray {H : Type} {enc : TypeId × Value → H} {W : World} {base : Nat} {spare : Nat → Bool} {held : Bool} {r : Reach} {b0 : Nat} {v : Value} {d : DataW H} {ps : List MemPlace} (hv : Value.okWide Tryz.prog W r b0 27 v) (h : DataW.Trod enc Tryz.prog W base spare held 27 v d ps) :
    ∃ x0 x1 x2 x3 x4 x5, v = .agg #[.float .f64 x0, .float .f64 x1, .float .f64 x2, .float .f64 x3, .float .f64 x4, .float .f64 x5] ∧ d = .agg [.agg [.lit (.float .f64 x0), .lit (.float .f64 x1), .lit (.float .f64 x2)], .agg [.lit (.float .f64 x3), .lit (.float .f64 x4), .lit (.float .f64 x5)]] ∧ ps = [] ∧ Wf3 x0 x1 x2 ∧ Wf3 x3 x4 x5 := by
  obtain ⟨cs, rfl, hsz⟩ := okWide_struct Tryz.underlying27 hv
  obtain ⟨c0, c1, c2, c3, c4, c5, rfl⟩ := array6 (hsz.trans Tryz.cells27)
  obtain ⟨fuel, hf⟩ := h
  obtain ⟨y0, y1, m, hx, _, h0, h1⟩ := trod_struct2 Tryz.underlying27 hf
  simp only [Value.cells, Tryz.cells25, List.drop_zero, List.drop_succ_cons, List.take_succ_cons, List.take_zero] at h0 h1
  obtain ⟨x0, x1, x2, rfl, rfl, rfl, rfl, w0⟩ := trod_vec h0
  obtain ⟨x3, x4, x5, rfl, rfl, rfl, rfl, w1⟩ := trod_vec h1
  simp only [Prod.mk.injEq] at hx
  exact ⟨x0, x1, x2, x3, x4, x5, rfl, hx.1, hx.2, w0, w1⟩

set_option maxRecDepth 100000 in
theorem shut_ray {H : Type} {enc : TypeId × Value → H} {W : World} {base : Nat} {spare : Nat → Bool} {held : Bool} {x0 x1 x2 x3 x4 x5 : Nat} (w0 : Wf3 x0 x1 x2) (w1 : Wf3 x3 x4 x5) : DataW.Trod enc Tryz.prog W base spare held 27 (.agg #[.float .f64 x0, .float .f64 x1, .float .f64 x2, .float .f64 x3, .float .f64 x4, .float .f64 x5]) (.agg [.agg [.lit (.float .f64 x0), .lit (.float .f64 x1), .lit (.float .f64 x2)], .agg [.lit (.float .f64 x3), .lit (.float .f64 x4), .lit (.float .f64 x5)]]) [] := by
  refine ⟨3, ?_⟩
  refine trod_struct2_mk (n := 2) (y0 := (_, [])) (y1 := (_, [])) Tryz.underlying27 (by rw [Tryz.cells27]; rfl) ?_ ?_ <;>
  simp only [Value.cells, Tryz.cells25, List.drop_zero, List.drop_succ_cons, List.take_succ_cons, List.take_zero]
  · exact trod_vec_mk w0
  · exact trod_vec_mk w1

theorem Tryz.cells60 : Tryz.prog.cellsOf 60 = 9 := by kernel_rfl

set_option maxRecDepth 100000 in
set_option maxRecDepth 100000 in
theorem open_tri {H : Type} {enc : TypeId × Value → H} {W : World} {base : Nat} {spare : Nat → Bool} {held : Bool} {r : Reach} {b0 : Nat} {v : Value} {d : DataW H} {ps : List MemPlace} (hv : Value.okWide Tryz.prog W r b0 60 v) (h : DataW.Trod enc Tryz.prog W base spare held 60 v d ps) :
    ∃ x0 x1 x2 x3 x4 x5 x6 x7 x8, v = .agg #[.float .f64 x0, .float .f64 x1, .float .f64 x2, .float .f64 x3, .float .f64 x4, .float .f64 x5, .float .f64 x6, .float .f64 x7, .float .f64 x8] ∧ d = .agg [.agg [.lit (.float .f64 x0), .lit (.float .f64 x1), .lit (.float .f64 x2)], .agg [.lit (.float .f64 x3), .lit (.float .f64 x4), .lit (.float .f64 x5)], .agg [.lit (.float .f64 x6), .lit (.float .f64 x7), .lit (.float .f64 x8)]] ∧ ps = [] ∧ Wf3 x0 x1 x2 ∧ Wf3 x3 x4 x5 ∧ Wf3 x6 x7 x8 := by
  obtain ⟨cs, rfl, hsz⟩ := okWide_struct Tryz.underlying60 hv
  obtain ⟨c0, c1, c2, c3, c4, c5, c6, c7, c8, rfl⟩ := array9 (hsz.trans Tryz.cells60)
  obtain ⟨fuel, hf⟩ := h
  obtain ⟨y0, y1, y2, m, hx, _, h0, h1, h2⟩ := trod_struct3 Tryz.underlying60 hf
  simp only [Value.cells, Tryz.cells25, List.drop_zero, List.drop_succ_cons, List.take_succ_cons, List.take_zero] at h0 h1 h2
  obtain ⟨x0, x1, x2, rfl, rfl, rfl, rfl, w0⟩ := trod_vec h0
  obtain ⟨x3, x4, x5, rfl, rfl, rfl, rfl, w1⟩ := trod_vec h1
  obtain ⟨x6, x7, x8, rfl, rfl, rfl, rfl, w2⟩ := trod_vec h2
  simp only [Prod.mk.injEq] at hx
  exact ⟨x0, x1, x2, x3, x4, x5, x6, x7, x8, rfl, hx.1, hx.2, w0, w1, w2⟩

set_option maxRecDepth 100000 in
theorem shut_tri {H : Type} {enc : TypeId × Value → H} {W : World} {base : Nat} {spare : Nat → Bool} {held : Bool} {x0 x1 x2 x3 x4 x5 x6 x7 x8 : Nat} (w0 : Wf3 x0 x1 x2) (w1 : Wf3 x3 x4 x5) (w2 : Wf3 x6 x7 x8) : DataW.Trod enc Tryz.prog W base spare held 60 (.agg #[.float .f64 x0, .float .f64 x1, .float .f64 x2, .float .f64 x3, .float .f64 x4, .float .f64 x5, .float .f64 x6, .float .f64 x7, .float .f64 x8]) (.agg [.agg [.lit (.float .f64 x0), .lit (.float .f64 x1), .lit (.float .f64 x2)], .agg [.lit (.float .f64 x3), .lit (.float .f64 x4), .lit (.float .f64 x5)], .agg [.lit (.float .f64 x6), .lit (.float .f64 x7), .lit (.float .f64 x8)]]) [] := by
  refine ⟨3, ?_⟩
  refine trod_struct3_mk (n := 2) (y0 := (_, [])) (y1 := (_, [])) (y2 := (_, [])) Tryz.underlying60 (by rw [Tryz.cells60]; rfl) ?_ ?_ ?_ <;>
  simp only [Value.cells, Tryz.cells25, List.drop_zero, List.drop_succ_cons, List.take_succ_cons, List.take_zero]
  · exact trod_vec_mk w0
  · exact trod_vec_mk w1
  · exact trod_vec_mk w2

end Go.Proofs.YtiblmojdjnfoaaaGreat

namespace Go.Proofs.YtiblmojdjnfoaaaGreat
open Go.ChangeShapes Go.WideShapes Go.ChangeAt Go.RowKit Fl Lm Go.Joins Go.Deep

theorem trod_tri {H : Type} {enc : TypeId × Value → H} {W : World} {base : Nat} {spare : Nat → Bool} {held : Bool} {fuel : Nat} {cs : List Value} {x : DataW H × List MemPlace} (hsz : cs.length = 9) (h : DataW.trod enc Tryz.prog W base spare held fuel 60 cs = some x) : ∃ t : Tr, cs = tcs t := by
  match cs, hsz with
  | [c0, c1, c2, c3, c4, c5, c6, c7, c8], _ =>
    obtain ⟨y0, y1, y2, m, hx, _, h0, h1, h2⟩ := trod_struct3 Tryz.underlying60 h
    simp only [Tryz.cells25, List.drop_zero, List.drop_succ_cons, List.take_succ_cons, List.take_zero] at h0 h1 h2
    obtain ⟨x0, x1, x2, rfl, rfl, rfl, rfl, w0⟩ := trod_vec h0
    obtain ⟨x3, x4, x5, rfl, rfl, rfl, rfl, w1⟩ := trod_vec h1
    obtain ⟨x6, x7, x8, rfl, rfl, rfl, rfl, w2⟩ := trod_vec h2
    exact ⟨⟨x0, x1, x2, x3, x4, x5, x6, x7, x8⟩, rfl⟩

theorem came_tris {H : Type} {enc : TypeId × Value → H} {W : World} {v : Value} {d : DataW H} {p : List MemPlace}
    (hv : ∃ a l c, v = .slice a l c) (h : DataW.Trod enc Tryz.prog W 0 (fun _ => true) true 22 v d p) :
    ∃ (n : Nat) (T : Nat → Tr) (ao : Option Addr) (cz : Nat), v = .slice ao n cz ∧ n ≤ cz ∧ Sl W ao n 9 (fun i => tcs (T i)) ∧ ∀ i, n ≤ i → T i = ⟨0, 0, 0, 0, 0, 0, 0, 0, 0⟩ := by
  obtain ⟨a, l, c, rfl⟩ := hv
  obtain ⟨fuel, hf⟩ := h
  rcases open_slice under_tris hf with ⟨hcs, _⟩ | ⟨ad, len, cap, m, n, D, Pl, hcs, _, hl, hm, hmm, _, hx⟩
  · simp [Value.cells] at hcs
    obtain ⟨rfl, rfl, rfl⟩ := hcs
    exact ⟨0, fun _ => ⟨0, 0, 0, 0, 0, 0, 0, 0, 0⟩, none, 0, rfl, Nat.le_refl _, .inl rfl, fun _ _ => rfl⟩
  · simp [Value.cells] at hcs
    obtain ⟨rfl, rfl, rfl⟩ := hcs
    simp at hmm
    rw [Tryz.cells60] at hx
    by_cases h0 : l = 0
    · subst h0
      exact ⟨0, fun _ => ⟨0, 0, 0, 0, 0, 0, 0, 0, 0⟩, _, _, rfl, hl, .inl rfl, fun _ _ => rfl⟩
    · obtain ⟨b, off, spot⟩ := ad
      have each : ∀ i, i < l → ∃ t : Tr, ∀ j, j < 9 → W.cell? (((⟨b, off, spot⟩ : Addr).add (i * 9)).add j) = (tcs t)[j]? := by
        intro i hi
        obtain ⟨cs, k1, k2⟩ := hx i (by omega)
        obtain ⟨_, hlen, hcell⟩ := World.cells?_some k1
        obtain ⟨t, rfl⟩ := trod_tri hlen k2
        exact ⟨t, fun j hj => hcell j hj⟩
      obtain ⟨t0, ht0⟩ := each 0 (by omega)
      have hc0 := (ht0 0 (by decide)).trans (show (tcs t0)[0]? = some (.float .f64 t0.t0) from rfl)
      have hspot : spot = none := by simpa [Addr.add] using World.cell?_spot hc0
      subst hspot
      have hb : b < W.heap.size := by
        have := World.block_lt_of_cell? W _ hc0
        rw [addr_off, addr_off] at this
        exact this
      have : Inhabited Tr := ⟨⟨0, 0, 0, 0, 0, 0, 0, 0, 0⟩⟩
      obtain ⟨F, hF⟩ := choose_lt each
      refine ⟨l, fun i => if i < l then F i else ⟨0, 0, 0, 0, 0, 0, 0, 0, 0⟩, some ⟨b, off, none⟩, c, rfl, hl, .inr ⟨b, off, rfl, hb, fun i hi j hj => ?_⟩, fun i hi => if_neg (by omega)⟩
      have := hF i hi j hj
      rw [addr_off, addr_off, Nat.add_assoc] at this
      rw [this]
      show _ = (tcs (if i < l then F i else _))[j]?
      rw [if_pos hi]
end Go.Proofs.YtiblmojdjnfoaaaGreat
