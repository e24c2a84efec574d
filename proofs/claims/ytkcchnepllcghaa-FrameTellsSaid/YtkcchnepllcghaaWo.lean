/- A frame that comes in, opened and shut. -/
import Derived.Test.YtkcchnepllcghaaVo
namespace Go.Proofs.Ytkcchnepllcghaa
open Go.ChangeShapes Go.WideShapes Go.ChangeAt Go.RowKit Fl Go.Joins Go.Deep

theorem Try.cells28 : Try.prog.cellsOf 28 = 9 := by kernel_rfl

theorem array9 {α : Type} {cs : Array α} (h : cs.size = 9) : ∃ c0 c1 c2 c3 c4 c5 c6 c7 c8, cs = #[c0, c1, c2, c3, c4, c5, c6, c7, c8] := by
  obtain ⟨l⟩ := cs
  match l, h with
  | [c0, c1, c2, c3, c4, c5, c6, c7, c8], _ => exact ⟨c0, c1, c2, c3, c4, c5, c6, c7, c8, rfl⟩

section
variable {H : Type} {enc : TypeId × Value → H} {W : World} {base : Nat} {spare : Nat → Bool} {held : Bool}

theorem trod_vec {n : Nat} {c0 c1 c2 : Value} {y : DataW H × List MemPlace} (h : DataW.trod enc Try.prog W base spare held n 24 [c0, c1, c2] = some y) :
    ∃ x y' z, c0 = .float .f64 x ∧ c1 = .float .f64 y' ∧ c2 = .float .f64 z ∧ y = (.agg [.lit (.float .f64 x), .lit (.float .f64 y'), .lit (.float .f64 z)], []) ∧
      (Lit.float .f64 x).wf = true ∧ (Lit.float .f64 y').wf = true ∧ (Lit.float .f64 z).wf = true := by
  obtain ⟨y0, y1, y2, m, hx, _, h0, h1, h2⟩ := trod_struct3 Try.underlying24 h
  have k : Try.prog.cellsOf 22 = 1 := by kernel_rfl
  simp only [k, List.drop_zero, List.drop_succ_cons, List.take_succ_cons, List.take_zero] at h0 h1 h2
  obtain ⟨x, e0, rfl, wx⟩ := trod_float Try.underlying22 h0
  obtain ⟨y', e1, rfl, wy⟩ := trod_float Try.underlying22 h1
  obtain ⟨z, e2, rfl, wz⟩ := trod_float Try.underlying22 h2
  simp at e0 e1 e2
  subst e0 e1 e2 hx
  exact ⟨x, y', z, rfl, rfl, rfl, rfl, wx, wy, wz⟩

theorem trod_vec_mk {x y z : Nat} (wx : (Lit.float .f64 x).wf = true) (wy : (Lit.float .f64 y).wf = true) (wz : (Lit.float .f64 z).wf = true) :
    DataW.trod enc Try.prog W base spare held 2 24 [.float .f64 x, .float .f64 y, .float .f64 z] = some (.agg [.lit (.float .f64 x), .lit (.float .f64 y), .lit (.float .f64 z)], []) := by
  have k : Try.prog.cellsOf 22 = 1 := by kernel_rfl
  refine trod_struct3_mk (n := 1) (y0 := (.lit (.float .f64 x), [])) (y1 := (.lit (.float .f64 y), [])) (y2 := (.lit (.float .f64 z), [])) Try.underlying24 (by rw [Try.cells24]; rfl) ?_ ?_ ?_ <;>
  simp only [k, List.drop_zero, List.drop_succ_cons, List.take_succ_cons, List.take_zero] <;> simp [DataW.trod, Try.underlying22, wx, wy, wz]

theorem open_frame {r : Reach} {b0 : Nat} {v : Value} {d : DataW H} {ps : List MemPlace} (hv : Value.okWide Try.prog W r b0 28 v) (h : DataW.Trod enc Try.prog W base spare held 28 v d ps) :
    ∃ tx ty tz bx bY bz nx ny nz, v = .agg #[.float .f64 tx, .float .f64 ty, .float .f64 tz, .float .f64 bx, .float .f64 bY, .float .f64 bz, .float .f64 nx, .float .f64 ny, .float .f64 nz] ∧
      d = .agg [.agg [.lit (.float .f64 tx), .lit (.float .f64 ty), .lit (.float .f64 tz)], .agg [.lit (.float .f64 bx), .lit (.float .f64 bY), .lit (.float .f64 bz)], .agg [.lit (.float .f64 nx), .lit (.float .f64 ny), .lit (.float .f64 nz)]] ∧ ps = [] ∧
      ((Lit.float .f64 tx).wf = true ∧ (Lit.float .f64 ty).wf = true ∧ (Lit.float .f64 tz).wf = true) ∧ ((Lit.float .f64 bx).wf = true ∧ (Lit.float .f64 bY).wf = true ∧ (Lit.float .f64 bz).wf = true) ∧ ((Lit.float .f64 nx).wf = true ∧ (Lit.float .f64 ny).wf = true ∧ (Lit.float .f64 nz).wf = true) := by
  obtain ⟨cs, rfl, hsz⟩ := okWide_struct Try.underlying28 hv
  obtain ⟨c0, c1, c2, c3, c4, c5, c6, c7, c8, rfl⟩ := array9 (hsz.trans Try.cells28)
  obtain ⟨fuel, hf⟩ := h
  obtain ⟨y0, y1, y2, m, hx, _, h0, h1, h2⟩ := trod_struct3 Try.underlying28 hf
  simp only [Value.cells, Try.cells24, List.drop_zero, List.drop_succ_cons, List.take_succ_cons, List.take_zero] at h0 h1 h2
  obtain ⟨tx, ty, tz, rfl, rfl, rfl, rfl, w0, w1, w2⟩ := trod_vec h0
  obtain ⟨bx, bY, bz, rfl, rfl, rfl, rfl, w3, w4, w5⟩ := trod_vec h1
  obtain ⟨nx, ny, nz, rfl, rfl, rfl, rfl, w6, w7, w8⟩ := trod_vec h2
  simp only [Prod.mk.injEq] at hx
  exact ⟨tx, ty, tz, bx, bY, bz, nx, ny, nz, rfl, hx.1, hx.2, ⟨w0, w1, w2⟩, ⟨w3, w4, w5⟩, ⟨w6, w7, w8⟩⟩

theorem shut_frame {tx ty tz bx bY bz nx ny nz : Nat} (ht : (Lit.float .f64 tx).wf = true ∧ (Lit.float .f64 ty).wf = true ∧ (Lit.float .f64 tz).wf = true) (hb : (Lit.float .f64 bx).wf = true ∧ (Lit.float .f64 bY).wf = true ∧ (Lit.float .f64 bz).wf = true) (hn : (Lit.float .f64 nx).wf = true ∧ (Lit.float .f64 ny).wf = true ∧ (Lit.float .f64 nz).wf = true) :
    DataW.Trod enc Try.prog W base spare held 28 (.agg #[.float .f64 tx, .float .f64 ty, .float .f64 tz, .float .f64 bx, .float .f64 bY, .float .f64 bz, .float .f64 nx, .float .f64 ny, .float .f64 nz])
      (.agg [.agg [.lit (.float .f64 tx), .lit (.float .f64 ty), .lit (.float .f64 tz)], .agg [.lit (.float .f64 bx), .lit (.float .f64 bY), .lit (.float .f64 bz)], .agg [.lit (.float .f64 nx), .lit (.float .f64 ny), .lit (.float .f64 nz)]]) [] := by
  refine ⟨3, ?_⟩
  refine trod_struct3_mk (n := 2) (y0 := (_, [])) (y1 := (_, [])) (y2 := (_, [])) Try.underlying28 (by rw [Try.cells28]; rfl) ?_ ?_ ?_ <;>
  simp only [Value.cells, Try.cells24, List.drop_zero, List.drop_succ_cons, List.take_succ_cons, List.take_zero]
  · exact trod_vec_mk ht.1 ht.2.1 ht.2.2
  · exact trod_vec_mk hb.1 hb.2.1 hb.2.2
  · exact trod_vec_mk hn.1 hn.2.1 hn.2.2
end
end Go.Proofs.Ytkcchnepllcghaa
