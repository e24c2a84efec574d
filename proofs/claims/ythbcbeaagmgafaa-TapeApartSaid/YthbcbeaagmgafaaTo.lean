/- Structs of whole numbers that come in, opened and shut. -/
import Derived.Test.YthbcbeaagmgafaaVo
namespace Go.Proofs.Ythbcbeaagmgafaa
open Go.ChangeShapes Go.WideShapes Go.ChangeAt Go.RowKit Fl Go.Joins Go.Deep

theorem Try.cells36 : Try.prog.cellsOf 36 = 4 := by kernel_rfl

theorem array_conf {α : Type} {cs : Array α} (h : cs.size = 4) : ∃ c0 c1 c2 c3, cs = #[c0, c1, c2, c3] := by
  obtain ⟨l⟩ := cs
  match l, h with
  | [c0, c1, c2, c3], _ => exact ⟨c0, c1, c2, c3, rfl⟩

theorem open_conf {H : Type} {enc : TypeId × Value → H} {W : World} {base : Nat} {spare : Nat → Bool} {held : Bool} {r : Reach} {b0 : Nat} {v : Value} {d : DataW H} {ps : List MemPlace} (hv : Value.okWide Try.prog W r b0 36 v) (h : DataW.Trod enc Try.prog W base spare held 36 v d ps) :
    ∃ z0 z1 z2 z3, v = .agg #[.int .i64 z0, .int .i64 z1, .int .i64 z2, .int .i64 z3] ∧ d = .agg [.lit (.int .i64 z0), .lit (.int .i64 z1), .lit (.int .i64 z2), .lit (.int .i64 z3)] ∧ ps = [] ∧ (Lit.int .i64 z0).wf = true ∧ (Lit.int .i64 z1).wf = true ∧ (Lit.int .i64 z2).wf = true ∧ (Lit.int .i64 z3).wf = true := by
  obtain ⟨cs, rfl, hsz⟩ := okWide_struct Try.underlying36 hv
  obtain ⟨c0, c1, c2, c3, rfl⟩ := array_conf (hsz.trans Try.cells36)
  obtain ⟨fuel, hf⟩ := h
  obtain ⟨xs, n, _, hx, hl, hlen, hfs⟩ := DataW.trod_struct Try.underlying36 hf
  have k : Try.prog.cellsOf 3 = 1 := by kernel_rfl
  match xs, hlen with
  | [y0, y1, y2, y3], _ =>
    have h0 : DataW.trod enc Try.prog W base spare held n 3 [c0] = some y0 := by simpa [Value.cells, k] using hfs 0 _ rfl
    obtain ⟨z0, e0, rfl, w0⟩ := DataW.trod_int Try.underlying3 h0
    simp only [List.cons.injEq, and_true] at e0
    subst e0
    have h1 : DataW.trod enc Try.prog W base spare held n 3 [c1] = some y1 := by simpa [Value.cells, k] using hfs 1 _ rfl
    obtain ⟨z1, e1, rfl, w1⟩ := DataW.trod_int Try.underlying3 h1
    simp only [List.cons.injEq, and_true] at e1
    subst e1
    have h2 : DataW.trod enc Try.prog W base spare held n 3 [c2] = some y2 := by simpa [Value.cells, k] using hfs 2 _ rfl
    obtain ⟨z2, e2, rfl, w2⟩ := DataW.trod_int Try.underlying3 h2
    simp only [List.cons.injEq, and_true] at e2
    subst e2
    have h3 : DataW.trod enc Try.prog W base spare held n 3 [c3] = some y3 := by simpa [Value.cells, k] using hfs 3 _ rfl
    obtain ⟨z3, e3, rfl, w3⟩ := DataW.trod_int Try.underlying3 h3
    simp only [List.cons.injEq, and_true] at e3
    subst e3
    simp only [List.map_cons, List.map_nil, List.flatMap_cons, List.flatMap_nil, List.append_nil, Prod.mk.injEq] at hx
    exact ⟨z0, z1, z2, z3, rfl, hx.1, hx.2, w0, w1, w2, w3⟩

theorem shut_conf {H : Type} {enc : TypeId × Value → H} {W : World} {base : Nat} {spare : Nat → Bool} {held : Bool} {z0 z1 z2 z3 : Int} (hw : (Lit.int .i64 z0).wf = true ∧ (Lit.int .i64 z1).wf = true ∧ (Lit.int .i64 z2).wf = true ∧ (Lit.int .i64 z3).wf = true) :
    DataW.Trod enc Try.prog W base spare held 36 (.agg #[.int .i64 z0, .int .i64 z1, .int .i64 z2, .int .i64 z3]) (.agg [.lit (.int .i64 z0), .lit (.int .i64 z1), .lit (.int .i64 z2), .lit (.int .i64 z3)]) [] := by
  obtain ⟨w0, w1, w2, w3⟩ := hw
  have k : Try.prog.cellsOf 3 = 1 := by kernel_rfl
  refine ⟨2, ?_⟩
  have h := trod_struct_mk (enc := enc) (w := W) (base := base) (spare := spare) (held := held) (n := 1) (cs := [.int .i64 z0, .int .i64 z1, .int .i64 z2, .int .i64 z3]) (xs := [(.lit (.int .i64 z0), []), (.lit (.int .i64 z1), []), (.lit (.int .i64 z2), []), (.lit (.int .i64 z3), [])]) Try.underlying36 (by rw [Try.cells36]; rfl) (by simp [DataW.trod, Try.underlying3, k, w0, w1, w2, w3])
  simpa [Value.cells] using h

theorem Try.cells43 : Try.prog.cellsOf 43 = 12 := by kernel_rfl

theorem array_places {α : Type} {cs : Array α} (h : cs.size = 12) : ∃ c0 c1 c2 c3 c4 c5 c6 c7 c8 c9 c10 c11, cs = #[c0, c1, c2, c3, c4, c5, c6, c7, c8, c9, c10, c11] := by
  obtain ⟨l⟩ := cs
  match l, h with
  | [c0, c1, c2, c3, c4, c5, c6, c7, c8, c9, c10, c11], _ => exact ⟨c0, c1, c2, c3, c4, c5, c6, c7, c8, c9, c10, c11, rfl⟩

theorem open_places {H : Type} {enc : TypeId × Value → H} {W : World} {base : Nat} {spare : Nat → Bool} {held : Bool} {r : Reach} {b0 : Nat} {v : Value} {d : DataW H} {ps : List MemPlace} (hv : Value.okWide Try.prog W r b0 43 v) (h : DataW.Trod enc Try.prog W base spare held 43 v d ps) :
    ∃ z0 z1 z2 z3 z4 z5 z6 z7 z8 z9 z10 z11, v = .agg #[.int .i64 z0, .int .i64 z1, .int .i64 z2, .int .i64 z3, .int .i64 z4, .int .i64 z5, .int .i64 z6, .int .i64 z7, .int .i64 z8, .int .i64 z9, .int .i64 z10, .int .i64 z11] ∧ d = .agg [.lit (.int .i64 z0), .lit (.int .i64 z1), .lit (.int .i64 z2), .lit (.int .i64 z3), .lit (.int .i64 z4), .lit (.int .i64 z5), .lit (.int .i64 z6), .lit (.int .i64 z7), .lit (.int .i64 z8), .lit (.int .i64 z9), .lit (.int .i64 z10), .lit (.int .i64 z11)] ∧ ps = [] ∧ (Lit.int .i64 z0).wf = true ∧ (Lit.int .i64 z1).wf = true ∧ (Lit.int .i64 z2).wf = true ∧ (Lit.int .i64 z3).wf = true ∧ (Lit.int .i64 z4).wf = true ∧ (Lit.int .i64 z5).wf = true ∧ (Lit.int .i64 z6).wf = true ∧ (Lit.int .i64 z7).wf = true ∧ (Lit.int .i64 z8).wf = true ∧ (Lit.int .i64 z9).wf = true ∧ (Lit.int .i64 z10).wf = true ∧ (Lit.int .i64 z11).wf = true := by
  obtain ⟨cs, rfl, hsz⟩ := okWide_struct Try.underlying43 hv
  obtain ⟨c0, c1, c2, c3, c4, c5, c6, c7, c8, c9, c10, c11, rfl⟩ := array_places (hsz.trans Try.cells43)
  obtain ⟨fuel, hf⟩ := h
  obtain ⟨xs, n, _, hx, hl, hlen, hfs⟩ := DataW.trod_struct Try.underlying43 hf
  have k : Try.prog.cellsOf 3 = 1 := by kernel_rfl
  match xs, hlen with
  | [y0, y1, y2, y3, y4, y5, y6, y7, y8, y9, y10, y11], _ =>
    have h0 : DataW.trod enc Try.prog W base spare held n 3 [c0] = some y0 := by simpa [Value.cells, k] using hfs 0 _ rfl
    obtain ⟨z0, e0, rfl, w0⟩ := DataW.trod_int Try.underlying3 h0
    simp only [List.cons.injEq, and_true] at e0
    subst e0
    have h1 : DataW.trod enc Try.prog W base spare held n 3 [c1] = some y1 := by simpa [Value.cells, k] using hfs 1 _ rfl
    obtain ⟨z1, e1, rfl, w1⟩ := DataW.trod_int Try.underlying3 h1
    simp only [List.cons.injEq, and_true] at e1
    subst e1
    have h2 : DataW.trod enc Try.prog W base spare held n 3 [c2] = some y2 := by simpa [Value.cells, k] using hfs 2 _ rfl
    obtain ⟨z2, e2, rfl, w2⟩ := DataW.trod_int Try.underlying3 h2
    simp only [List.cons.injEq, and_true] at e2
    subst e2
    have h3 : DataW.trod enc Try.prog W base spare held n 3 [c3] = some y3 := by simpa [Value.cells, k] using hfs 3 _ rfl
    obtain ⟨z3, e3, rfl, w3⟩ := DataW.trod_int Try.underlying3 h3
    simp only [List.cons.injEq, and_true] at e3
    subst e3
    have h4 : DataW.trod enc Try.prog W base spare held n 3 [c4] = some y4 := by simpa [Value.cells, k] using hfs 4 _ rfl
    obtain ⟨z4, e4, rfl, w4⟩ := DataW.trod_int Try.underlying3 h4
    simp only [List.cons.injEq, and_true] at e4
    subst e4
    have h5 : DataW.trod enc Try.prog W base spare held n 3 [c5] = some y5 := by simpa [Value.cells, k] using hfs 5 _ rfl
    obtain ⟨z5, e5, rfl, w5⟩ := DataW.trod_int Try.underlying3 h5
    simp only [List.cons.injEq, and_true] at e5
    subst e5
    have h6 : DataW.trod enc Try.prog W base spare held n 3 [c6] = some y6 := by simpa [Value.cells, k] using hfs 6 _ rfl
    obtain ⟨z6, e6, rfl, w6⟩ := DataW.trod_int Try.underlying3 h6
    simp only [List.cons.injEq, and_true] at e6
    subst e6
    have h7 : DataW.trod enc Try.prog W base spare held n 3 [c7] = some y7 := by simpa [Value.cells, k] using hfs 7 _ rfl
    obtain ⟨z7, e7, rfl, w7⟩ := DataW.trod_int Try.underlying3 h7
    simp only [List.cons.injEq, and_true] at e7
    subst e7
    have h8 : DataW.trod enc Try.prog W base spare held n 3 [c8] = some y8 := by simpa [Value.cells, k] using hfs 8 _ rfl
    obtain ⟨z8, e8, rfl, w8⟩ := DataW.trod_int Try.underlying3 h8
    simp only [List.cons.injEq, and_true] at e8
    subst e8
    have h9 : DataW.trod enc Try.prog W base spare held n 3 [c9] = some y9 := by simpa [Value.cells, k] using hfs 9 _ rfl
    obtain ⟨z9, e9, rfl, w9⟩ := DataW.trod_int Try.underlying3 h9
    simp only [List.cons.injEq, and_true] at e9
    subst e9
    have h10 : DataW.trod enc Try.prog W base spare held n 3 [c10] = some y10 := by simpa [Value.cells, k] using hfs 10 _ rfl
    obtain ⟨z10, e10, rfl, w10⟩ := DataW.trod_int Try.underlying3 h10
    simp only [List.cons.injEq, and_true] at e10
    subst e10
    have h11 : DataW.trod enc Try.prog W base spare held n 3 [c11] = some y11 := by simpa [Value.cells, k] using hfs 11 _ rfl
    obtain ⟨z11, e11, rfl, w11⟩ := DataW.trod_int Try.underlying3 h11
    simp only [List.cons.injEq, and_true] at e11
    subst e11
    simp only [List.map_cons, List.map_nil, List.flatMap_cons, List.flatMap_nil, List.append_nil, Prod.mk.injEq] at hx
    exact ⟨z0, z1, z2, z3, z4, z5, z6, z7, z8, z9, z10, z11, rfl, hx.1, hx.2, w0, w1, w2, w3, w4, w5, w6, w7, w8, w9, w10, w11⟩

theorem shut_places {H : Type} {enc : TypeId × Value → H} {W : World} {base : Nat} {spare : Nat → Bool} {held : Bool} {z0 z1 z2 z3 z4 z5 z6 z7 z8 z9 z10 z11 : Int} (hw : (Lit.int .i64 z0).wf = true ∧ (Lit.int .i64 z1).wf = true ∧ (Lit.int .i64 z2).wf = true ∧ (Lit.int .i64 z3).wf = true ∧ (Lit.int .i64 z4).wf = true ∧ (Lit.int .i64 z5).wf = true ∧ (Lit.int .i64 z6).wf = true ∧ (Lit.int .i64 z7).wf = true ∧ (Lit.int .i64 z8).wf = true ∧ (Lit.int .i64 z9).wf = true ∧ (Lit.int .i64 z10).wf = true ∧ (Lit.int .i64 z11).wf = true) :
    DataW.Trod enc Try.prog W base spare held 43 (.agg #[.int .i64 z0, .int .i64 z1, .int .i64 z2, .int .i64 z3, .int .i64 z4, .int .i64 z5, .int .i64 z6, .int .i64 z7, .int .i64 z8, .int .i64 z9, .int .i64 z10, .int .i64 z11]) (.agg [.lit (.int .i64 z0), .lit (.int .i64 z1), .lit (.int .i64 z2), .lit (.int .i64 z3), .lit (.int .i64 z4), .lit (.int .i64 z5), .lit (.int .i64 z6), .lit (.int .i64 z7), .lit (.int .i64 z8), .lit (.int .i64 z9), .lit (.int .i64 z10), .lit (.int .i64 z11)]) [] := by
  obtain ⟨w0, w1, w2, w3, w4, w5, w6, w7, w8, w9, w10, w11⟩ := hw
  have k : Try.prog.cellsOf 3 = 1 := by kernel_rfl
  refine ⟨2, ?_⟩
  have h := trod_struct_mk (enc := enc) (w := W) (base := base) (spare := spare) (held := held) (n := 1) (cs := [.int .i64 z0, .int .i64 z1, .int .i64 z2, .int .i64 z3, .int .i64 z4, .int .i64 z5, .int .i64 z6, .int .i64 z7, .int .i64 z8, .int .i64 z9, .int .i64 z10, .int .i64 z11]) (xs := [(.lit (.int .i64 z0), []), (.lit (.int .i64 z1), []), (.lit (.int .i64 z2), []), (.lit (.int .i64 z3), []), (.lit (.int .i64 z4), []), (.lit (.int .i64 z5), []), (.lit (.int .i64 z6), []), (.lit (.int .i64 z7), []), (.lit (.int .i64 z8), []), (.lit (.int .i64 z9), []), (.lit (.int .i64 z10), []), (.lit (.int .i64 z11), [])]) Try.underlying43 (by rw [Try.cells43]; rfl) (by simp [DataW.trod, Try.underlying3, k, w0, w1, w2, w3, w4, w5, w6, w7, w8, w9, w10, w11])
  simpa [Value.cells] using h

end Go.Proofs.Ythbcbeaagmgafaa
