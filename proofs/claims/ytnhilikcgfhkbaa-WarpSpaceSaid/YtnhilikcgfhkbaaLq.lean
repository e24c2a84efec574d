/- Blocks that are known whole; a world told by what is known of it. -/
import Derived.Test.YtnhilikcgfhkbaaLp
namespace Go.Proofs.Ytnhilikcgfhkbaa.Lp
open Go.RowKit Fl

/-- Block b holds these cells. -/
def Bk (w : World) (b : Nat) (vs : Array Value) (t : TypeId) : Prop := w.heap[b]? = some (.cells vs t)
section
variable {w w' : World} {b : Nat} {vs : Array Value} {t : TypeId}
theorem Bk.cell (h : Bk w b vs t) : ∀ i, w.cell? ⟨b, i, none⟩ = vs[i]? := (blk h).1
theorem Bk.frz (h : Bk w b vs t) : ∀ i, w.frozen? ⟨b, i, none⟩ = false := (blk h).2
theorem Bk.lt (h : Bk w b vs t) : b < w.heap.size := (Array.getElem?_eq_some_iff.1 h).1
theorem Bk.keep (h : Bk w b vs t) (hb : Below w.heap.size w w') : Bk w' b vs t := (hb.block b h.lt).trans h
theorem Bk.al (w : World) (vs : Array Value) (t : TypeId) : Bk (w.alloc (.cells vs t)) w.heap.size vs t := by show (w.heap.push _)[w.heap.size]? = _; simp
theorem Bk.al1 (w : World) (o : Obj) (vs : Array Value) (t : TypeId) : Bk ((w.alloc o).alloc (.cells vs t)) (w.heap.size + 1) vs t := by have := Bk.al (w.alloc o) vs t; simpa using this
theorem Bk.al2 (w : World) (o o2 : Obj) (vs : Array Value) (t : TypeId) : Bk (((w.alloc o).alloc o2).alloc (.cells vs t)) (w.heap.size + 1 + 1) vs t := by have := Bk.al ((w.alloc o).alloc o2) vs t; simpa using this
theorem Bk.al3 (w : World) (o o2 o3 : Obj) (vs : Array Value) (t : TypeId) : Bk ((((w.alloc o).alloc o2).alloc o3).alloc (.cells vs t)) (w.heap.size + 1 + 1 + 1) vs t := by have := Bk.al (((w.alloc o).alloc o2).alloc o3) vs t; simpa using this
theorem Bk.alo (h : Bk w b vs t) (o : Obj) : Bk (w.alloc o) b vs t := h.keep ((Below.refl _ _).alloc (Nat.le_refl _) _)
theorem Bk.dr (h : Bk w b vs t) (n : Nat) : Bk (w.drewN n) b vs t := h
theorem Bk.drew (h : Bk w b vs t) : Bk w.drew b vs t := h
theorem Bk.set (h : Bk w b vs t) (i : Nat) (u : Value) : Bk (w.setCell ⟨b, i, none⟩ u) b (vs.setIfInBounds i u) t := by
  unfold Bk at *
  show (w.heap.modify b _)[b]? = _
  rw [Array.getElem?_modify, if_pos rfl, h]
  rfl
theorem Bk.seto (h : Bk w b vs t) {p : Addr} (hne : b ≠ p.block) (u : Value) : Bk (w.setCell p u) b vs t := (Below.heap_setCell w p u b hne).trans h
theorem Bk.set3 {y0 y1 y2 x0 x1 x2 : Value} (h : Bk w b #[y0, y1, y2] t) : Bk (((w.setCell ⟨b, 0, none⟩ x0).setCell ⟨b, 1, none⟩ x1).setCell ⟨b, 2, none⟩ x2) b #[x0, x1, x2] t :=
  ((h.set 0 x0).set 1 x1).set 2 x2
theorem Bk.set6 {y0 y1 y2 y3 y4 y5 x0 x1 x2 x3 x4 x5 : Value} (h : Bk w b #[y0, y1, y2, y3, y4, y5] t) : Bk ((((((w.setCell ⟨b, 0, none⟩ x0).setCell ⟨b, 1, none⟩ x1).setCell ⟨b, 2, none⟩ x2).setCell ⟨b, 3, none⟩ x3).setCell ⟨b, 4, none⟩ x4).setCell ⟨b, 5, none⟩ x5) b #[x0, x1, x2, x3, x4, x5] t :=
  (((((h.set 0 x0).set 1 x1).set 2 x2).set 3 x3).set 4 x4).set 5 x5
theorem Bk.set1 {y0 x0 : Value} (h : Bk w b #[y0] t) : Bk (w.setCell ⟨b, 0, none⟩ x0) b #[x0] t := h.set 0 x0
theorem Bk.cl (h : Bk w b vs t) (hb : Cl w w') : Bk w' b vs t := h.keep hb
end
/-- The rest of the walk, from a world of which this is known. -/
theorem settle {P : Program} {c : Code} {Q : Exit → Act → World → Prop} {a : Act} {w : World} (F : World → Prop) (hF : F w) (h : ∀ w', F w' → c.wp P Q a w') : c.wp P Q a w := h w hF
theorem settleC {P : Program} {f : FuncId} {args : Array Value} {K : Ending → World → Prop} {w : World} (F : World → Prop) (hF : F w) (h : ∀ w', F w' → Calls P f args w' K) : Calls P f args w K := h w hF
theorem settleU {P : Program} {o : Oper} {a : Act} {K : Act → World → Prop} {Q : Exit → Act → World → Prop} {v : Value} {w : World} (F : World → Prop) (hF : F w) (h : ∀ w', F w' → Oper.upon P o a K Q (.ok (.value v) w')) : Oper.upon P o a K Q (.ok (.value v) w) := h w hF
theorem wpLoose_facts {P : Program} {ops : Array Oper} {Q : Exit → Act → World → Prop} {W : World} {F : World → Prop} {kds : List Kd} {m : Nat} {l : List Oper} {a : Act} {G : World → Prop} (hF : ∀ w', Cl W w' → F w') (h : Hid (∀ w', Cl W w' → F w') → wpLoose P ops (Cl W) Q kds m l a G) : wpLoose P ops (Cl W) Q kds m l a G := h hF
end Go.Proofs.Ytnhilikcgfhkbaa.Lp
