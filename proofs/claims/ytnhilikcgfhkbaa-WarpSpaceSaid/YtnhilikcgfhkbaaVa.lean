/- How a call is told: the value that it gives, up to a relation, and that what was there is as it was. -/
import Derived.WalkKit
import Derived.WalkSpells
import Derived.WalkLawsBesides
import Derived.Test.YtnhilikcgfhkbaaLo
namespace Go.Proofs.Ytnhilikcgfhkbaa.Fl
open Go.RowKit

theorem Sm.of_eq {x y : Nat} (h : x = y) : Sm x y := h ▸ Sm.refl x
/-- A float, up to which NaN. -/
def isF (z : Nat) (v : Value) : Prop := ∃ r, v = .float .f64 r ∧ Eqv r z
/-- A vector, likewise. -/
def isV (x y z : Nat) (v : Value) : Prop := ∃ a b c, v = .agg #[.float .f64 a, .float .f64 b, .float .f64 c] ∧ Eqv a x ∧ Eqv b y ∧ Eqv c z

theorem isV.to {x y z x' y' z' : Nat} (hx : x = x') (hy : y = y') (hz : z = z') : ∀ v, isV x y z v → isV x' y' z' v := by
  subst hx; subst hy; subst hz; exact fun _ h => h

theorem below_dr {B : Nat} {a w : World} (h : Below B a w) (n : Nat) : Below B a (w.drewN n) := ⟨h.os, h.tape, h.output, h.size, h.block⟩

/-- The call returns a value of V; nothing that was there is turned. -/
def Ret (P : Program) (f : FuncId) (args : Array Value) (w : World) (V : Value → Prop) : Prop :=
  Calls P f args w fun e w' => ∃ v, e = .returned v ∧ V v ∧ Below w.heap.size w w'

theorem Ret.mono {P : Program} {f : FuncId} {args : Array Value} {w : World} {V V' : Value → Prop} (h : Ret P f args w V) (hv : ∀ v, V v → V' v) : Ret P f args w V' :=
  Calls.mono h fun _ _ ⟨v, he, hV, hb⟩ => ⟨v, he, hv v hV, hb⟩

section
variable {P : Program}
/-- The walk's law at an operation on floats. -/
theorem upon_fbin {o : Oper} {a : Act} {K : Act → World → Prop} {Q : Exit → Act → World → Prop} {op : BinOp} {t : TypeId} {x y : Nat} {w : World} (hop : op = .add ∨ op = .sub ∨ op = .mul ∨ op = .quo)
    (h : ∀ r n, Eqv r (fbin op x y) → Oper.upon P o a K Q (.ok (.value (.float .f64 r)) (w.drewN n))) :
    Oper.upon P o a K Q ((Sem.run P (binOp op t (.float .f64 x) (.float .f64 y)) w).andThen fun a w' => Result.ok (Next.value a) w') := by
  obtain ⟨r, n, e, hr⟩ := run_fbin (P := P) op hop t x y w
  rw [e]
  exact h r n hr
theorem upon_add {o : Oper} {a : Act} {K : Act → World → Prop} {Q : Exit → Act → World → Prop} {t : TypeId} {x y X Y : Nat} {w : World} (hx : Sm x X) (hy : Sm y Y)
    (h : ∀ r n, Eqv r (fadd X Y) → Oper.upon P o a K Q (.ok (.value (.float .f64 r)) (w.drewN n))) :
    Oper.upon P o a K Q ((Sem.run P (binOp .add t (.float .f64 x) (.float .f64 y)) w).andThen fun a w' => Result.ok (Next.value a) w') :=
  upon_fbin (.inl rfl) fun r n hr => h r n (hr.to (Sm.of_eq (fadd_congr hx hy)))
theorem upon_sub {o : Oper} {a : Act} {K : Act → World → Prop} {Q : Exit → Act → World → Prop} {t : TypeId} {x y X Y : Nat} {w : World} (hx : Sm x X) (hy : Sm y Y)
    (h : ∀ r n, Eqv r (fsub X Y) → Oper.upon P o a K Q (.ok (.value (.float .f64 r)) (w.drewN n))) :
    Oper.upon P o a K Q ((Sem.run P (binOp .sub t (.float .f64 x) (.float .f64 y)) w).andThen fun a w' => Result.ok (Next.value a) w') :=
  upon_fbin (.inr (.inl rfl)) fun r n hr => h r n (hr.to (Sm.of_eq (fsub_congr hx hy)))
theorem upon_mul {o : Oper} {a : Act} {K : Act → World → Prop} {Q : Exit → Act → World → Prop} {t : TypeId} {x y X Y : Nat} {w : World} (hx : Sm x X) (hy : Sm y Y)
    (h : ∀ r n, Eqv r (fmul X Y) → Oper.upon P o a K Q (.ok (.value (.float .f64 r)) (w.drewN n))) :
    Oper.upon P o a K Q ((Sem.run P (binOp .mul t (.float .f64 x) (.float .f64 y)) w).andThen fun a w' => Result.ok (Next.value a) w') :=
  upon_fbin (.inr (.inr (.inl rfl))) fun r n hr => h r n (hr.to (Sm.of_eq (fmul_congr hx hy)))
theorem upon_div {o : Oper} {a : Act} {K : Act → World → Prop} {Q : Exit → Act → World → Prop} {t : TypeId} {x y X Y : Nat} {w : World} (hx : Sm x X) (hy : Sm y Y)
    (h : ∀ r n, Eqv r (fdiv X Y) → Oper.upon P o a K Q (.ok (.value (.float .f64 r)) (w.drewN n))) :
    Oper.upon P o a K Q ((Sem.run P (binOp .quo t (.float .f64 x) (.float .f64 y)) w).andThen fun a w' => Result.ok (Next.value a) w') :=
  upon_fbin (.inr (.inr (.inr rfl))) fun r n hr => h r n (hr.to (Sm.of_eq (fdiv_congr hx hy)))

theorem loose_fbin {C : World → Prop} {V : Value → Prop} {op : BinOp} {t : TypeId} {x y : Nat} {w : World} (hop : op = .add ∨ op = .sub ∨ op = .mul ∨ op = .quo)
    (hC : ∀ n, C (w.drewN n)) (h : ∀ r, Eqv r (fbin op x y) → V (.float .f64 r)) :
    looseUpon P C V ((Sem.run P (binOp op t (.float .f64 x) (.float .f64 y)) w).andThen fun a w' => Result.ok (Next.value a) w') := by
  obtain ⟨r, n, e, hr⟩ := run_fbin (P := P) op hop t x y w
  rw [e]
  exact ⟨h r hr, hC n⟩
theorem loose_add {C : World → Prop} {t : TypeId} {x y X Y : Nat} {w : World} (hx : Sm x X) (hy : Sm y Y) (hC : ∀ n, C (w.drewN n)) :
    looseUpon P C (isF (fadd X Y)) ((Sem.run P (binOp .add t (.float .f64 x) (.float .f64 y)) w).andThen fun a w' => Result.ok (Next.value a) w') :=
  loose_fbin (.inl rfl) hC fun r hr => ⟨r, rfl, hr.to (Sm.of_eq (fadd_congr hx hy))⟩
theorem loose_sub {C : World → Prop} {t : TypeId} {x y X Y : Nat} {w : World} (hx : Sm x X) (hy : Sm y Y) (hC : ∀ n, C (w.drewN n)) :
    looseUpon P C (isF (fsub X Y)) ((Sem.run P (binOp .sub t (.float .f64 x) (.float .f64 y)) w).andThen fun a w' => Result.ok (Next.value a) w') :=
  loose_fbin (.inr (.inl rfl)) hC fun r hr => ⟨r, rfl, hr.to (Sm.of_eq (fsub_congr hx hy))⟩
theorem loose_mul {C : World → Prop} {t : TypeId} {x y X Y : Nat} {w : World} (hx : Sm x X) (hy : Sm y Y) (hC : ∀ n, C (w.drewN n)) :
    looseUpon P C (isF (fmul X Y)) ((Sem.run P (binOp .mul t (.float .f64 x) (.float .f64 y)) w).andThen fun a w' => Result.ok (Next.value a) w') :=
  loose_fbin (.inr (.inr (.inl rfl))) hC fun r hr => ⟨r, rfl, hr.to (Sm.of_eq (fmul_congr hx hy))⟩
theorem loose_div {C : World → Prop} {t : TypeId} {x y X Y : Nat} {w : World} (hx : Sm x X) (hy : Sm y Y) (hC : ∀ n, C (w.drewN n)) :
    looseUpon P C (isF (fdiv X Y)) ((Sem.run P (binOp .quo t (.float .f64 x) (.float .f64 y)) w).andThen fun a w' => Result.ok (Next.value a) w') :=
  loose_fbin (.inr (.inr (.inr rfl))) hC fun r hr => ⟨r, rfl, hr.to (Sm.of_eq (fdiv_congr hx hy))⟩

/-- The class of worlds of a region: what stood at its head is as it was. -/
def Cl (W : World) : World → Prop := fun w' => Below W.heap.size W w'
theorem Cl.drew (W : World) : Cl W W.drew := (Below.refl _ _).drew
theorem Cl.drewN {W w : World} (h : Cl W w) (n : Nat) : Cl W (w.drewN n) := below_dr h n
theorem Cl.call {W w w' : World} (h : Cl W w) (hb : Below w.heap.size w w') : Cl W w' := Below.trans h (hb.mono h.size)

theorem Cl.alloc {W w : World} (h : Cl W w) (o : Obj) : Cl W (w.alloc o) := Below.alloc h h.size o
theorem Cl.setCell {W w : World} (h : Cl W w) {p : Addr} (hp : W.heap.size ≤ p.block) (u : Value) : Cl W (w.setCell p u) := Below.setCell h hp u
theorem Cl.out1 {w w' : World} {o1 : Obj} (h : Cl (w.alloc o1) w') : Below w.heap.size w w' :=
  ((Below.refl _ _).alloc (Nat.le_refl _) _).trans (Below.mono h (by simp))
theorem Cl.out2 {w w' : World} {o1 o2 : Obj} (h : Cl ((w.alloc o1).alloc o2) w') : Below w.heap.size w w' :=
  (((Below.refl _ _).alloc (Nat.le_refl _) _).alloc (by simp) _).trans (Below.mono h (by simp; omega))
theorem Cl.out3 {w w' : World} {o1 o2 o3 : Obj} (h : Cl (((w.alloc o1).alloc o2).alloc o3) w') : Below w.heap.size w w' :=
  ((((Below.refl _ _).alloc (Nat.le_refl _) _).alloc (by simp) _).alloc (by simp; omega) _).trans (Below.mono h (by simp; omega))

theorem loose_ret {f : FuncId} {args : Array Value} {V : Value → Prop} {W w : World} (h : Ret P f args w V) (hw : Cl W w) : looseUpon P (Cl W) V (.ok (.enter f args) w) :=
  Calls.mono h fun _ _ ⟨v, he, hV, hb⟩ => ⟨v, he, hV, hw.call hb⟩

/-- A step whose value is told up to V. -/
theorem loose_any {ops : Array Oper} {C : World → Prop} {Q : Exit → Act → World → Prop} {V : Value → Prop} {kds : List (Option (Value → Prop))} {o o2 : Oper} {rest : List Oper} {a : Act} (hw : Region.wanted o (yielded ops a.tmps) = true)
    (h : ∀ w, C w → looseUpon P C V ((execOp a.eval o).run P w)) (hK : ∀ K : Act → Prop, (∀ a, wpLoose P ops C Q kds (o2 :: rest) a → K a) → ∀ v, V v → K (a.put o.dst v)) : wpLoose P ops C Q (some V :: kds) (o :: o2 :: rest) a :=
  loose_step fun K hk => lStep_any hw h (hK K hk)
/-- A step that gives one value. -/
theorem loose_one {ops : Array Oper} {C : World → Prop} {Q : Exit → Act → World → Prop} {kds : List (Option (Value → Prop))} {o o2 : Oper} {rest : List Oper} {a : Act} (v : Value) (hw : Region.wanted o (yielded ops a.tmps) = true)
    (h : ∀ w, C w → (execOp a.eval o).run P w = .ok (.value v) w) (hK : ∀ K : Act → Prop, (∀ a, wpLoose P ops C Q kds (o2 :: rest) a → K a) → K (a.put o.dst v)) : wpLoose P ops C Q (none :: kds) (o :: o2 :: rest) a :=
  loose_step fun K hk => lStep_one hw v h (hK K hk)

@[go_sem] theorem run_store_float (w : World) (a : Addr) (k : FloatKind) (x : Nat) (m : Mode) : (store a (.float k x) m).run P w = stored P w a (.float k x) m := run_store P w a _ m rfl

@[go_sem] theorem run_equalIn_float (w : World) (d : Nat) (t : TypeId) (k k' : FloatKind) (a b : Nat) (h : P.underlying t = some (.float k')) : (Op.equalIn (d + 1) t (.float k a) (.float k b)).run P w = .ok (Op.floatEq k a b) w := by
  simp [Op.equalIn, run_underlying h]
/-- Three comparisons, one behind the other. -/
theorem ite_three (a b c : Bool) (w : World) : (if a = false then Result.ok (Next.value (.bool false)) w else if b = false then .ok (.value (.bool false)) w else if c = false then .ok (.value (.bool false)) w else .ok (.value (.bool true)) w) = .ok (.value (.bool (a && b && c))) w := by
  cases a <;> cases b <;> cases c <;> rfl

/-- Three cells of a block. -/
theorem Cl.three {W w' : World} (h : Cl W w') {b : Nat} {x y z : Value} (hx : W.cell? ⟨b, 0, none⟩ = some x) (hy : W.cell? ⟨b, 1, none⟩ = some y) (hz : W.cell? ⟨b, 2, none⟩ = some z) (hb : b < W.heap.size) :
    w'.cell? ⟨b, 0, none⟩ = some x ∧ w'.cell? ⟨b, 1, none⟩ = some y ∧ w'.cell? ⟨b, 2, none⟩ = some z :=
  ⟨(h.cell (p := ⟨b, 0, none⟩) hb).trans hx, (h.cell (p := ⟨b, 1, none⟩) hb).trans hy, (h.cell (p := ⟨b, 2, none⟩) hb).trans hz⟩
theorem Cl.next3 {W w' : World} (h : Cl W w') {b : Nat} {x y z : Value} (hx : W.cell? ⟨b, 3, none⟩ = some x) (hy : W.cell? ⟨b, 4, none⟩ = some y) (hz : W.cell? ⟨b, 5, none⟩ = some z) (hb : b < W.heap.size) :
    w'.cell? ⟨b, 3, none⟩ = some x ∧ w'.cell? ⟨b, 4, none⟩ = some y ∧ w'.cell? ⟨b, 5, none⟩ = some z :=
  ⟨(h.cell (p := ⟨b, 3, none⟩) hb).trans hx, (h.cell (p := ⟨b, 4, none⟩) hb).trans hy, (h.cell (p := ⟨b, 5, none⟩) hb).trans hz⟩
theorem Cl.frz {W w' : World} (h : Cl W w') {b : Nat} (f0 : W.frozen? ⟨b, 0, none⟩ = false) (f1 : W.frozen? ⟨b, 1, none⟩ = false) (f2 : W.frozen? ⟨b, 2, none⟩ = false) (hb : b < W.heap.size) :
    w'.frozen? ⟨b, 0, none⟩ = false ∧ w'.frozen? ⟨b, 1, none⟩ = false ∧ w'.frozen? ⟨b, 2, none⟩ = false :=
  ⟨(h.frozen (p := ⟨b, 0, none⟩) hb).trans f0, (h.frozen (p := ⟨b, 1, none⟩) hb).trans f1, (h.frozen (p := ⟨b, 2, none⟩) hb).trans f2⟩
end
end Go.Proofs.Ytnhilikcgfhkbaa.Fl
