/- How a call is told: the value that it gives, up to a relation, and that what was there is as it was. Package vec's products: product, Dot. Package math, as far as it is called: IsNaN, Abs, IsInf, Sqrt; and vec.Number. The functions that pairs and parts are given. pairs, with each function that it is given. pairs, with each function that it is given. parts, with each function that it is given. Add, Sub, Mul, Scale, Neg, Along. Len2, Len, Finite, Part. Unit. -/
import Derived.WalkKit
import Derived.WalkSpells
import Derived.WalkLawsBesides
import Derived.Test.YtjcdmdjkolmliaaG3
import Derived.Test.YtjcdmdjkolmliaaRows
import Derived.Test.YtjcdmdjkolmliaaG1
namespace Go.Proofs.Ytjcdmdjkolmliaa.Fl
open Go.RowKit

theorem Sm.of_eq {x y : Nat} (h : x = y) : Sm x y := h ▸ Sm.refl x
theorem _root_.Go.Proofs.Ytjcdmdjkolmliaa.hid {p : Prop} (h : p) : Hid p := h
/-- A float, up to which NaN. -/
def isF (z : Nat) (v : Value) : Prop := ∃ r, v = .float .f64 r ∧ Eqv r z
/-- A vector, likewise. -/
def isV (x y z : Nat) (v : Value) : Prop := ∃ a b c, v = .agg #[.float .f64 a, .float .f64 b, .float .f64 c] ∧ Eqv a x ∧ Eqv b y ∧ Eqv c z

theorem isV.to {x y z x' y' z' : Nat} (hx : x = x') (hy : y = y') (hz : z = z') : ∀ v, isV x y z v → isV x' y' z' v := by
  subst hx; subst hy; subst hz; exact fun _ h => h

theorem below_dr {B : Nat} {a w : World} (h : Below B a w) (n : Nat) : Below B a (w.drewN n) := ⟨h.os, h.tape, h.output, h.size, h.block⟩

/-- The call returns a value of V; nothing that was there is turned. -/
def Ret (P : Program) (f : FuncId) (args : Array Value) (w : World) (V : Value → Prop) : Prop :=
  Calls P f args w fun e w' => ∃ v, e = .returned v ∧ V v ∧ Below w.heap.size w w'

theorem Ret.mono {P : Program} {f : FuncId} {args : Array Value} {w : World} {V V' : Value → Prop} (h : Ret P f args w V) (hv : ∀ v, V v → V' v) : Ret P f args w V' :=
  Calls.mono h fun _ _ ⟨v, he, hV, hb⟩ => ⟨v, he, hv v hV, hb⟩

section
variable {P : Program}
/-- The walk's law at an operation on floats. -/
theorem upon_fbin {o : Oper} {a : Act} {K : Act → World → Prop} {Q : Exit → Act → World → Prop} {op : BinOp} {t : TypeId} {x y : Nat} {w : World} (hop : op = .add ∨ op = .sub ∨ op = .mul ∨ op = .quo)
    (h : ∀ r n, Eqv r (fbin op x y) → Oper.upon P o a K Q (.ok (.value (.float .f64 r)) (w.drewN n))) :
    Oper.upon P o a K Q ((Sem.run P (binOp op t (.float .f64 x) (.float .f64 y)) w).andThen fun a w' => Result.ok (Next.value a) w') := by
  obtain ⟨r, n, e, hr⟩ := run_fbin (P := P) op hop t x y w
  rw [e]
  exact h r n hr
theorem upon_add {o : Oper} {a : Act} {K : Act → World → Prop} {Q : Exit → Act → World → Prop} {t : TypeId} {x y X Y : Nat} {w : World} (hx : Sm x X) (hy : Sm y Y)
    (h : ∀ r n, Eqv r (fadd X Y) → Oper.upon P o a K Q (.ok (.value (.float .f64 r)) (w.drewN n))) :
    Oper.upon P o a K Q ((Sem.run P (binOp .add t (.float .f64 x) (.float .f64 y)) w).andThen fun a w' => Result.ok (Next.value a) w') :=
  upon_fbin (.inl rfl) fun r n hr => h r n (hr.to (Sm.of_eq (fadd_congr hx hy)))
theorem upon_sub {o : Oper} {a : Act} {K : Act → World → Prop} {Q : Exit → Act → World → Prop} {t : TypeId} {x y X Y : Nat} {w : World} (hx : Sm x X) (hy : Sm y Y)
    (h : ∀ r n, Eqv r (fsub X Y) → Oper.upon P o a K Q (.ok (.value (.float .f64 r)) (w.drewN n))) :
    Oper.upon P o a K Q ((Sem.run P (binOp .sub t (.float .f64 x) (.float .f64 y)) w).andThen fun a w' => Result.ok (Next.value a) w') :=
  upon_fbin (.inr (.inl rfl)) fun r n hr => h r n (hr.to (Sm.of_eq (fsub_congr hx hy)))
theorem upon_mul {o : Oper} {a : Act} {K : Act → World → Prop} {Q : Exit → Act → World → Prop} {t : TypeId} {x y X Y : Nat} {w : World} (hx : Sm x X) (hy : Sm y Y)
    (h : ∀ r n, Eqv r (fmul X Y) → Oper.upon P o a K Q (.ok (.value (.float .f64 r)) (w.drewN n))) :
    Oper.upon P o a K Q ((Sem.run P (binOp .mul t (.float .f64 x) (.float .f64 y)) w).andThen fun a w' => Result.ok (Next.value a) w') :=
  upon_fbin (.inr (.inr (.inl rfl))) fun r n hr => h r n (hr.to (Sm.of_eq (fmul_congr hx hy)))
theorem upon_div {o : Oper} {a : Act} {K : Act → World → Prop} {Q : Exit → Act → World → Prop} {t : TypeId} {x y X Y : Nat} {w : World} (hx : Sm x X) (hy : Sm y Y)
    (h : ∀ r n, Eqv r (fdiv X Y) → Oper.upon P o a K Q (.ok (.value (.float .f64 r)) (w.drewN n))) :
    Oper.upon P o a K Q ((Sem.run P (binOp .quo t (.float .f64 x) (.float .f64 y)) w).andThen fun a w' => Result.ok (Next.value a) w') :=
  upon_fbin (.inr (.inr (.inr rfl))) fun r n hr => h r n (hr.to (Sm.of_eq (fdiv_congr hx hy)))

theorem loose_fbin {C : World → Prop} {V : Value → Prop} {op : BinOp} {t : TypeId} {x y : Nat} {w : World} (hop : op = .add ∨ op = .sub ∨ op = .mul ∨ op = .quo)
    (hC : ∀ n, C (w.drewN n)) (h : ∀ r, Eqv r (fbin op x y) → V (.float .f64 r)) :
    looseUpon P C V ((Sem.run P (binOp op t (.float .f64 x) (.float .f64 y)) w).andThen fun a w' => Result.ok (Next.value a) w') := by
  obtain ⟨r, n, e, hr⟩ := run_fbin (P := P) op hop t x y w
  rw [e]
  exact ⟨h r hr, hC n⟩
theorem loose_add {C : World → Prop} {t : TypeId} {x y X Y : Nat} {w : World} (hx : Sm x X) (hy : Sm y Y) (hC : ∀ n, C (w.drewN n)) :
    looseUpon P C (isF (fadd X Y)) ((Sem.run P (binOp .add t (.float .f64 x) (.float .f64 y)) w).andThen fun a w' => Result.ok (Next.value a) w') :=
  loose_fbin (.inl rfl) hC fun r hr => ⟨r, rfl, hr.to (Sm.of_eq (fadd_congr hx hy))⟩
theorem loose_sub {C : World → Prop} {t : TypeId} {x y X Y : Nat} {w : World} (hx : Sm x X) (hy : Sm y Y) (hC : ∀ n, C (w.drewN n)) :
    looseUpon P C (isF (fsub X Y)) ((Sem.run P (binOp .sub t (.float .f64 x) (.float .f64 y)) w).andThen fun a w' => Result.ok (Next.value a) w') :=
  loose_fbin (.inr (.inl rfl)) hC fun r hr => ⟨r, rfl, hr.to (Sm.of_eq (fsub_congr hx hy))⟩
theorem loose_mul {C : World → Prop} {t : TypeId} {x y X Y : Nat} {w : World} (hx : Sm x X) (hy : Sm y Y) (hC : ∀ n, C (w.drewN n)) :
    looseUpon P C (isF (fmul X Y)) ((Sem.run P (binOp .mul t (.float .f64 x) (.float .f64 y)) w).andThen fun a w' => Result.ok (Next.value a) w') :=
  loose_fbin (.inr (.inr (.inl rfl))) hC fun r hr => ⟨r, rfl, hr.to (Sm.of_eq (fmul_congr hx hy))⟩
theorem loose_div {C : World → Prop} {t : TypeId} {x y X Y : Nat} {w : World} (hx : Sm x X) (hy : Sm y Y) (hC : ∀ n, C (w.drewN n)) :
    looseUpon P C (isF (fdiv X Y)) ((Sem.run P (binOp .quo t (.float .f64 x) (.float .f64 y)) w).andThen fun a w' => Result.ok (Next.value a) w') :=
  loose_fbin (.inr (.inr (.inr rfl))) hC fun r hr => ⟨r, rfl, hr.to (Sm.of_eq (fdiv_congr hx hy))⟩

/-- The class of worlds of a region: what stood at its head is as it was. -/
def Cl (W : World) : World → Prop := fun w' => Below W.heap.size W w'
theorem Cl.drew (W : World) : Cl W W.drew := (Below.refl _ _).drew
theorem Cl.drewN {W w : World} (h : Cl W w) (n : Nat) : Cl W (w.drewN n) := below_dr h n
theorem Cl.call {W w w' : World} (h : Cl W w) (hb : Below w.heap.size w w') : Cl W w' := Below.trans h (hb.mono h.size)

theorem Cl.alloc {W w : World} (h : Cl W w) (o : Obj) : Cl W (w.alloc o) := Below.alloc h h.size o
theorem Cl.setCell {W w : World} (h : Cl W w) {p : Addr} (hp : W.heap.size ≤ p.block) (u : Value) : Cl W (w.setCell p u) := Below.setCell h hp u
theorem Cl.out1 {w w' : World} {o1 : Obj} (h : Cl (w.alloc o1) w') : Below w.heap.size w w' :=
  ((Below.refl _ _).alloc (Nat.le_refl _) _).trans (Below.mono h (by simp))
theorem Cl.out2 {w w' : World} {o1 o2 : Obj} (h : Cl ((w.alloc o1).alloc o2) w') : Below w.heap.size w w' :=
  (((Below.refl _ _).alloc (Nat.le_refl _) _).alloc (by simp) _).trans (Below.mono h (by simp; omega))
theorem Cl.out3 {w w' : World} {o1 o2 o3 : Obj} (h : Cl (((w.alloc o1).alloc o2).alloc o3) w') : Below w.heap.size w w' :=
  ((((Below.refl _ _).alloc (Nat.le_refl _) _).alloc (by simp) _).alloc (by simp; omega) _).trans (Below.mono h (by simp; omega))

theorem loose_ret {f : FuncId} {args : Array Value} {V : Value → Prop} {W w : World} (h : Ret P f args w V) (hw : Cl W w) : looseUpon P (Cl W) V (.ok (.enter f args) w) :=
  Calls.mono h fun _ _ ⟨v, he, hV, hb⟩ => ⟨v, he, hV, hw.call hb⟩

/-- A step whose value is told up to V. -/
theorem loose_any {ops : Array Oper} {C : World → Prop} {Q : Exit → Act → World → Prop} {V : Value → Prop} {kds : List (Option (Value → Prop))} {o o2 : Oper} {rest : List Oper} {a : Act} (hw : Region.wanted o (yielded ops a.tmps) = true)
    (h : ∀ w, C w → looseUpon P C V ((execOp a.eval o).run P w)) (hK : ∀ K : Act → Prop, (∀ a, wpLoose P ops C Q kds (o2 :: rest) a → K a) → ∀ v, V v → K (a.put o.dst v)) : wpLoose P ops C Q (some V :: kds) (o :: o2 :: rest) a :=
  loose_step fun K hk => lStep_any hw h (hK K hk)
/-- A step that gives one value. -/
theorem loose_one {ops : Array Oper} {C : World → Prop} {Q : Exit → Act → World → Prop} {kds : List (Option (Value → Prop))} {o o2 : Oper} {rest : List Oper} {a : Act} (v : Value) (hw : Region.wanted o (yielded ops a.tmps) = true)
    (h : ∀ w, C w → (execOp a.eval o).run P w = .ok (.value v) w) (hK : ∀ K : Act → Prop, (∀ a, wpLoose P ops C Q kds (o2 :: rest) a → K a) → K (a.put o.dst v)) : wpLoose P ops C Q (none :: kds) (o :: o2 :: rest) a :=
  loose_step fun K hk => lStep_one hw v h (hK K hk)

@[go_sem] theorem run_store_float (w : World) (a : Addr) (k : FloatKind) (x : Nat) (m : Mode) : (store a (.float k x) m).run P w = stored P w a (.float k x) m := run_store P w a _ m rfl

@[go_sem] theorem run_equalIn_float (w : World) (d : Nat) (t : TypeId) (k k' : FloatKind) (a b : Nat) (h : P.underlying t = some (.float k')) : (Op.equalIn (d + 1) t (.float k a) (.float k b)).run P w = .ok (Op.floatEq k a b) w := by
  simp [Op.equalIn, run_underlying h]
/-- Three comparisons, one behind the other. -/
theorem ite_three (a b c : Bool) (w : World) : (if a = false then Result.ok (Next.value (.bool false)) w else if b = false then .ok (.value (.bool false)) w else if c = false then .ok (.value (.bool false)) w else .ok (.value (.bool true)) w) = .ok (.value (.bool (a && b && c))) w := by
  cases a <;> cases b <;> cases c <;> rfl

/-- Three cells of a block. -/
theorem Cl.three {W w' : World} (h : Cl W w') {b : Nat} {x y z : Value} (hx : W.cell? ⟨b, 0, none⟩ = some x) (hy : W.cell? ⟨b, 1, none⟩ = some y) (hz : W.cell? ⟨b, 2, none⟩ = some z) (hb : b < W.heap.size) :
    w'.cell? ⟨b, 0, none⟩ = some x ∧ w'.cell? ⟨b, 1, none⟩ = some y ∧ w'.cell? ⟨b, 2, none⟩ = some z :=
  ⟨(h.cell (p := ⟨b, 0, none⟩) hb).trans hx, (h.cell (p := ⟨b, 1, none⟩) hb).trans hy, (h.cell (p := ⟨b, 2, none⟩) hb).trans hz⟩
theorem Cl.next3 {W w' : World} (h : Cl W w') {b : Nat} {x y z : Value} (hx : W.cell? ⟨b, 3, none⟩ = some x) (hy : W.cell? ⟨b, 4, none⟩ = some y) (hz : W.cell? ⟨b, 5, none⟩ = some z) (hb : b < W.heap.size) :
    w'.cell? ⟨b, 3, none⟩ = some x ∧ w'.cell? ⟨b, 4, none⟩ = some y ∧ w'.cell? ⟨b, 5, none⟩ = some z :=
  ⟨(h.cell (p := ⟨b, 3, none⟩) hb).trans hx, (h.cell (p := ⟨b, 4, none⟩) hb).trans hy, (h.cell (p := ⟨b, 5, none⟩) hb).trans hz⟩
theorem Cl.frz {W w' : World} (h : Cl W w') {b : Nat} (f0 : W.frozen? ⟨b, 0, none⟩ = false) (f1 : W.frozen? ⟨b, 1, none⟩ = false) (f2 : W.frozen? ⟨b, 2, none⟩ = false) (hb : b < W.heap.size) :
    w'.frozen? ⟨b, 0, none⟩ = false ∧ w'.frozen? ⟨b, 1, none⟩ = false ∧ w'.frozen? ⟨b, 2, none⟩ = false :=
  ⟨(h.frozen (p := ⟨b, 0, none⟩) hb).trans f0, (h.frozen (p := ⟨b, 1, none⟩) hb).trans f1, (h.frozen (p := ⟨b, 2, none⟩) hb).trans f2⟩
end
end Go.Proofs.Ytjcdmdjkolmliaa.Fl

namespace Go.Proofs.Ytjcdmdjkolmliaa
open Go.RowKit Fl

set_option maxRecDepth 100000 in
set_option maxHeartbeats 400000 in
theorem product_any (x y : Nat) (w : World) : Ret Try.prog 52 #[.float .f64 x, .float .f64 y] w (isF (fmul x y)) := by
  unfold Ret
  go_enter Try.func52, Try.ntmps52
  go_wp2_with fail
  refine upon_mul (Sm.refl _) (Sm.refl _) ?_
  intro r n hr
  go_wp2_with fail
  go_ret
  exact ⟨_, rfl, ⟨r, rfl, hr⟩, below_dr (Below.refl _ _) n⟩

abbrev dotF (ax ay az bx bY bz : Nat) : Nat := fadd (fadd (fmul ax bx) (fmul ay bY)) (fmul az bz)

set_option maxRecDepth 100000 in
set_option maxHeartbeats 1000000 in
theorem dot_any (ax ay az bx bY bz : Nat) (w : World) : Ret Try.prog 37 #[.agg #[.float .f64 ax, .float .f64 ay, .float .f64 az], .agg #[.float .f64 bx, .float .f64 bY, .float .f64 bz]] w (isF (dotF ax ay az bx bY bz)) := by
  unfold Ret
  go_enter Try.func37, Try.ntmps37
  go_wp2_with fail
  refine wp_region_loose (Cl _) [none, none, none, none, some (isF (fmul ax bx)), none, none, none, none, some (isF (fmul ay bY)), some (isF (fadd (fmul ax bx) (fmul ay bY))), none, none, none, none, some (isF (fmul az bz)), some (isF (dotF ax ay az bx bY bz))] 17 (by kernel_rfl) (by kernel_rfl) (by kernel_rfl) (Cl.drew _) ?_
  have HA : Hid (∀ w', Cl ((w.alloc (.cells #[.float .f64 ax, .float .f64 ay, .float .f64 az] 24)).alloc (.cells #[.float .f64 bx, .float .f64 bY, .float .f64 bz] 24)) w' → _) := fun w' h => h.three (b := w.heap.size) (by go_simp; exact rfl) (by go_simp; exact rfl) (by go_simp; exact rfl) (by go_simp; done)
  have HB : Hid (∀ w', Cl ((w.alloc (.cells #[.float .f64 ax, .float .f64 ay, .float .f64 az] 24)).alloc (.cells #[.float .f64 bx, .float .f64 bY, .float .f64 bz] 24)) w' → _) := fun w' h => h.three (b := w.heap.size + 1) (by go_simp; exact rfl) (by go_simp; exact rfl) (by go_simp; exact rfl) (by go_simp; done)
  repeat (
    refine loose_one ?_ rfl (fun w hw => ?_) (fun K hK => ?_)
    rotate_left
    ·obtain ⟨a0, a1, a2⟩ := HA.out _ hw
     obtain ⟨b0, b1, b2⟩ := HB.out _ hw
     go_simp
     exact rfl
    go_simp
    refine hK _ ?_
    clear hK K)
  refine loose_any rfl (fun w hw => ?_) (fun K hK => ?_)
  · go_simp
    exact loose_ret (product_any _ _ _) hw
  rintro v ⟨r, rfl, hr⟩
  go_simp
  refine hK _ ?_
  clear hK K
  repeat (
    refine loose_one ?_ rfl (fun w hw => ?_) (fun K hK => ?_)
    rotate_left
    ·obtain ⟨a0, a1, a2⟩ := HA.out _ hw
     obtain ⟨b0, b1, b2⟩ := HB.out _ hw
     go_simp
     exact rfl
    go_simp
    refine hK _ ?_
    clear hK K)
  refine loose_any rfl (fun w hw => ?_) (fun K hK => ?_)
  · go_simp
    exact loose_ret (product_any _ _ _) hw
  rintro v ⟨r, rfl, hr⟩
  go_simp
  refine hK _ ?_
  clear hK K
  refine loose_any rfl (fun w hw => ?_) (fun K hK => ?_)
  · go_simp
    exact loose_add (by first | exact Eqv.sm (by assumption) | exact Sm.refl _) (by first | exact Eqv.sm (by assumption) | exact Sm.refl _) (fun n => hw.drewN n)
  rintro v ⟨r, rfl, h⟩
  go_simp
  refine hK _ ?_
  clear hK K
  repeat (
    refine loose_one ?_ rfl (fun w hw => ?_) (fun K hK => ?_)
    rotate_left
    ·obtain ⟨a0, a1, a2⟩ := HA.out _ hw
     obtain ⟨b0, b1, b2⟩ := HB.out _ hw
     go_simp
     exact rfl
    go_simp
    refine hK _ ?_
    clear hK K)
  refine loose_any rfl (fun w hw => ?_) (fun K hK => ?_)
  · go_simp
    exact loose_ret (product_any _ _ _) hw
  rintro v ⟨r, rfl, hr⟩
  go_simp
  refine hK _ ?_
  clear hK K
  refine loose_any rfl (fun w hw => ?_) (fun K hK => ?_)
  · go_simp
    exact loose_add (by first | exact Eqv.sm (by assumption) | exact Sm.refl _) (by first | exact Eqv.sm (by assumption) | exact Sm.refl _) (fun n => hw.drewN n)
  rintro v ⟨r, rfl, h⟩
  go_simp
  refine hK _ ?_
  clear hK K
  intro w' hw'
  go_wp2_with fail
  go_ret
  exact ⟨_, rfl, ⟨_, rfl, by assumption⟩, hw'.out2⟩
end Go.Proofs.Ytjcdmdjkolmliaa

namespace Go.Proofs.Ytjcdmdjkolmliaa
open Go.RowKit Fl

theorem ext51 (x : Nat) (w : World) : (callFunc 61 #[.float .f64 x]).run Try.prog w = .ok (.value (.int .u64 x)) w := by kernel_rfl

theorem ext50 (n : Int) (w : World) : (callFunc 60 #[.int .u64 n]).run Try.prog w = .ok (.value (.float .f64 n.toNat)) w := by kernel_rfl

theorem ext45 (x : Nat) (w : World) : (callFunc 27 #[.float .f64 x]).run Try.prog w = (Extern.MathSqrt.sqrt #[.float .f64 x] >>= fun v => pure (Next.value v)).run Try.prog w := by kernel_rfl

set_option maxRecDepth 100000 in
set_option maxHeartbeats 400000 in
theorem sqrt_any (x : Nat) (w : World) : Ret Try.prog 6 #[.float .f64 x] w (isF (fsqrt x)) := by
  unfold Ret
  go_enter Try.func6, Try.ntmps6
  go_wp2_with fail
  obtain ⟨r, n, e, hr⟩ := run_sqrt (P := Try.prog) x w
  rw [ext45, Sem.run_bind, e]
  clear e
  go_wp2_with fail
  go_ret
  exact ⟨_, rfl, ⟨r, rfl, hr⟩, below_dr (Below.refl _ _) n⟩

set_option maxRecDepth 100000 in
set_option maxHeartbeats 400000 in
theorem abs_any (x : Nat) (w : World) : Calls Try.prog 59 #[.float .f64 x] w fun e w' => e = .returned (.float .f64 (fabs x)) ∧ w' = w := by
  go_enter Try.func59, Try.ntmps59
  have e1 := ext51
  have e2 := ext50
  go_wp2_with fail
  go_ret
  exact ⟨by rw [← andNot_sign]; rfl, rfl⟩

theorem ord_nan_self (x : Nat) : (F64.order x x != some .eq) = isN x := by
  have := ford_self x
  unfold ford at this
  rw [bne, this, Bool.not_not]

set_option maxRecDepth 100000 in
set_option maxHeartbeats 400000 in
theorem isnan_any (x : Nat) (w : World) : Calls Try.prog 56 #[.float .f64 x] w fun e w' => e = .returned (.bool (isN x)) ∧ w' = w := by
  go_enter Try.func56, Try.ntmps56
  go_wp2_with fail
  go_ret
  exact ⟨by rw [← ord_nan_self]; rfl, rfl⟩

set_option maxRecDepth 100000 in
set_option maxHeartbeats 400000 in
theorem isinf_any (x : Nat) (w : World) : Calls Try.prog 57 #[.float .f64 x, .int .i64 0] w fun e w' => e = .returned (.bool (infB x)) ∧ w' = w := by
  go_enter Try.func57, Try.ntmps57
  go_wp2_with fail
  refine (abs_any _ _).mono ?_
  rintro e w' ⟨rfl, hw⟩
  obtain rfl := hw.symm
  go_wp2_with fail
  go_ret
  exact ⟨rfl, rfl⟩

set_option maxRecDepth 100000 in
set_option maxHeartbeats 400000 in
theorem number_any (x : Nat) (w : World) : Calls Try.prog 44 #[.float .f64 x] w fun e w' => e = .returned (.bool (numB x)) ∧ w' = w := by
  unfold numB
  have HN : Hid _ := isnan_any x
  have HI : Hid _ := isinf_any x
  generalize isN x = p at HN ⊢
  generalize infB x = q at HI ⊢
  cases p <;> cases q <;>
  · go_enter Try.func44, Try.ntmps44
    go_wp2_with fail
    refine Calls.mono (HN.out _) ?_
    rintro e w' ⟨rfl, hw⟩
    obtain rfl := hw.symm
    go_wp2_with fail
    try
      refine Calls.mono (HI.out _) ?_
      rintro e w' ⟨rfl, hw⟩
      obtain rfl := hw.symm
      go_wp2_with fail
    go_ret
    exact ⟨rfl, rfl⟩
end Go.Proofs.Ytjcdmdjkolmliaa

namespace Go.Proofs.Ytjcdmdjkolmliaa
open Go.RowKit Fl

set_option maxRecDepth 100000 in
set_option maxHeartbeats 1000000 in
theorem add1 (x y : Nat) (w : World) : Ret Try.prog 54 #[.float .f64 x, .float .f64 y] w (isF (fadd x y)) := by
  unfold Ret
  go_enter Try.func54, Try.ntmps54
  go_wp2_with fail
  refine upon_add (Sm.refl _) (Sm.refl _) ?_
  intro r n hr
  go_wp2_with fail
  go_ret
  exact ⟨_, rfl, ⟨r, rfl, hr⟩, below_dr (Below.refl _ _) n⟩

set_option maxRecDepth 100000 in
set_option maxHeartbeats 1000000 in
theorem sub1 (x y : Nat) (w : World) : Ret Try.prog 49 #[.float .f64 x, .float .f64 y] w (isF (fsub x y)) := by
  unfold Ret
  go_enter Try.func49, Try.ntmps49
  go_wp2_with fail
  refine upon_sub (Sm.refl _) (Sm.refl _) ?_
  intro r n hr
  go_wp2_with fail
  go_ret
  exact ⟨_, rfl, ⟨r, rfl, hr⟩, below_dr (Below.refl _ _) n⟩

set_option maxRecDepth 100000 in
set_option maxHeartbeats 1000000 in
theorem scale1 (x k b : Nat) (w : World) (hk : w.cell? ⟨b, 0, none⟩ = some (.float .f64 k)) : Ret Try.prog 55 #[.float .f64 x, .pointer (some ⟨b, 0, none⟩)] w (isF (fmul x k)) := by
  unfold Ret
  go_enter Try.func55, Try.ntmps55
  go_wp2_with fail
  refine Calls.mono (product_any _ _ _) ?_
  rintro e w' ⟨v, rfl, ⟨r, rfl, hr⟩, hb⟩
  clear hk
  go_wp2_with fail
  go_ret
  exact ⟨_, rfl, ⟨r, rfl, hr⟩, hb⟩

set_option maxRecDepth 100000 in
set_option maxHeartbeats 1000000 in
theorem unit1 (x k b : Nat) (w : World) (hk : w.cell? ⟨b, 0, none⟩ = some (.float .f64 k)) : Ret Try.prog 51 #[.float .f64 x, .pointer (some ⟨b, 0, none⟩)] w (isF (fdiv x k)) := by
  unfold Ret
  go_enter Try.func51, Try.ntmps51
  go_wp2_with fail
  refine upon_div (Sm.refl _) (Sm.refl _) ?_
  intro r n hr
  go_wp2_with fail
  go_ret
  exact ⟨_, rfl, ⟨r, rfl, hr⟩, below_dr (Below.refl _ _) n⟩

/-- What Same's own function makes of two parts: 0 of two that are none, else the first. -/
def selF (x y : Nat) : Nat := if isN x && isN y then 0 else x
theorem wd_zero : Wd 0 := by unfold Wd; omega

end Go.Proofs.Ytjcdmdjkolmliaa

namespace Go.Proofs.Ytjcdmdjkolmliaa
open Go.RowKit Fl

set_option maxRecDepth 100000 in
set_option maxHeartbeats 1000000 in
theorem pairs_add (ax ay az bx bY bz : Nat) (w : World) : Ret Try.prog 48 #[.agg #[.float .f64 ax, .float .f64 ay, .float .f64 az], .agg #[.float .f64 bx, .float .f64 bY, .float .f64 bz], .func (.func 54) #[] #[]] w (isV (fadd ax bx) (fadd ay bY) (fadd az bz)) := by
  unfold Ret
  go_enter Try.func48, Try.ntmps48
  go_wp2_with fail
  refine wp_region_loose (Cl _) [none, none, none, none, none, some (isF (fadd ax bx)), none, none, none, none, none, some (isF (fadd ay bY)), none, none, none, none, none, some (isF (fadd az bz)), none] 19 (by kernel_rfl) (by kernel_rfl) (by kernel_rfl) (Cl.drew _) ?_
  have HA : Hid (∀ w', Cl (((w.alloc (.cells #[.float .f64 ax, .float .f64 ay, .float .f64 az] 24)).alloc (.cells #[.float .f64 bx, .float .f64 bY, .float .f64 bz] 24)).alloc (.cells #[.float .f64 0, .float .f64 0, .float .f64 0] 24)) w' → _) := fun w' h => h.three (b := w.heap.size) (by go_simp; exact rfl) (by go_simp; exact rfl) (by go_simp; exact rfl) (by go_simp; done)
  have HB : Hid (∀ w', Cl (((w.alloc (.cells #[.float .f64 ax, .float .f64 ay, .float .f64 az] 24)).alloc (.cells #[.float .f64 bx, .float .f64 bY, .float .f64 bz] 24)).alloc (.cells #[.float .f64 0, .float .f64 0, .float .f64 0] 24)) w' → _) := fun w' h => h.three (b := w.heap.size + 1) (by go_simp; exact rfl) (by go_simp; exact rfl) (by go_simp; exact rfl) (by go_simp; done)
  have HZ : Hid (∀ w', Cl (((w.alloc (.cells #[.float .f64 ax, .float .f64 ay, .float .f64 az] 24)).alloc (.cells #[.float .f64 bx, .float .f64 bY, .float .f64 bz] 24)).alloc (.cells #[.float .f64 0, .float .f64 0, .float .f64 0] 24)) w' → _) := fun w' h => h.three (b := w.heap.size + 1 + 1) (by go_simp; exact rfl) (by go_simp; exact rfl) (by go_simp; exact rfl) (by go_simp; done)
  have HY : Hid (∀ w', Cl (((w.alloc (.cells #[.float .f64 ax, .float .f64 ay, .float .f64 az] 24)).alloc (.cells #[.float .f64 bx, .float .f64 bY, .float .f64 bz] 24)).alloc (.cells #[.float .f64 0, .float .f64 0, .float .f64 0] 24)) w' → _) := fun w' h => h.frz (b := w.heap.size + 1 + 1) (by go_simp; done) (by go_simp; done) (by go_simp; done) (by go_simp; done)
  repeat (
    refine loose_one ?_ rfl (fun w hw => ?_) (fun K hK => ?_)
    rotate_left
    ·obtain ⟨a0, a1, a2⟩ := HA.out _ hw
     obtain ⟨b0, b1, b2⟩ := HB.out _ hw
     go_simp
     exact rfl
    go_simp
    refine hK _ ?_
    clear hK K)
  refine loose_any rfl (fun w hw => ?_) (fun K hK => ?_)
  · go_simp
    exact loose_ret (add1 _ _ _) hw
  rintro v ⟨r1, rfl, h1⟩
  go_simp
  refine hK _ ?_
  clear hK K
  repeat (
    refine loose_one ?_ rfl (fun w hw => ?_) (fun K hK => ?_)
    rotate_left
    ·obtain ⟨a0, a1, a2⟩ := HA.out _ hw
     obtain ⟨b0, b1, b2⟩ := HB.out _ hw
     go_simp
     exact rfl
    go_simp
    refine hK _ ?_
    clear hK K)
  refine loose_any rfl (fun w hw => ?_) (fun K hK => ?_)
  · go_simp
    exact loose_ret (add1 _ _ _) hw
  rintro v ⟨r2, rfl, h2⟩
  go_simp
  refine hK _ ?_
  clear hK K
  repeat (
    refine loose_one ?_ rfl (fun w hw => ?_) (fun K hK => ?_)
    rotate_left
    ·obtain ⟨a0, a1, a2⟩ := HA.out _ hw
     obtain ⟨b0, b1, b2⟩ := HB.out _ hw
     go_simp
     exact rfl
    go_simp
    refine hK _ ?_
    clear hK K)
  refine loose_any rfl (fun w hw => ?_) (fun K hK => ?_)
  · go_simp
    exact loose_ret (add1 _ _ _) hw
  rintro v ⟨r3, rfl, h3⟩
  go_simp
  refine hK _ ?_
  clear hK K
  repeat (
    refine loose_one ?_ rfl (fun w hw => ?_) (fun K hK => ?_)
    rotate_left
    ·obtain ⟨a0, a1, a2⟩ := HA.out _ hw
     obtain ⟨b0, b1, b2⟩ := HB.out _ hw
     go_simp
     exact rfl
    go_simp
    refine hK _ ?_
    clear hK K)
  intro w' hw'
  obtain ⟨z0, z1, z2⟩ := HZ.out _ hw'
  obtain ⟨f0, f1, f2⟩ := HY.out _ hw'
  have HW : Hid (Cl (((w.alloc (.cells #[.float .f64 ax, .float .f64 ay, .float .f64 az] 24)).alloc (.cells #[.float .f64 bx, .float .f64 bY, .float .f64 bz] 24)).alloc (.cells #[.float .f64 0, .float .f64 0, .float .f64 0] 24)) w') := hw'
  clear hw'
  go_wp2_with fail
  refine bodyPost_ret (v := .agg #[.float .f64 r1, .float .f64 r2, .float .f64 r3]) (by simp [results, go_sem, z0, z1, z2]) rfl ⟨_, rfl, ⟨_, _, _, rfl, by assumption, by assumption, by assumption⟩, ((((HW.out.out3).setCell (by simp <;> omega) _).setCell (by simp <;> omega) _).setCell (by simp <;> omega) _)⟩

set_option maxRecDepth 100000 in
set_option maxHeartbeats 1000000 in
theorem pairs_sub (ax ay az bx bY bz : Nat) (w : World) : Ret Try.prog 48 #[.agg #[.float .f64 ax, .float .f64 ay, .float .f64 az], .agg #[.float .f64 bx, .float .f64 bY, .float .f64 bz], .func (.func 49) #[] #[]] w (isV (fsub ax bx) (fsub ay bY) (fsub az bz)) := by
  unfold Ret
  go_enter Try.func48, Try.ntmps48
  go_wp2_with fail
  refine wp_region_loose (Cl _) [none, none, none, none, none, some (isF (fsub ax bx)), none, none, none, none, none, some (isF (fsub ay bY)), none, none, none, none, none, some (isF (fsub az bz)), none] 19 (by kernel_rfl) (by kernel_rfl) (by kernel_rfl) (Cl.drew _) ?_
  have HA : Hid (∀ w', Cl (((w.alloc (.cells #[.float .f64 ax, .float .f64 ay, .float .f64 az] 24)).alloc (.cells #[.float .f64 bx, .float .f64 bY, .float .f64 bz] 24)).alloc (.cells #[.float .f64 0, .float .f64 0, .float .f64 0] 24)) w' → _) := fun w' h => h.three (b := w.heap.size) (by go_simp; exact rfl) (by go_simp; exact rfl) (by go_simp; exact rfl) (by go_simp; done)
  have HB : Hid (∀ w', Cl (((w.alloc (.cells #[.float .f64 ax, .float .f64 ay, .float .f64 az] 24)).alloc (.cells #[.float .f64 bx, .float .f64 bY, .float .f64 bz] 24)).alloc (.cells #[.float .f64 0, .float .f64 0, .float .f64 0] 24)) w' → _) := fun w' h => h.three (b := w.heap.size + 1) (by go_simp; exact rfl) (by go_simp; exact rfl) (by go_simp; exact rfl) (by go_simp; done)
  have HZ : Hid (∀ w', Cl (((w.alloc (.cells #[.float .f64 ax, .float .f64 ay, .float .f64 az] 24)).alloc (.cells #[.float .f64 bx, .float .f64 bY, .float .f64 bz] 24)).alloc (.cells #[.float .f64 0, .float .f64 0, .float .f64 0] 24)) w' → _) := fun w' h => h.three (b := w.heap.size + 1 + 1) (by go_simp; exact rfl) (by go_simp; exact rfl) (by go_simp; exact rfl) (by go_simp; done)
  have HY : Hid (∀ w', Cl (((w.alloc (.cells #[.float .f64 ax, .float .f64 ay, .float .f64 az] 24)).alloc (.cells #[.float .f64 bx, .float .f64 bY, .float .f64 bz] 24)).alloc (.cells #[.float .f64 0, .float .f64 0, .float .f64 0] 24)) w' → _) := fun w' h => h.frz (b := w.heap.size + 1 + 1) (by go_simp; done) (by go_simp; done) (by go_simp; done) (by go_simp; done)
  repeat (
    refine loose_one ?_ rfl (fun w hw => ?_) (fun K hK => ?_)
    rotate_left
    ·obtain ⟨a0, a1, a2⟩ := HA.out _ hw
     obtain ⟨b0, b1, b2⟩ := HB.out _ hw
     go_simp
     exact rfl
    go_simp
    refine hK _ ?_
    clear hK K)
  refine loose_any rfl (fun w hw => ?_) (fun K hK => ?_)
  · go_simp
    exact loose_ret (sub1 _ _ _) hw
  rintro v ⟨r1, rfl, h1⟩
  go_simp
  refine hK _ ?_
  clear hK K
  repeat (
    refine loose_one ?_ rfl (fun w hw => ?_) (fun K hK => ?_)
    rotate_left
    ·obtain ⟨a0, a1, a2⟩ := HA.out _ hw
     obtain ⟨b0, b1, b2⟩ := HB.out _ hw
     go_simp
     exact rfl
    go_simp
    refine hK _ ?_
    clear hK K)
  refine loose_any rfl (fun w hw => ?_) (fun K hK => ?_)
  · go_simp
    exact loose_ret (sub1 _ _ _) hw
  rintro v ⟨r2, rfl, h2⟩
  go_simp
  refine hK _ ?_
  clear hK K
  repeat (
    refine loose_one ?_ rfl (fun w hw => ?_) (fun K hK => ?_)
    rotate_left
    ·obtain ⟨a0, a1, a2⟩ := HA.out _ hw
     obtain ⟨b0, b1, b2⟩ := HB.out _ hw
     go_simp
     exact rfl
    go_simp
    refine hK _ ?_
    clear hK K)
  refine loose_any rfl (fun w hw => ?_) (fun K hK => ?_)
  · go_simp
    exact loose_ret (sub1 _ _ _) hw
  rintro v ⟨r3, rfl, h3⟩
  go_simp
  refine hK _ ?_
  clear hK K
  repeat (
    refine loose_one ?_ rfl (fun w hw => ?_) (fun K hK => ?_)
    rotate_left
    ·obtain ⟨a0, a1, a2⟩ := HA.out _ hw
     obtain ⟨b0, b1, b2⟩ := HB.out _ hw
     go_simp
     exact rfl
    go_simp
    refine hK _ ?_
    clear hK K)
  intro w' hw'
  obtain ⟨z0, z1, z2⟩ := HZ.out _ hw'
  obtain ⟨f0, f1, f2⟩ := HY.out _ hw'
  have HW : Hid (Cl (((w.alloc (.cells #[.float .f64 ax, .float .f64 ay, .float .f64 az] 24)).alloc (.cells #[.float .f64 bx, .float .f64 bY, .float .f64 bz] 24)).alloc (.cells #[.float .f64 0, .float .f64 0, .float .f64 0] 24)) w') := hw'
  clear hw'
  go_wp2_with fail
  refine bodyPost_ret (v := .agg #[.float .f64 r1, .float .f64 r2, .float .f64 r3]) (by simp [results, go_sem, z0, z1, z2]) rfl ⟨_, rfl, ⟨_, _, _, rfl, by assumption, by assumption, by assumption⟩, ((((HW.out.out3).setCell (by simp <;> omega) _).setCell (by simp <;> omega) _).setCell (by simp <;> omega) _)⟩

set_option maxRecDepth 100000 in
set_option maxHeartbeats 1000000 in
theorem pairs_mul (ax ay az bx bY bz : Nat) (w : World) : Ret Try.prog 48 #[.agg #[.float .f64 ax, .float .f64 ay, .float .f64 az], .agg #[.float .f64 bx, .float .f64 bY, .float .f64 bz], .func (.func 52) #[] #[]] w (isV (fmul ax bx) (fmul ay bY) (fmul az bz)) := by
  unfold Ret
  go_enter Try.func48, Try.ntmps48
  go_wp2_with fail
  refine wp_region_loose (Cl _) [none, none, none, none, none, some (isF (fmul ax bx)), none, none, none, none, none, some (isF (fmul ay bY)), none, none, none, none, none, some (isF (fmul az bz)), none] 19 (by kernel_rfl) (by kernel_rfl) (by kernel_rfl) (Cl.drew _) ?_
  have HA : Hid (∀ w', Cl (((w.alloc (.cells #[.float .f64 ax, .float .f64 ay, .float .f64 az] 24)).alloc (.cells #[.float .f64 bx, .float .f64 bY, .float .f64 bz] 24)).alloc (.cells #[.float .f64 0, .float .f64 0, .float .f64 0] 24)) w' → _) := fun w' h => h.three (b := w.heap.size) (by go_simp; exact rfl) (by go_simp; exact rfl) (by go_simp; exact rfl) (by go_simp; done)
  have HB : Hid (∀ w', Cl (((w.alloc (.cells #[.float .f64 ax, .float .f64 ay, .float .f64 az] 24)).alloc (.cells #[.float .f64 bx, .float .f64 bY, .float .f64 bz] 24)).alloc (.cells #[.float .f64 0, .float .f64 0, .float .f64 0] 24)) w' → _) := fun w' h => h.three (b := w.heap.size + 1) (by go_simp; exact rfl) (by go_simp; exact rfl) (by go_simp; exact rfl) (by go_simp; done)
  have HZ : Hid (∀ w', Cl (((w.alloc (.cells #[.float .f64 ax, .float .f64 ay, .float .f64 az] 24)).alloc (.cells #[.float .f64 bx, .float .f64 bY, .float .f64 bz] 24)).alloc (.cells #[.float .f64 0, .float .f64 0, .float .f64 0] 24)) w' → _) := fun w' h => h.three (b := w.heap.size + 1 + 1) (by go_simp; exact rfl) (by go_simp; exact rfl) (by go_simp; exact rfl) (by go_simp; done)
  have HY : Hid (∀ w', Cl (((w.alloc (.cells #[.float .f64 ax, .float .f64 ay, .float .f64 az] 24)).alloc (.cells #[.float .f64 bx, .float .f64 bY, .float .f64 bz] 24)).alloc (.cells #[.float .f64 0, .float .f64 0, .float .f64 0] 24)) w' → _) := fun w' h => h.frz (b := w.heap.size + 1 + 1) (by go_simp; done) (by go_simp; done) (by go_simp; done) (by go_simp; done)
  repeat (
    refine loose_one ?_ rfl (fun w hw => ?_) (fun K hK => ?_)
    rotate_left
    ·obtain ⟨a0, a1, a2⟩ := HA.out _ hw
     obtain ⟨b0, b1, b2⟩ := HB.out _ hw
     go_simp
     exact rfl
    go_simp
    refine hK _ ?_
    clear hK K)
  refine loose_any rfl (fun w hw => ?_) (fun K hK => ?_)
  · go_simp
    exact loose_ret (product_any _ _ _) hw
  rintro v ⟨r1, rfl, h1⟩
  go_simp
  refine hK _ ?_
  clear hK K
  repeat (
    refine loose_one ?_ rfl (fun w hw => ?_) (fun K hK => ?_)
    rotate_left
    ·obtain ⟨a0, a1, a2⟩ := HA.out _ hw
     obtain ⟨b0, b1, b2⟩ := HB.out _ hw
     go_simp
     exact rfl
    go_simp
    refine hK _ ?_
    clear hK K)
  refine loose_any rfl (fun w hw => ?_) (fun K hK => ?_)
  · go_simp
    exact loose_ret (product_any _ _ _) hw
  rintro v ⟨r2, rfl, h2⟩
  go_simp
  refine hK _ ?_
  clear hK K
  repeat (
    refine loose_one ?_ rfl (fun w hw => ?_) (fun K hK => ?_)
    rotate_left
    ·obtain ⟨a0, a1, a2⟩ := HA.out _ hw
     obtain ⟨b0, b1, b2⟩ := HB.out _ hw
     go_simp
     exact rfl
    go_simp
    refine hK _ ?_
    clear hK K)
  refine loose_any rfl (fun w hw => ?_) (fun K hK => ?_)
  · go_simp
    exact loose_ret (product_any _ _ _) hw
  rintro v ⟨r3, rfl, h3⟩
  go_simp
  refine hK _ ?_
  clear hK K
  repeat (
    refine loose_one ?_ rfl (fun w hw => ?_) (fun K hK => ?_)
    rotate_left
    ·obtain ⟨a0, a1, a2⟩ := HA.out _ hw
     obtain ⟨b0, b1, b2⟩ := HB.out _ hw
     go_simp
     exact rfl
    go_simp
    refine hK _ ?_
    clear hK K)
  intro w' hw'
  obtain ⟨z0, z1, z2⟩ := HZ.out _ hw'
  obtain ⟨f0, f1, f2⟩ := HY.out _ hw'
  have HW : Hid (Cl (((w.alloc (.cells #[.float .f64 ax, .float .f64 ay, .float .f64 az] 24)).alloc (.cells #[.float .f64 bx, .float .f64 bY, .float .f64 bz] 24)).alloc (.cells #[.float .f64 0, .float .f64 0, .float .f64 0] 24)) w') := hw'
  clear hw'
  go_wp2_with fail
  refine bodyPost_ret (v := .agg #[.float .f64 r1, .float .f64 r2, .float .f64 r3]) (by simp [results, go_sem, z0, z1, z2]) rfl ⟨_, rfl, ⟨_, _, _, rfl, by assumption, by assumption, by assumption⟩, ((((HW.out.out3).setCell (by simp <;> omega) _).setCell (by simp <;> omega) _).setCell (by simp <;> omega) _)⟩

end Go.Proofs.Ytjcdmdjkolmliaa

namespace Go.Proofs.Ytjcdmdjkolmliaa
open Go.RowKit Fl

end Go.Proofs.Ytjcdmdjkolmliaa

namespace Go.Proofs.Ytjcdmdjkolmliaa
open Go.RowKit Fl

set_option maxRecDepth 100000 in
set_option maxHeartbeats 1000000 in
theorem parts_scale (ax ay az : Nat) (k b : Nat) (w : World) (hk : w.cell? ⟨b, 0, none⟩ = some (.float .f64 k)) (hb : b < w.heap.size) : Ret Try.prog 50 #[.agg #[.float .f64 ax, .float .f64 ay, .float .f64 az], .func (.func 55) #[] #[.pointer (some ⟨b, 0, none⟩)]] w (isV (fmul ax k) (fmul ay k) (fmul az k)) := by
  unfold Ret
  go_enter Try.func50, Try.ntmps50
  go_wp2_with fail
  refine wp_region_loose (Cl _) [none, none, none, some (isF (fmul ax k)), none, none, none, some (isF (fmul ay k)), none, none, none, some (isF (fmul az k)), none] 13 (by kernel_rfl) (by kernel_rfl) (by kernel_rfl) (Cl.drew _) ?_
  have HA : Hid (∀ w', Cl ((w.alloc (.cells #[.float .f64 ax, .float .f64 ay, .float .f64 az] 24)).alloc (.cells #[.float .f64 0, .float .f64 0, .float .f64 0] 24)) w' → _) := fun w' h => h.three (b := w.heap.size) (by go_simp; exact rfl) (by go_simp; exact rfl) (by go_simp; exact rfl) (by go_simp; done)
  have HZ : Hid (∀ w', Cl ((w.alloc (.cells #[.float .f64 ax, .float .f64 ay, .float .f64 az] 24)).alloc (.cells #[.float .f64 0, .float .f64 0, .float .f64 0] 24)) w' → _) := fun w' h => h.three (b := w.heap.size + 1) (by go_simp; exact rfl) (by go_simp; exact rfl) (by go_simp; exact rfl) (by go_simp; done)
  have HY : Hid (∀ w', Cl ((w.alloc (.cells #[.float .f64 ax, .float .f64 ay, .float .f64 az] 24)).alloc (.cells #[.float .f64 0, .float .f64 0, .float .f64 0] 24)) w' → _) := fun w' h => h.frz (b := w.heap.size + 1) (by go_simp; done) (by go_simp; done) (by go_simp; done) (by go_simp; done)
  have HK : Hid (∀ w', Cl ((w.alloc (.cells #[.float .f64 ax, .float .f64 ay, .float .f64 az] 24)).alloc (.cells #[.float .f64 0, .float .f64 0, .float .f64 0] 24)) w' → w'.cell? ⟨b, 0, none⟩ = some (.float .f64 k)) := fun w' h => (h.out2.cell (p := ⟨b, 0, none⟩) hb).trans hk
  clear hk
  repeat (
    refine loose_one ?_ rfl (fun w hw => ?_) (fun K hK => ?_)
    rotate_left
    ·obtain ⟨a0, a1, a2⟩ := HA.out _ hw
     go_simp
     exact rfl
    go_simp
    refine hK _ ?_
    clear hK K)
  refine loose_any rfl (fun w hw => ?_) (fun K hK => ?_)
  · go_simp
    exact loose_ret (scale1 _ k b _ (HK.out _ hw)) hw
  rintro v ⟨r1, rfl, h1⟩
  go_simp
  refine hK _ ?_
  clear hK K
  repeat (
    refine loose_one ?_ rfl (fun w hw => ?_) (fun K hK => ?_)
    rotate_left
    ·obtain ⟨a0, a1, a2⟩ := HA.out _ hw
     go_simp
     exact rfl
    go_simp
    refine hK _ ?_
    clear hK K)
  refine loose_any rfl (fun w hw => ?_) (fun K hK => ?_)
  · go_simp
    exact loose_ret (scale1 _ k b _ (HK.out _ hw)) hw
  rintro v ⟨r2, rfl, h2⟩
  go_simp
  refine hK _ ?_
  clear hK K
  repeat (
    refine loose_one ?_ rfl (fun w hw => ?_) (fun K hK => ?_)
    rotate_left
    ·obtain ⟨a0, a1, a2⟩ := HA.out _ hw
     go_simp
     exact rfl
    go_simp
    refine hK _ ?_
    clear hK K)
  refine loose_any rfl (fun w hw => ?_) (fun K hK => ?_)
  · go_simp
    exact loose_ret (scale1 _ k b _ (HK.out _ hw)) hw
  rintro v ⟨r3, rfl, h3⟩
  go_simp
  refine hK _ ?_
  clear hK K
  repeat (
    refine loose_one ?_ rfl (fun w hw => ?_) (fun K hK => ?_)
    rotate_left
    ·obtain ⟨a0, a1, a2⟩ := HA.out _ hw
     go_simp
     exact rfl
    go_simp
    refine hK _ ?_
    clear hK K)
  intro w' hw'
  obtain ⟨z0, z1, z2⟩ := HZ.out _ hw'
  obtain ⟨f0, f1, f2⟩ := HY.out _ hw'
  have HW : Hid (Cl ((w.alloc (.cells #[.float .f64 ax, .float .f64 ay, .float .f64 az] 24)).alloc (.cells #[.float .f64 0, .float .f64 0, .float .f64 0] 24)) w') := hw'
  clear hw'
  go_wp2_with fail
  refine bodyPost_ret (v := .agg #[.float .f64 r1, .float .f64 r2, .float .f64 r3]) (by simp [results, go_sem, z0, z1, z2]) rfl ⟨_, rfl, ⟨_, _, _, rfl, by assumption, by assumption, by assumption⟩, ((((HW.out.out2).setCell (by simp <;> omega) _).setCell (by simp <;> omega) _).setCell (by simp <;> omega) _)⟩

set_option maxRecDepth 100000 in
set_option maxHeartbeats 1000000 in
theorem parts_unit (ax ay az : Nat) (k b : Nat) (w : World) (hk : w.cell? ⟨b, 0, none⟩ = some (.float .f64 k)) (hb : b < w.heap.size) : Ret Try.prog 50 #[.agg #[.float .f64 ax, .float .f64 ay, .float .f64 az], .func (.func 51) #[] #[.pointer (some ⟨b, 0, none⟩)]] w (isV (fdiv ax k) (fdiv ay k) (fdiv az k)) := by
  unfold Ret
  go_enter Try.func50, Try.ntmps50
  go_wp2_with fail
  refine wp_region_loose (Cl _) [none, none, none, some (isF (fdiv ax k)), none, none, none, some (isF (fdiv ay k)), none, none, none, some (isF (fdiv az k)), none] 13 (by kernel_rfl) (by kernel_rfl) (by kernel_rfl) (Cl.drew _) ?_
  have HA : Hid (∀ w', Cl ((w.alloc (.cells #[.float .f64 ax, .float .f64 ay, .float .f64 az] 24)).alloc (.cells #[.float .f64 0, .float .f64 0, .float .f64 0] 24)) w' → _) := fun w' h => h.three (b := w.heap.size) (by go_simp; exact rfl) (by go_simp; exact rfl) (by go_simp; exact rfl) (by go_simp; done)
  have HZ : Hid (∀ w', Cl ((w.alloc (.cells #[.float .f64 ax, .float .f64 ay, .float .f64 az] 24)).alloc (.cells #[.float .f64 0, .float .f64 0, .float .f64 0] 24)) w' → _) := fun w' h => h.three (b := w.heap.size + 1) (by go_simp; exact rfl) (by go_simp; exact rfl) (by go_simp; exact rfl) (by go_simp; done)
  have HY : Hid (∀ w', Cl ((w.alloc (.cells #[.float .f64 ax, .float .f64 ay, .float .f64 az] 24)).alloc (.cells #[.float .f64 0, .float .f64 0, .float .f64 0] 24)) w' → _) := fun w' h => h.frz (b := w.heap.size + 1) (by go_simp; done) (by go_simp; done) (by go_simp; done) (by go_simp; done)
  have HK : Hid (∀ w', Cl ((w.alloc (.cells #[.float .f64 ax, .float .f64 ay, .float .f64 az] 24)).alloc (.cells #[.float .f64 0, .float .f64 0, .float .f64 0] 24)) w' → w'.cell? ⟨b, 0, none⟩ = some (.float .f64 k)) := fun w' h => (h.out2.cell (p := ⟨b, 0, none⟩) hb).trans hk
  clear hk
  repeat (
    refine loose_one ?_ rfl (fun w hw => ?_) (fun K hK => ?_)
    rotate_left
    ·obtain ⟨a0, a1, a2⟩ := HA.out _ hw
     go_simp
     exact rfl
    go_simp
    refine hK _ ?_
    clear hK K)
  refine loose_any rfl (fun w hw => ?_) (fun K hK => ?_)
  · go_simp
    exact loose_ret (unit1 _ k b _ (HK.out _ hw)) hw
  rintro v ⟨r1, rfl, h1⟩
  go_simp
  refine hK _ ?_
  clear hK K
  repeat (
    refine loose_one ?_ rfl (fun w hw => ?_) (fun K hK => ?_)
    rotate_left
    ·obtain ⟨a0, a1, a2⟩ := HA.out _ hw
     go_simp
     exact rfl
    go_simp
    refine hK _ ?_
    clear hK K)
  refine loose_any rfl (fun w hw => ?_) (fun K hK => ?_)
  · go_simp
    exact loose_ret (unit1 _ k b _ (HK.out _ hw)) hw
  rintro v ⟨r2, rfl, h2⟩
  go_simp
  refine hK _ ?_
  clear hK K
  repeat (
    refine loose_one ?_ rfl (fun w hw => ?_) (fun K hK => ?_)
    rotate_left
    ·obtain ⟨a0, a1, a2⟩ := HA.out _ hw
     go_simp
     exact rfl
    go_simp
    refine hK _ ?_
    clear hK K)
  refine loose_any rfl (fun w hw => ?_) (fun K hK => ?_)
  · go_simp
    exact loose_ret (unit1 _ k b _ (HK.out _ hw)) hw
  rintro v ⟨r3, rfl, h3⟩
  go_simp
  refine hK _ ?_
  clear hK K
  repeat (
    refine loose_one ?_ rfl (fun w hw => ?_) (fun K hK => ?_)
    rotate_left
    ·obtain ⟨a0, a1, a2⟩ := HA.out _ hw
     go_simp
     exact rfl
    go_simp
    refine hK _ ?_
    clear hK K)
  intro w' hw'
  obtain ⟨z0, z1, z2⟩ := HZ.out _ hw'
  obtain ⟨f0, f1, f2⟩ := HY.out _ hw'
  have HW : Hid (Cl ((w.alloc (.cells #[.float .f64 ax, .float .f64 ay, .float .f64 az] 24)).alloc (.cells #[.float .f64 0, .float .f64 0, .float .f64 0] 24)) w') := hw'
  clear hw'
  go_wp2_with fail
  refine bodyPost_ret (v := .agg #[.float .f64 r1, .float .f64 r2, .float .f64 r3]) (by simp [results, go_sem, z0, z1, z2]) rfl ⟨_, rfl, ⟨_, _, _, rfl, by assumption, by assumption, by assumption⟩, ((((HW.out.out2).setCell (by simp <;> omega) _).setCell (by simp <;> omega) _).setCell (by simp <;> omega) _)⟩

end Go.Proofs.Ytjcdmdjkolmliaa

namespace Go.Proofs.Ytjcdmdjkolmliaa
open Go.RowKit Fl

set_option maxRecDepth 100000 in
set_option maxHeartbeats 1000000 in
theorem add_any (ax ay az bx bY bz : Nat) (w : World) : Ret Try.prog 42 #[.agg #[.float .f64 ax, .float .f64 ay, .float .f64 az], .agg #[.float .f64 bx, .float .f64 bY, .float .f64 bz]] w (isV (fadd ax bx) (fadd ay bY) (fadd az bz)) := by
  unfold Ret
  go_enter Try.func42, Try.ntmps42
  go_wp2_with fail
  refine Calls.mono (pairs_add _ _ _ _ _ _ _) ?_
  rintro e w' ⟨v, rfl, ⟨r1, r2, r3, rfl, h1, h2, h3⟩, hw'⟩
  have HW : Hid (Cl (((w.alloc (.cells #[.float .f64 ax, .float .f64 ay, .float .f64 az] 24)).alloc (.cells #[.float .f64 bx, .float .f64 bY, .float .f64 bz] 24)).alloc (.cells #[.float .f64 0, .float .f64 0, .float .f64 0] 24)) w') := hw'
  obtain ⟨z0, z1, z2⟩ := HW.out.three (b := w.heap.size + 1 + 1) (by go_simp; exact rfl) (by go_simp; exact rfl) (by go_simp; exact rfl) (by go_simp; done)
  obtain ⟨f0, f1, f2⟩ := HW.out.frz (b := w.heap.size + 1 + 1) (by go_simp; done) (by go_simp; done) (by go_simp; done) (by go_simp; done)
  clear hw'
  go_wp2_with fail
  refine bodyPost_ret (v := .agg #[.float .f64 r1, .float .f64 r2, .float .f64 r3]) (by simp [results, go_sem, z0, z1, z2]) rfl ⟨_, rfl, ⟨_, _, _, rfl, by assumption, by assumption, by assumption⟩, ((((HW.out.out3).setCell (by simp <;> omega) _).setCell (by simp <;> omega) _).setCell (by simp <;> omega) _)⟩

set_option maxRecDepth 100000 in
set_option maxHeartbeats 1000000 in
theorem sub_any (ax ay az bx bY bz : Nat) (w : World) : Ret Try.prog 33 #[.agg #[.float .f64 ax, .float .f64 ay, .float .f64 az], .agg #[.float .f64 bx, .float .f64 bY, .float .f64 bz]] w (isV (fsub ax bx) (fsub ay bY) (fsub az bz)) := by
  unfold Ret
  go_enter Try.func33, Try.ntmps33
  go_wp2_with fail
  refine Calls.mono (pairs_sub _ _ _ _ _ _ _) ?_
  rintro e w' ⟨v, rfl, ⟨r1, r2, r3, rfl, h1, h2, h3⟩, hw'⟩
  have HW : Hid (Cl (((w.alloc (.cells #[.float .f64 ax, .float .f64 ay, .float .f64 az] 24)).alloc (.cells #[.float .f64 bx, .float .f64 bY, .float .f64 bz] 24)).alloc (.cells #[.float .f64 0, .float .f64 0, .float .f64 0] 24)) w') := hw'
  obtain ⟨z0, z1, z2⟩ := HW.out.three (b := w.heap.size + 1 + 1) (by go_simp; exact rfl) (by go_simp; exact rfl) (by go_simp; exact rfl) (by go_simp; done)
  obtain ⟨f0, f1, f2⟩ := HW.out.frz (b := w.heap.size + 1 + 1) (by go_simp; done) (by go_simp; done) (by go_simp; done) (by go_simp; done)
  clear hw'
  go_wp2_with fail
  refine bodyPost_ret (v := .agg #[.float .f64 r1, .float .f64 r2, .float .f64 r3]) (by simp [results, go_sem, z0, z1, z2]) rfl ⟨_, rfl, ⟨_, _, _, rfl, by assumption, by assumption, by assumption⟩, ((((HW.out.out3).setCell (by simp <;> omega) _).setCell (by simp <;> omega) _).setCell (by simp <;> omega) _)⟩

set_option maxRecDepth 100000 in
set_option maxHeartbeats 1000000 in
theorem scale_any (ax ay az k : Nat) (w : World) : Ret Try.prog 43 #[.agg #[.float .f64 ax, .float .f64 ay, .float .f64 az], .float .f64 k] w (isV (fmul ax k) (fmul ay k) (fmul az k)) := by
  unfold Ret
  go_enter Try.func43, Try.ntmps43
  go_wp2_with fail
  refine Calls.mono (parts_scale _ _ _ k (w.heap.size + 1) _ (by go_simp; done) (by go_simp; done)) ?_
  rintro e w' ⟨v, rfl, ⟨r1, r2, r3, rfl, h1, h2, h3⟩, hw'⟩
  have HW : Hid (Cl (((w.alloc (.cells #[.float .f64 ax, .float .f64 ay, .float .f64 az] 24)).alloc (.cells #[.float .f64 k] 22)).alloc (.cells #[.float .f64 0, .float .f64 0, .float .f64 0] 24)) w') := hw'
  obtain ⟨z0, z1, z2⟩ := HW.out.three (b := w.heap.size + 1 + 1) (by go_simp; exact rfl) (by go_simp; exact rfl) (by go_simp; exact rfl) (by go_simp; done)
  obtain ⟨f0, f1, f2⟩ := HW.out.frz (b := w.heap.size + 1 + 1) (by go_simp; done) (by go_simp; done) (by go_simp; done) (by go_simp; done)
  clear hw'
  go_wp2_with fail
  refine bodyPost_ret (v := .agg #[.float .f64 r1, .float .f64 r2, .float .f64 r3]) (by simp [results, go_sem, z0, z1, z2]) rfl ⟨_, rfl, ⟨_, _, _, rfl, by assumption, by assumption, by assumption⟩, ((((HW.out.out3).setCell (by simp <;> omega) _).setCell (by simp <;> omega) _).setCell (by simp <;> omega) _)⟩

end Go.Proofs.Ytjcdmdjkolmliaa

namespace Go.Proofs.Ytjcdmdjkolmliaa
open Go.RowKit Fl

set_option maxRecDepth 100000 in
set_option maxHeartbeats 1000000 in
theorem len2_any (ax ay az : Nat) (w : World) : Ret Try.prog 35 #[.agg #[.float .f64 ax, .float .f64 ay, .float .f64 az]] w (isF (dotF ax ay az ax ay az)) := by
  unfold Ret
  go_enter Try.func35, Try.ntmps35
  go_wp2_with fail
  refine Calls.mono (dot_any _ _ _ _ _ _ _) ?_
  rintro e w' ⟨v, rfl, ⟨r, rfl, hr⟩, hb⟩
  have HW : Hid (Cl (w.alloc (.cells #[.float .f64 ax, .float .f64 ay, .float .f64 az] 24)) w') := hb
  clear hb
  go_wp2_with fail
  go_ret
  exact ⟨_, rfl, ⟨_, rfl, hr⟩, HW.out.out1⟩

set_option maxRecDepth 100000 in
set_option maxHeartbeats 1000000 in
theorem len_any (ax ay az : Nat) (w : World) : Ret Try.prog 46 #[.agg #[.float .f64 ax, .float .f64 ay, .float .f64 az]] w (isF (fsqrt (dotF ax ay az ax ay az))) := by
  unfold Ret
  go_enter Try.func46, Try.ntmps46
  go_wp2_with fail
  refine Calls.mono (len2_any _ _ _ _) ?_
  rintro e w' ⟨v, rfl, ⟨r, rfl, hr⟩, hb⟩
  have HW : Hid (Cl (w.alloc (.cells #[.float .f64 ax, .float .f64 ay, .float .f64 az] 24)) w') := hb
  clear hb
  go_wp2_with fail
  refine Calls.mono (sqrt_any _ _) ?_
  rintro e w2 ⟨v, rfl, ⟨r2, rfl, hr2⟩, hb⟩
  have HW2 : Hid (Cl (w.alloc (.cells #[.float .f64 ax, .float .f64 ay, .float .f64 az] 24)) w2) := HW.out.call hb
  clear hb
  go_wp2_with fail
  go_ret
  exact ⟨_, rfl, ⟨_, rfl, hr2.to (Sm.of_eq (fsqrt_congr hr.sm))⟩, HW2.out.out1⟩

/-- The part of an axis. -/
def partF (ax ay az : Nat) (i : Int) : Nat := if i = 0 then ax else if i = 1 then ay else az

end Go.Proofs.Ytjcdmdjkolmliaa

namespace Go.Proofs.Ytjcdmdjkolmliaa
open Go.RowKit Fl

def unitB (z : Nat) : Bool := ford z 0 == some .gt && numB z
abbrev lenF (ax ay az : Nat) : Nat := fsqrt (dotF ax ay az ax ay az)
theorem gt_congr {r z : Nat} (h : Eqv r z) : (FloatKind.f64.format.order r 0 == some .gt) = (ford z 0 == some .gt) := by
  rw [← ford_congr h.sm (Sm.refl 0)]; rfl

set_option maxRecDepth 100000 in
set_option maxHeartbeats 1000000 in
theorem unit_any (ax ay az : Nat) (w : World) : Ret Try.prog 34 #[.agg #[.float .f64 ax, .float .f64 ay, .float .f64 az]] w (fun v => ∃ a b c, v = .tuple #[.agg #[.float .f64 a, .float .f64 b, .float .f64 c], .bool (unitB (lenF ax ay az))] ∧
    Eqv a (if unitB (lenF ax ay az) then fdiv ax (lenF ax ay az) else 0) ∧ Eqv b (if unitB (lenF ax ay az) then fdiv ay (lenF ax ay az) else 0) ∧ Eqv c (if unitB (lenF ax ay az) then fdiv az (lenF ax ay az) else 0)) := by
  unfold Ret
  have HL : Hid _ := len_any ax ay az
  have eL : lenF ax ay az = fsqrt (dotF ax ay az ax ay az) := rfl
  generalize lenF ax ay az = z at eL ⊢
  rw [← eL] at HL
  clear eL
  unfold unitB
  have HP : Hid (∀ r, Eqv r z → (FloatKind.f64.format.order r 0 == some .gt) = (ford z 0 == some .gt)) := fun r h => gt_congr h
  have HQ : Hid (∀ r, Eqv r z → numB r = numB z) := fun r h => numB_congr h.sm
  generalize (ford z 0 == some .gt) = p at HP ⊢
  generalize numB z = q at HQ ⊢
  cases p <;> cases q
  case true.true =>
    go_enter Try.func34, Try.ntmps34
    go_wp2_with fail
    refine Calls.mono (HL.out _) ?_
    rintro e w1 ⟨v, rfl, ⟨r, rfl, hr⟩, hb⟩
    have hg := HP.out r hr
    have HN : Hid _ := number_any r
    rw [HQ.out r hr] at HN
    have HE : Hid _ := hr
    have HW : Hid (Cl ((w.alloc (.cells #[.float .f64 ax, .float .f64 ay, .float .f64 az] 24)).alloc (.cells #[.float .f64 0, .float .f64 0, .float .f64 0] 24)) (w1.alloc (.cells #[.float .f64 r] 22))) := Cl.alloc hb _
    clear hb hr HP HQ HL
    go_wp2_with fail
    refine Calls.mono (HN.out _) ?_
    rintro e w' ⟨rfl, hw⟩
    obtain rfl := hw.symm
    obtain ⟨a0, a1, a2⟩ := HW.out.three (b := w.heap.size) (by go_simp; exact rfl) (by go_simp; exact rfl) (by go_simp; exact rfl) (by go_simp; done)
    go_wp2_with fail
    refine Calls.mono (parts_unit _ _ _ r w1.heap.size _ (by go_simp; done) (by go_simp; done)) ?_
    rintro e w2 ⟨v, rfl, ⟨r1, r2, r3, rfl, h1, h2, h3⟩, hb⟩
    have HW2 : Hid (Cl ((w.alloc (.cells #[.float .f64 ax, .float .f64 ay, .float .f64 az] 24)).alloc (.cells #[.float .f64 0, .float .f64 0, .float .f64 0] 24)) w2) := HW.out.call hb
    clear hb a0 a1 a2
    obtain ⟨z0, z1, z2⟩ := HW2.out.three (b := w.heap.size + 1) (by go_simp; exact rfl) (by go_simp; exact rfl) (by go_simp; exact rfl) (by go_simp; done)
    obtain ⟨f0, f1, f2⟩ := HW2.out.frz (b := w.heap.size + 1) (by go_simp; done) (by go_simp; done) (by go_simp; done) (by go_simp; done)
    go_wp2_with fail
    refine bodyPost_ret (v := .tuple #[.agg #[.float .f64 r1, .float .f64 r2, .float .f64 r3], .bool true]) (by simp [results, go_sem, z0, z1, z2]) rfl ⟨_, rfl, ⟨_, _, _, rfl, h1.to (Sm.of_eq (fdiv_congr (Sm.refl _) HE.out.sm)), h2.to (Sm.of_eq (fdiv_congr (Sm.refl _) HE.out.sm)), h3.to (Sm.of_eq (fdiv_congr (Sm.refl _) HE.out.sm))⟩, ((((HW2.out.out2).setCell (by simp <;> omega) _).setCell (by simp <;> omega) _).setCell (by simp <;> omega) _)⟩
  case true.false =>
    go_enter Try.func34, Try.ntmps34
    go_wp2_with fail
    refine Calls.mono (HL.out _) ?_
    rintro e w1 ⟨v, rfl, ⟨r, rfl, hr⟩, hb⟩
    have hg := HP.out r hr
    have HN : Hid _ := number_any r
    rw [HQ.out r hr] at HN
    have HW : Hid (Cl ((w.alloc (.cells #[.float .f64 ax, .float .f64 ay, .float .f64 az] 24)).alloc (.cells #[.float .f64 0, .float .f64 0, .float .f64 0] 24)) (w1.alloc (.cells #[.float .f64 r] 22))) := Cl.alloc hb _
    clear hb hr HP HQ HL
    obtain ⟨z0, z1, z2⟩ := HW.out.three (b := w.heap.size + 1) (by go_simp; exact rfl) (by go_simp; exact rfl) (by go_simp; exact rfl) (by go_simp; done)
    obtain ⟨f0, f1, f2⟩ := HW.out.frz (b := w.heap.size + 1) (by go_simp; done) (by go_simp; done) (by go_simp; done) (by go_simp; done)
    go_wp2_with fail
    refine Calls.mono (HN.out _) ?_
    rintro e w' ⟨rfl, hw⟩
    obtain rfl := hw.symm
    go_wp2_with fail
    refine bodyPost_ret (v := .tuple #[.agg #[.float .f64 0, .float .f64 0, .float .f64 0], .bool false]) (by simp [results, go_sem, z0, z1, z2]) rfl ⟨_, rfl, ⟨_, _, _, rfl, Eqv.refl wd_zero, Eqv.refl wd_zero, Eqv.refl wd_zero⟩, ((((HW.out.out2).setCell (by simp <;> omega) _).setCell (by simp <;> omega) _).setCell (by simp <;> omega) _)⟩
  all_goals
    go_enter Try.func34, Try.ntmps34
    go_wp2_with fail
    refine Calls.mono (HL.out _) ?_
    rintro e w1 ⟨v, rfl, ⟨r, rfl, hr⟩, hb⟩
    have hg := HP.out r hr
    have HN : Hid _ := number_any r
    rw [HQ.out r hr] at HN
    have HW : Hid (Cl ((w.alloc (.cells #[.float .f64 ax, .float .f64 ay, .float .f64 az] 24)).alloc (.cells #[.float .f64 0, .float .f64 0, .float .f64 0] 24)) (w1.alloc (.cells #[.float .f64 r] 22))) := Cl.alloc hb _
    clear hb hr HP HQ HL
    obtain ⟨z0, z1, z2⟩ := HW.out.three (b := w.heap.size + 1) (by go_simp; exact rfl) (by go_simp; exact rfl) (by go_simp; exact rfl) (by go_simp; done)
    obtain ⟨f0, f1, f2⟩ := HW.out.frz (b := w.heap.size + 1) (by go_simp; done) (by go_simp; done) (by go_simp; done) (by go_simp; done)
    go_wp2_with fail
    refine bodyPost_ret (v := .tuple #[.agg #[.float .f64 0, .float .f64 0, .float .f64 0], .bool false]) (by simp [results, go_sem, z0, z1, z2]) rfl ⟨_, rfl, ⟨_, _, _, rfl, Eqv.refl wd_zero, Eqv.refl wd_zero, Eqv.refl wd_zero⟩, ((((HW.out.out2).setCell (by simp <;> omega) _).setCell (by simp <;> omega) _).setCell (by simp <;> omega) _)⟩

end Go.Proofs.Ytjcdmdjkolmliaa
