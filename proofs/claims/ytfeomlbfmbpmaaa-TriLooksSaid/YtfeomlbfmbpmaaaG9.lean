/- A region that draws its order and stores a result while others are told: Lw over worlds that may turn one block, to what it is told to hold. Package tri: Meet. What must come at any rate. Numbers that need no rounding; quotients keep order. -/
import Derived.Test.YtfeomlbfmbpmaaaG7
import Derived.Test.YtfeomlbfmbpmaaaG3
import Derived.Test.YtfeomlbfmbpmaaaRows
import Derived.Test.YtfeomlbfmbpmaaaG8
import Derived.Test.YtfeomlbfmbpmaaaG5
namespace Go.Proofs.Ytfeomlbfmbpmaaa.Ls
open Go.RowKit Fl Lp Lw

/-- All but block b is as it was; that is as it was, or new. -/
structure Sto (b : Nat) (new : Obj) (w w' : World) : Prop where
  os : w'.os = w.os
  tape : w'.tape = w.tape
  output : w'.output = w.output
  size : w.heap.size ≤ w'.heap.size
  block : ∀ k, k < w.heap.size → k ≠ b → w'.heap[k]? = w.heap[k]?
  at_ : ∀ o, w.heap[b]? = some o → w'.heap[b]? = some o ∨ w'.heap[b]? = some new
section
variable {b : Nat} {new : Obj} {w w' w'' : World}
theorem Sto.of (h : Below w.heap.size w w') : Sto b new w w' :=
  ⟨h.os, h.tape, h.output, h.size, fun k hk _ => h.block k hk, fun _ ho => .inl ((h.block b (Array.getElem?_eq_some_iff.1 ho).1).trans ho)⟩
theorem Sto.trans (h : Sto b new w w') (k : Sto b new w' w'') : Sto b new w w'' :=
  ⟨k.os.trans h.os, k.tape.trans h.tape, k.output.trans h.output, Nat.le_trans h.size k.size, fun i hi hn => (k.block i (Nat.lt_of_lt_of_le hi h.size) hn).trans (h.block i hi hn), fun o ho => by
    rcases h.at_ o ho with e | e
    · exact k.at_ o e
    · exact .inr (by rcases k.at_ _ e with e | e <;> exact e)⟩
theorem along (W : World) : Along (Sto b new) (Sto b new W) := fun _ _ hr h => h.trans hr
theorem along_new : Along (Sto b new) fun w => w.heap[b]? = some new := fun _ _ hr h => by rcases hr.at_ _ h with e | e <;> exact e
theorem Sto.keep {i : Nat} {vs : Array Value} {t : TypeId} (h : Sto b new w w') (hb : Bk w i vs t) (hn : i ≠ b) : Bk w' i vs t := (h.block i hb.lt hn).trans hb
theorem Sto.cl {W : World} (h : Sto b new w w') (k : Cl W w) (hb : W.heap.size ≤ b) : Cl W w' :=
  ⟨h.os.trans k.os, h.tape.trans k.tape, h.output.trans k.output, Nat.le_trans k.size h.size, fun i hi => (h.block i (Nat.lt_of_lt_of_le hi k.size) (by omega)).trans (k.block i hi)⟩
theorem Sto.refl (w : World) : Sto b new w w := Sto.of (Below.refl _ _)
/-- Block b, before or behind the store. -/
theorem Sto.old {vs ns : Array Value} {t : TypeId} (h : Sto b (.cells ns t) w w') (hb : Bk w b vs t) : Bk w' b vs t ∨ Bk w' b ns t := h.at_ _ hb
theorem same_set {w0 w : World} {b k i : Nat} {u : Value} (hk : k ≠ b) (h : w.heap[k]? = w0.heap[k]?) : (w.setCell ⟨b, i, none⟩ u).heap[k]? = w0.heap[k]? := (Below.heap_setCell w ⟨b, i, none⟩ u k hk).trans h
theorem stored {ns : Array Value} {t : TypeId} (ho : w'.os = w.os) (ht : w'.tape = w.tape) (hp : w'.output = w.output) (hs : w'.heap.size = w.heap.size) (hk : ∀ k, k ≠ b → w'.heap[k]? = w.heap[k]?) (hn : Bk w' b ns t) : Sto b (.cells ns t) w w' :=
  ⟨ho, ht, hp, by rw [hs]; exact Nat.le_refl _, fun k _ h => hk k h, fun _ _ => .inr hn⟩
end
section
variable {P : Program} {ops : Array Oper} {md : Region.Mode} {Q : Exit → Act → World → Prop}
theorem region {id : Nat} {a : Act} {w : World} {l : List Oper} (b : Nat) (new : Obj) (kds : List Kd) (m : Nat) (hm : P.follows .mixedOrders = true) (hB : Region.lexB .any l.toArray = true)
    (hL : tailWaits .any l.toArray m = true) (h : wpLoose P (Sto b new) .any l.toArray (Sto b new w) Q kds m 0 l a (fun _ _ => True)) : (Code.region id l.toArray true).wp P Q a w :=
  wp_region_loose (Sto b new) (Sto b new w) kds m hm hB hL (along w) (Sto.of (Below.drew (Below.refl _ _))) h
theorem ret {b : Nat} {new : Obj} {f : FuncId} {args : Array Value} {V : Value → Prop} {w : World} (h : Ret P f args w V) : Upon P (Sto b new) w (fun v _ => V v) (.ok (.enter f args) w) :=
  Calls.mono h fun _ _ ⟨v, he, hV, hb⟩ => ⟨v, he, hV, Sto.of hb⟩
end
end Go.Proofs.Ytfeomlbfmbpmaaa.Ls

namespace Go.Proofs.Ytfeomlbfmbpmaaa
open Go.RowKit Fl

theorem bkc {w : World} {b : Nat} {vs : Array Value} {t : TypeId} (h : Lp.Bk w b vs t) : Lp.Bk w b vs t ∧ ∀ i, w.cell? ⟨b, i, none⟩ = vs[i]? := ⟨h, h.cell⟩
theorem _root_.Go.Proofs.Ytfeomlbfmbpmaaa.Fl.Cl.drew' {W w : World} (h : Cl W w) : Cl W w.drew := Below.drew h
theorem zero_self : (FloatKind.f64.format.order 0 0 == some .eq) = true := by decide +kernel
set_option maxRecDepth 100000 in
set_option maxHeartbeats 1000000 in
theorem meet_any (A B C O D : V3) (w : World) : Ret Try.prog 5 #[.agg #[.float .f64 A.x, .float .f64 A.y, .float .f64 A.z, .float .f64 B.x, .float .f64 B.y, .float .f64 B.z, .float .f64 C.x, .float .f64 C.y, .float .f64 C.z], .agg #[.float .f64 O.x, .float .f64 O.y, .float .f64 O.z, .float .f64 D.x, .float .f64 D.y, .float .f64 D.z]] w (fun v => v = .tuple #[hitV (meetF A B C O D), .bool (meetF A B C O D).isSome]) := by
  unfold Ret
  have HA := hid (fun b w => asked_any A B C O D b w)
  generalize meetF A B C O D = M at HA ⊢
  have z0 := zero_self
  rcases M with _ | h
  · simp only [hitV] at HA
    simp only [hitV, Option.isSome]
    have HB : Cl w w := Below.refl _ _
    go_enter Try.func5, Try.ntmps5
    go_wp2_with fail
    refine Lp.settle (fun w' => Lp.Bk w' (w.heap.size) #[.float .f64 A.x, .float .f64 A.y, .float .f64 A.z, .float .f64 B.x, .float .f64 B.y, .float .f64 B.z, .float .f64 C.x, .float .f64 C.y, .float .f64 C.z] 26 ∧ Lp.Bk w' (w.heap.size + 1) #[.float .f64 O.x, .float .f64 O.y, .float .f64 O.z, .float .f64 D.x, .float .f64 D.y, .float .f64 D.z] 28 ∧ Lp.Bk w' (w.heap.size + 1 + 1) #[.int .i64 0, .float .f64 0, .float .f64 0, .float .f64 0] 30 ∧ Cl w w') ⟨((Lp.Bk.al _ _ _).alo _).alo _, (Lp.Bk.al1 _ _ _ _).alo _, Lp.Bk.al2 _ _ _ _ _, (((HB).alloc _).alloc _).alloc _⟩ ?_
    clear HB
    rintro v1 ⟨BT, BY, BR, HB⟩
    have kT := BT.cell
    have kY := BY.cell
    have kR := BR.cell
    have zR := BR.frz
    have nT0 : (w.heap.size = v1.heap.size) = False := eq_false (by have := BT.lt; omega)
    have mT0 : w.heap.size < v1.heap.size := by have := BT.lt; omega
    have nT1 : (w.heap.size = v1.heap.size + 1) = False := eq_false (by have := BT.lt; omega)
    have mT1 : w.heap.size < v1.heap.size + 1 := by have := BT.lt; omega
    have nY0 : (w.heap.size + 1 = v1.heap.size) = False := eq_false (by have := BY.lt; omega)
    have mY0 : w.heap.size + 1 < v1.heap.size := by have := BY.lt; omega
    have nY1 : (w.heap.size = v1.heap.size) = False := eq_false (by have := BY.lt; omega)
    have mY1 : w.heap.size < v1.heap.size := by have := BY.lt; omega
    have nR0 : (w.heap.size + 1 + 1 = v1.heap.size) = False := eq_false (by have := BR.lt; omega)
    have mR0 : w.heap.size + 1 + 1 < v1.heap.size := by have := BR.lt; omega
    have nR1 : (w.heap.size + 1 = v1.heap.size) = False := eq_false (by have := BR.lt; omega)
    have mR1 : w.heap.size + 1 < v1.heap.size := by have := BR.lt; omega
    have hlt : w.heap.size + 1 + 1 < v1.heap.size := BR.lt
    apply Lw.region _ _ 5 (by kernel_rfl) (by kernel_rfl) (by kernel_rfl) (Below.refl _ _)
    apply Lw.facts
    · intro w1 hw
      exact And.intro (BT.cl hw).cell (And.intro (BY.cl hw).cell ((BR.cl hw).cell))
    intro HF
    iterate 1 (
      apply Lw.one ?_ rfl
      · intro w hw
        obtain ⟨k0, k1, k2⟩ := HF.out _ hw
        go_simp
        exact rfl
      intro K hK
      go_simp
      refine hK.out _ ?_
      clear hK K)
    apply Lw.anyW (V := fun v w' => ∃ b, v = .func (.func 43) #[] #[.pointer (some ⟨b, 0, none⟩)] ∧ w'.heap[b]? = some (.cells #[.float .f64 O.x, .float .f64 O.y, .float .f64 O.z, .float .f64 D.x, .float .f64 D.y, .float .f64 D.z] 28)) rfl
    · exact fun v x y hb ⟨b, e, h⟩ => ⟨b, e, Lp.Bk.keep h hb⟩
    · intro w hw _
      go_simp
      exact Calls.mono (asker_any O D _) fun e w' ⟨he, hb, hk⟩ => ⟨_, he, ⟨_, rfl, hk⟩, hb⟩
    intro K hK v hv
    obtain ⟨_, _, b, rfl, _⟩ := hv
    go_simp
    refine hK.out _ _ ?_
    clear hK K
    iterate 1 (
      apply Lw.one ?_ rfl
      · intro w hw
        obtain ⟨k0, k1, k2⟩ := HF.out _ hw
        go_simp
        exact rfl
      intro K hK
      go_simp
      refine hK.out _ ?_
      clear hK K)
    apply Lw.anyN rfl
    · intro w hw hN
      obtain ⟨b', e, hk⟩ := (hN 1 (by kernel_rfl)).2 rfl
      cases e
      clear hN
      go_simp
      exact Lw.ret (HA.out b _ hk)
    intro K hK
    rintro v rfl
    go_simp
    refine hK.out _ ?_
    clear hK K
    apply Lw.new _ rfl
    · intro w hw
      go_simp
      exact rfl
    intro K hK b2 hb2
    go_simp
    refine hK.out _ _ ?_
    clear hK K
    rotate_left
    exact []
    refine Lw.finE ?_
    intro v2 hm hE
    have BH : Lp.Bk v2 b2 #[.int .i64 0, .float .f64 0, .float .f64 0, .float .f64 0] 30 := ((hE 4).2 rfl).2
    clear hE
    clear kT kY kR zR nT0 mT0 nT1 mT1 nY0 mY0 nY1 mY1 nR0 mR0 nR1 mR1
    replace BT := BT.keep hm
    replace BY := BY.keep hm
    replace BR := BR.keep hm
    replace HB := HB.call hm
    have kT := BT.cell
    have kY := BY.cell
    have kR := BR.cell
    have kH := BH.cell
    have zR := BR.frz
    have zH := BH.frz
    have nT0 : (w.heap.size = v2.heap.size) = False := eq_false (by have := BT.lt; omega)
    have mT0 : w.heap.size < v2.heap.size := by have := BT.lt; omega
    have nT1 : (w.heap.size = v2.heap.size + 1) = False := eq_false (by have := BT.lt; omega)
    have mT1 : w.heap.size < v2.heap.size + 1 := by have := BT.lt; omega
    have nY0 : (w.heap.size + 1 = v2.heap.size) = False := eq_false (by have := BY.lt; omega)
    have mY0 : w.heap.size + 1 < v2.heap.size := by have := BY.lt; omega
    have nY1 : (w.heap.size = v2.heap.size) = False := eq_false (by have := BY.lt; omega)
    have mY1 : w.heap.size < v2.heap.size := by have := BY.lt; omega
    have nR0 : (w.heap.size + 1 + 1 = v2.heap.size) = False := eq_false (by have := BR.lt; omega)
    have mR0 : w.heap.size + 1 + 1 < v2.heap.size := by have := BR.lt; omega
    have nR1 : (w.heap.size + 1 = v2.heap.size) = False := eq_false (by have := BR.lt; omega)
    have mR1 : w.heap.size + 1 < v2.heap.size := by have := BR.lt; omega
    have nH0 : (b2 = v2.heap.size) = False := eq_false (by have := BH.lt; omega)
    have mH0 : b2 < v2.heap.size := by have := BH.lt; omega
    have nH1 : (b2 = v2.heap.size + 1) = False := eq_false (by have := BH.lt; omega)
    have mH1 : b2 < v2.heap.size + 1 := by have := BH.lt; omega
    go_wp2_with fail
    refine Lp.settle (fun w' => Lp.Bk w' (w.heap.size) #[.float .f64 A.x, .float .f64 A.y, .float .f64 A.z, .float .f64 B.x, .float .f64 B.y, .float .f64 B.z, .float .f64 C.x, .float .f64 C.y, .float .f64 C.z] 26 ∧ Lp.Bk w' (w.heap.size + 1) #[.float .f64 O.x, .float .f64 O.y, .float .f64 O.z, .float .f64 D.x, .float .f64 D.y, .float .f64 D.z] 28 ∧ Lp.Bk w' (w.heap.size + 1 + 1) #[.int .i64 0, .float .f64 0, .float .f64 0, .float .f64 0] 30 ∧ Lp.Bk w' (b2) #[.int .i64 (-1), .float .f64 0, .float .f64 0, .float .f64 0] 30 ∧ Cl w w') ⟨(by (repeat (refine Lp.Bk.seto ?_ (by dsimp only; omega) _)); exact BT), (by (repeat (refine Lp.Bk.seto ?_ (by dsimp only; omega) _)); exact BY), (by (repeat (refine Lp.Bk.seto ?_ (by dsimp only; omega) _)); exact BR), ((((BH.set 0 _).set 1 _).set 2 _).set 3 _), (by (repeat (refine Below.setCell ?_ (by dsimp only; omega) _)); exact HB)⟩ ?_
    clear kT kY kR kH zR zH nT0 mT0 nT1 mT1 nY0 mY0 nY1 mY1 nR0 mR0 nR1 mR1 nH0 mH0 nH1 mH1
    clear BT BY BR BH HB
    rintro v3 ⟨BT, BY, BR, BH, HB⟩
    have kT := BT.cell
    have kY := BY.cell
    have kR := BR.cell
    have kH := BH.cell
    have zR := BR.frz
    have nT0 : (w.heap.size = v3.heap.size) = False := eq_false (by have := BT.lt; omega)
    have mT0 : w.heap.size < v3.heap.size := by have := BT.lt; omega
    have nT1 : (w.heap.size = v3.heap.size + 1) = False := eq_false (by have := BT.lt; omega)
    have mT1 : w.heap.size < v3.heap.size + 1 := by have := BT.lt; omega
    have nY0 : (w.heap.size + 1 = v3.heap.size) = False := eq_false (by have := BY.lt; omega)
    have mY0 : w.heap.size + 1 < v3.heap.size := by have := BY.lt; omega
    have nY1 : (w.heap.size = v3.heap.size) = False := eq_false (by have := BY.lt; omega)
    have mY1 : w.heap.size < v3.heap.size := by have := BY.lt; omega
    have nR0 : (w.heap.size + 1 + 1 = v3.heap.size) = False := eq_false (by have := BR.lt; omega)
    have mR0 : w.heap.size + 1 + 1 < v3.heap.size := by have := BR.lt; omega
    have nR1 : (w.heap.size + 1 = v3.heap.size) = False := eq_false (by have := BR.lt; omega)
    have mR1 : w.heap.size + 1 < v3.heap.size := by have := BR.lt; omega
    have nH0 : (b2 = v3.heap.size) = False := eq_false (by have := BH.lt; omega)
    have mH0 : b2 < v3.heap.size := by have := BH.lt; omega
    have nH1 : (b2 = v3.heap.size + 1) = False := eq_false (by have := BH.lt; omega)
    have mH1 : b2 < v3.heap.size + 1 := by have := BH.lt; omega
    clear kT kY kR kH zR nT0 mT0 nT1 mT1 nY0 mY0 nY1 mY1 nR0 mR0 nR1 mR1 nH0 mH0 nH1 mH1
    apply Ls.region (w.heap.size + 1 + 1) (.cells #[.int .i64 (-1), .float .f64 0, .float .f64 0, .float .f64 0] 30) _ 6 (by kernel_rfl) (by kernel_rfl) (by kernel_rfl)
    apply Lw.facts
    · intro w1 hw
      exact (hw.keep BH (by omega)).cell
    intro HF
    iterate 2 (
      apply Lw.one ?_ rfl
      · intro w hw
        have k0 := HF.out _ hw
        go_simp
        exact rfl
      intro K hK
      go_simp
      refine hK.out _ ?_
      clear hK K)
    apply Lw.any rfl
    · intro w hw
      go_simp
      exact Ls.ret (miss_any _)
    intro K hK
    rintro v rfl
    go_simp
    refine hK.out _ ?_
    clear hK K
    iterate 1 (
      apply Lw.one ?_ rfl
      · intro w hw
        go_simp
        exact rfl
      intro K hK
      go_simp
      refine hK.out _ ?_
      clear hK K)
    apply Lw.anyW (V := fun _ w' => w'.heap[w.heap.size + 1 + 1]? = some (.cells #[.int .i64 (-1), .float .f64 0, .float .f64 0, .float .f64 0] 30)) rfl
    · exact fun _ => Ls.along_new
    · intro w hw _
      rcases hw.old BR with h | h
      all_goals
        have kR := h.cell
        have zR := h.frz
        go_simp
        exact ⟨((((Lp.Bk.set h 0 _).set 1 _).set 2 _).set 3 _), Ls.stored rfl rfl rfl (by simp [World.setCell]) (fun k hk => Ls.same_set hk (Ls.same_set hk (Ls.same_set hk (Ls.same_set hk rfl)))) ((((Lp.Bk.set h 0 _).set 1 _).set 2 _).set 3 _)⟩
    intro K hK v _
    go_simp
    refine hK.out _ _ ?_
    clear hK K
    iterate 1 (
      apply Lw.one ?_ rfl
      · intro w hw
        go_simp
        exact rfl
      intro K hK
      go_simp
      refine hK.out _ ?_
      clear hK K)
    rotate_left
    exact []
    refine Lw.finE ?_
    intro v4 hm hE
    have BR4 : Lp.Bk v4 (w.heap.size + 1 + 1) #[.int .i64 (-1), .float .f64 0, .float .f64 0, .float .f64 0] 30 := (hE 4).2 rfl
    have kR4 := BR4.cell
    have HB4 := hm.cl HB (by omega)
    clear hm hE
    go_wp2_with fail
    refine bodyPost_ret (v := .tuple #[.agg #[.int .i64 (-1), .float .f64 0, .float .f64 0, .float .f64 0], .bool false]) (by simp [results, go_sem, kR4]) rfl ⟨_, rfl, rfl, ?_⟩
    repeat (refine Below.setCell ?_ (by dsimp only; omega) _)
    exact HB4
  · simp only [hitV] at HA
    simp only [hitV, Option.isSome]
    have HB : Cl w w := Below.refl _ _
    go_enter Try.func5, Try.ntmps5
    go_wp2_with fail
    refine Lp.settle (fun w' => Lp.Bk w' (w.heap.size) #[.float .f64 A.x, .float .f64 A.y, .float .f64 A.z, .float .f64 B.x, .float .f64 B.y, .float .f64 B.z, .float .f64 C.x, .float .f64 C.y, .float .f64 C.z] 26 ∧ Lp.Bk w' (w.heap.size + 1) #[.float .f64 O.x, .float .f64 O.y, .float .f64 O.z, .float .f64 D.x, .float .f64 D.y, .float .f64 D.z] 28 ∧ Lp.Bk w' (w.heap.size + 1 + 1) #[.int .i64 0, .float .f64 0, .float .f64 0, .float .f64 0] 30 ∧ Cl w w') ⟨((Lp.Bk.al _ _ _).alo _).alo _, (Lp.Bk.al1 _ _ _ _).alo _, Lp.Bk.al2 _ _ _ _ _, (((HB).alloc _).alloc _).alloc _⟩ ?_
    clear HB
    rintro v1 ⟨BT, BY, BR, HB⟩
    have kT := BT.cell
    have kY := BY.cell
    have kR := BR.cell
    have zR := BR.frz
    have nT0 : (w.heap.size = v1.heap.size) = False := eq_false (by have := BT.lt; omega)
    have mT0 : w.heap.size < v1.heap.size := by have := BT.lt; omega
    have nT1 : (w.heap.size = v1.heap.size + 1) = False := eq_false (by have := BT.lt; omega)
    have mT1 : w.heap.size < v1.heap.size + 1 := by have := BT.lt; omega
    have nY0 : (w.heap.size + 1 = v1.heap.size) = False := eq_false (by have := BY.lt; omega)
    have mY0 : w.heap.size + 1 < v1.heap.size := by have := BY.lt; omega
    have nY1 : (w.heap.size = v1.heap.size) = False := eq_false (by have := BY.lt; omega)
    have mY1 : w.heap.size < v1.heap.size := by have := BY.lt; omega
    have nR0 : (w.heap.size + 1 + 1 = v1.heap.size) = False := eq_false (by have := BR.lt; omega)
    have mR0 : w.heap.size + 1 + 1 < v1.heap.size := by have := BR.lt; omega
    have nR1 : (w.heap.size + 1 = v1.heap.size) = False := eq_false (by have := BR.lt; omega)
    have mR1 : w.heap.size + 1 < v1.heap.size := by have := BR.lt; omega
    have hlt : w.heap.size + 1 + 1 < v1.heap.size := BR.lt
    apply Lw.region _ _ 5 (by kernel_rfl) (by kernel_rfl) (by kernel_rfl) (Below.refl _ _)
    apply Lw.facts
    · intro w1 hw
      exact And.intro (BT.cl hw).cell (And.intro (BY.cl hw).cell ((BR.cl hw).cell))
    intro HF
    iterate 1 (
      apply Lw.one ?_ rfl
      · intro w hw
        obtain ⟨k0, k1, k2⟩ := HF.out _ hw
        go_simp
        exact rfl
      intro K hK
      go_simp
      refine hK.out _ ?_
      clear hK K)
    apply Lw.anyW (V := fun v w' => ∃ b, v = .func (.func 43) #[] #[.pointer (some ⟨b, 0, none⟩)] ∧ w'.heap[b]? = some (.cells #[.float .f64 O.x, .float .f64 O.y, .float .f64 O.z, .float .f64 D.x, .float .f64 D.y, .float .f64 D.z] 28)) rfl
    · exact fun v x y hb ⟨b, e, h⟩ => ⟨b, e, Lp.Bk.keep h hb⟩
    · intro w hw _
      go_simp
      exact Calls.mono (asker_any O D _) fun e w' ⟨he, hb, hk⟩ => ⟨_, he, ⟨_, rfl, hk⟩, hb⟩
    intro K hK v hv
    obtain ⟨_, _, b, rfl, _⟩ := hv
    go_simp
    refine hK.out _ _ ?_
    clear hK K
    iterate 1 (
      apply Lw.one ?_ rfl
      · intro w hw
        obtain ⟨k0, k1, k2⟩ := HF.out _ hw
        go_simp
        exact rfl
      intro K hK
      go_simp
      refine hK.out _ ?_
      clear hK K)
    apply Lw.anyN rfl
    · intro w hw hN
      obtain ⟨b', e, hk⟩ := (hN 1 (by kernel_rfl)).2 rfl
      cases e
      clear hN
      go_simp
      exact Lw.ret (HA.out b _ hk)
    intro K hK
    rintro v rfl
    go_simp
    refine hK.out _ ?_
    clear hK K
    apply Lw.new _ rfl
    · intro w hw
      go_simp
      exact rfl
    intro K hK b2 hb2
    go_simp
    refine hK.out _ _ ?_
    clear hK K
    rotate_left
    exact []
    refine Lw.finE ?_
    intro v2 hm hE
    have BH : Lp.Bk v2 b2 #[.int .i64 0, .float .f64 0, .float .f64 0, .float .f64 0] 30 := ((hE 4).2 rfl).2
    clear hE
    clear kT kY kR zR nT0 mT0 nT1 mT1 nY0 mY0 nY1 mY1 nR0 mR0 nR1 mR1
    replace BT := BT.keep hm
    replace BY := BY.keep hm
    replace BR := BR.keep hm
    replace HB := HB.call hm
    have kT := BT.cell
    have kY := BY.cell
    have kR := BR.cell
    have kH := BH.cell
    have zR := BR.frz
    have zH := BH.frz
    have nT0 : (w.heap.size = v2.heap.size) = False := eq_false (by have := BT.lt; omega)
    have mT0 : w.heap.size < v2.heap.size := by have := BT.lt; omega
    have nT1 : (w.heap.size = v2.heap.size + 1) = False := eq_false (by have := BT.lt; omega)
    have mT1 : w.heap.size < v2.heap.size + 1 := by have := BT.lt; omega
    have nY0 : (w.heap.size + 1 = v2.heap.size) = False := eq_false (by have := BY.lt; omega)
    have mY0 : w.heap.size + 1 < v2.heap.size := by have := BY.lt; omega
    have nY1 : (w.heap.size = v2.heap.size) = False := eq_false (by have := BY.lt; omega)
    have mY1 : w.heap.size < v2.heap.size := by have := BY.lt; omega
    have nR0 : (w.heap.size + 1 + 1 = v2.heap.size) = False := eq_false (by have := BR.lt; omega)
    have mR0 : w.heap.size + 1 + 1 < v2.heap.size := by have := BR.lt; omega
    have nR1 : (w.heap.size + 1 = v2.heap.size) = False := eq_false (by have := BR.lt; omega)
    have mR1 : w.heap.size + 1 < v2.heap.size := by have := BR.lt; omega
    have nH0 : (b2 = v2.heap.size) = False := eq_false (by have := BH.lt; omega)
    have mH0 : b2 < v2.heap.size := by have := BH.lt; omega
    have nH1 : (b2 = v2.heap.size + 1) = False := eq_false (by have := BH.lt; omega)
    have mH1 : b2 < v2.heap.size + 1 := by have := BH.lt; omega
    go_wp2_with fail
    refine Lp.settle (fun w' => Lp.Bk w' (w.heap.size) #[.float .f64 A.x, .float .f64 A.y, .float .f64 A.z, .float .f64 B.x, .float .f64 B.y, .float .f64 B.z, .float .f64 C.x, .float .f64 C.y, .float .f64 C.z] 26 ∧ Lp.Bk w' (w.heap.size + 1) #[.float .f64 O.x, .float .f64 O.y, .float .f64 O.z, .float .f64 D.x, .float .f64 D.y, .float .f64 D.z] 28 ∧ Lp.Bk w' (w.heap.size + 1 + 1) #[.int .i64 0, .float .f64 0, .float .f64 0, .float .f64 0] 30 ∧ Lp.Bk w' (b2) #[.int .i64 0, .float .f64 h.x, .float .f64 h.y, .float .f64 h.z] 30 ∧ Cl w w') ⟨(by (repeat (refine Lp.Bk.seto ?_ (by dsimp only; omega) _)); exact BT), (by (repeat (refine Lp.Bk.seto ?_ (by dsimp only; omega) _)); exact BY), (by (repeat (refine Lp.Bk.seto ?_ (by dsimp only; omega) _)); exact BR), ((((BH.set 0 _).set 1 _).set 2 _).set 3 _), (by (repeat (refine Below.setCell ?_ (by dsimp only; omega) _)); exact HB)⟩ ?_
    clear kT kY kR kH zR zH nT0 mT0 nT1 mT1 nY0 mY0 nY1 mY1 nR0 mR0 nR1 mR1 nH0 mH0 nH1 mH1
    clear BT BY BR BH HB
    rintro v3 ⟨BT, BY, BR, BH, HB⟩
    have kT := BT.cell
    have kY := BY.cell
    have kR := BR.cell
    have kH := BH.cell
    have zR := BR.frz
    have nT0 : (w.heap.size = v3.heap.size) = False := eq_false (by have := BT.lt; omega)
    have mT0 : w.heap.size < v3.heap.size := by have := BT.lt; omega
    have nT1 : (w.heap.size = v3.heap.size + 1) = False := eq_false (by have := BT.lt; omega)
    have mT1 : w.heap.size < v3.heap.size + 1 := by have := BT.lt; omega
    have nY0 : (w.heap.size + 1 = v3.heap.size) = False := eq_false (by have := BY.lt; omega)
    have mY0 : w.heap.size + 1 < v3.heap.size := by have := BY.lt; omega
    have nY1 : (w.heap.size = v3.heap.size) = False := eq_false (by have := BY.lt; omega)
    have mY1 : w.heap.size < v3.heap.size := by have := BY.lt; omega
    have nR0 : (w.heap.size + 1 + 1 = v3.heap.size) = False := eq_false (by have := BR.lt; omega)
    have mR0 : w.heap.size + 1 + 1 < v3.heap.size := by have := BR.lt; omega
    have nR1 : (w.heap.size + 1 = v3.heap.size) = False := eq_false (by have := BR.lt; omega)
    have mR1 : w.heap.size + 1 < v3.heap.size := by have := BR.lt; omega
    have nH0 : (b2 = v3.heap.size) = False := eq_false (by have := BH.lt; omega)
    have mH0 : b2 < v3.heap.size := by have := BH.lt; omega
    have nH1 : (b2 = v3.heap.size + 1) = False := eq_false (by have := BH.lt; omega)
    have mH1 : b2 < v3.heap.size + 1 := by have := BH.lt; omega
    clear kT kY kR kH zR nT0 mT0 nT1 mT1 nY0 mY0 nY1 mY1 nR0 mR0 nR1 mR1 nH0 mH0 nH1 mH1
    apply Ls.region (w.heap.size + 1 + 1) (.cells #[.int .i64 0, .float .f64 h.x, .float .f64 h.y, .float .f64 h.z] 30) _ 6 (by kernel_rfl) (by kernel_rfl) (by kernel_rfl)
    apply Lw.facts
    · intro w1 hw
      exact (hw.keep BH (by omega)).cell
    intro HF
    iterate 2 (
      apply Lw.one ?_ rfl
      · intro w hw
        have k0 := HF.out _ hw
        go_simp
        exact rfl
      intro K hK
      go_simp
      refine hK.out _ ?_
      clear hK K)
    apply Lw.any rfl
    · intro w hw
      go_simp
      exact Ls.ret (miss_any _)
    intro K hK
    rintro v rfl
    go_simp
    refine hK.out _ ?_
    clear hK K
    iterate 1 (
      apply Lw.one ?_ rfl
      · intro w hw
        go_simp
        exact rfl
      intro K hK
      go_simp
      refine hK.out _ ?_
      clear hK K)
    apply Lw.anyW (V := fun _ w' => w'.heap[w.heap.size + 1 + 1]? = some (.cells #[.int .i64 0, .float .f64 h.x, .float .f64 h.y, .float .f64 h.z] 30)) rfl
    · exact fun _ => Ls.along_new
    · intro w hw _
      rcases hw.old BR with h | h
      all_goals
        have kR := h.cell
        have zR := h.frz
        go_simp
        exact ⟨((((Lp.Bk.set h 0 _).set 1 _).set 2 _).set 3 _), Ls.stored rfl rfl rfl (by simp [World.setCell]) (fun k hk => Ls.same_set hk (Ls.same_set hk (Ls.same_set hk (Ls.same_set hk rfl)))) ((((Lp.Bk.set h 0 _).set 1 _).set 2 _).set 3 _)⟩
    intro K hK v _
    go_simp
    refine hK.out _ _ ?_
    clear hK K
    iterate 1 (
      apply Lw.one ?_ rfl
      · intro w hw
        go_simp
        exact rfl
      intro K hK
      go_simp
      refine hK.out _ ?_
      clear hK K)
    rotate_left
    exact []
    refine Lw.finE ?_
    intro v4 hm hE
    have BR4 : Lp.Bk v4 (w.heap.size + 1 + 1) #[.int .i64 0, .float .f64 h.x, .float .f64 h.y, .float .f64 h.z] 30 := (hE 4).2 rfl
    have kR4 := BR4.cell
    have HB4 := hm.cl HB (by omega)
    clear hm hE
    go_wp2_with fail
    refine bodyPost_ret (v := .tuple #[.agg #[.int .i64 0, .float .f64 h.x, .float .f64 h.y, .float .f64 h.z], .bool true]) (by simp [results, go_sem, kR4]) rfl ⟨_, rfl, rfl, ?_⟩
    repeat (refine Below.setCell ?_ (by dsimp only; omega) _)
    exact HB4

end Go.Proofs.Ytfeomlbfmbpmaaa

namespace Go.Proofs.Ytfeomlbfmbpmaaa
open Go.RowKit Fl

theorem S3.exact {x y z : Nat} {P : V3} (h : S3 x y z P) (hx : isN P.x = false) (hy : isN P.y = false) (hz : isN P.z = false) : x = P.x ∧ y = P.y ∧ z = P.z := ⟨(h.x.symm.eq hx).symm, (h.y.symm.eq hy).symm, (h.z.symm.eq hz).symm⟩
theorem am1 : meetF ⟨0, 0, 0⟩ ⟨4607182418800017408, 0, 0⟩ ⟨0, 4607182418800017408, 0⟩ ⟨4598175219545276416, 4598175219545276416, 4607182418800017408⟩ ⟨0, 0, 13830554455654793216⟩ = some ⟨4607182418800017408, 4598175219545276416, 4598175219545276416⟩ := by kernel_rfl
theorem am2 : meetF ⟨0, 0, 0⟩ ⟨4607182418800017408, 0, 0⟩ ⟨0, 4607182418800017408, 0⟩ ⟨4604930618986332160, 4604930618986332160, 4607182418800017408⟩ ⟨0, 0, 13830554455654793216⟩ = none := by kernel_rfl
def upC : V3 := (V3.sub ⟨4607182418800017408, 0, 0⟩ ⟨0, 0, 0⟩).cross (V3.sub ⟨0, 4607182418800017408, 0⟩ ⟨0, 0, 0⟩)
theorem am3 : upC.unit = ⟨0, 0, 4607182418800017408⟩ := by kernel_rfl
theorem am4 : upC.ok = true := by kernel_rfl
theorem am5 : areaF upC = 4602678819172646912 := by kernel_rfl
theorem num_c1 : isN 4607182418800017408 = false := by decide +kernel
theorem num_c0 : isN 0 = false := by decide +kernel
theorem num_ch : isN 4602678819172646912 = false := by decide +kernel
theorem se1 : (FloatKind.f64.format.order 4607182418800017408 4607182418800017408 == some .eq) = true := by decide +kernel
theorem seq : (FloatKind.f64.format.order 4598175219545276416 4598175219545276416 == some .eq) = true := by decide +kernel
theorem seh : (FloatKind.f64.format.order 4602678819172646912 4602678819172646912 == some .eq) = true := by decide +kernel
theorem aw_meet1 (w : World) : Ret Try.prog 5 #[.agg #[.float .f64 0, .float .f64 0, .float .f64 0, .float .f64 4607182418800017408, .float .f64 0, .float .f64 0, .float .f64 0, .float .f64 4607182418800017408, .float .f64 0], .agg #[.float .f64 4598175219545276416, .float .f64 4598175219545276416, .float .f64 4607182418800017408, .float .f64 0, .float .f64 0, .float .f64 13830554455654793216]] w (fun v => v = .tuple #[.agg #[.int .i64 0, .float .f64 4607182418800017408, .float .f64 4598175219545276416, .float .f64 4598175219545276416], .bool true]) :=
  (meet_any ⟨0, 0, 0⟩ ⟨4607182418800017408, 0, 0⟩ ⟨0, 4607182418800017408, 0⟩ ⟨4598175219545276416, 4598175219545276416, 4607182418800017408⟩ ⟨0, 0, 13830554455654793216⟩ w).mono fun v h => by rw [h, am1]; rfl

theorem aw_meet2 (w : World) : Ret Try.prog 5 #[.agg #[.float .f64 0, .float .f64 0, .float .f64 0, .float .f64 4607182418800017408, .float .f64 0, .float .f64 0, .float .f64 0, .float .f64 4607182418800017408, .float .f64 0], .agg #[.float .f64 4604930618986332160, .float .f64 4604930618986332160, .float .f64 4607182418800017408, .float .f64 0, .float .f64 0, .float .f64 13830554455654793216]] w (fun v => v = .tuple #[.agg #[.int .i64 (-1), .float .f64 0, .float .f64 0, .float .f64 0], .bool false]) :=
  (meet_any ⟨0, 0, 0⟩ ⟨4607182418800017408, 0, 0⟩ ⟨0, 4607182418800017408, 0⟩ ⟨4604930618986332160, 4604930618986332160, 4607182418800017408⟩ ⟨0, 0, 13830554455654793216⟩ w).mono fun v h => by rw [h, am2]; rfl

theorem aw_norm (w : World) : Ret Try.prog 10 #[.agg #[.float .f64 0, .float .f64 0, .float .f64 0, .float .f64 4607182418800017408, .float .f64 0, .float .f64 0, .float .f64 0, .float .f64 4607182418800017408, .float .f64 0]] w (fun v => v = .tuple #[.agg #[.float .f64 0, .float .f64 0, .float .f64 4607182418800017408], .bool true]) :=
  (normal_any (S3.refl 0 0 0) (S3.refl 4607182418800017408 0 0) (S3.refl 0 4607182418800017408 0) w).mono fun v ⟨x, y, z, e, hs, _⟩ => by
    have hs' : S3 x y z ⟨0, 0, 4607182418800017408⟩ := by rw [← am3]; exact hs
    obtain ⟨e1, e2, e3⟩ := hs'.exact num_c0 num_c0 num_c1
    have ek : ((V3.sub ⟨4607182418800017408, 0, 0⟩ ⟨0, 0, 0⟩).cross (V3.sub ⟨0, 4607182418800017408, 0⟩ ⟨0, 0, 0⟩)).ok = true := am4
    rw [e, ek, e1, e2, e3]

theorem aw_area (w : World) : Ret Try.prog 22 #[.agg #[.float .f64 0, .float .f64 0, .float .f64 0, .float .f64 4607182418800017408, .float .f64 0, .float .f64 0, .float .f64 0, .float .f64 4607182418800017408, .float .f64 0]] w (fun v => v = .float .f64 4602678819172646912) :=
  (area_any (S3.refl 0 0 0) (S3.refl 4607182418800017408 0 0) (S3.refl 0 4607182418800017408 0) w).mono fun v ⟨r, e, hr⟩ => by
    have hr' : Eqv r 4602678819172646912 := by rw [← am5]; exact hr
    rw [e, (hr'.sm.symm.eq num_ch).symm]

set_option maxRecDepth 100000 in
set_option maxHeartbeats 1000000 in
theorem awake_any  (w : World) : Ret Try.prog 7 #[] w (fun v => v = .bool true) := by
  unfold Ret
  have HB : Cl w w := Below.refl _ _
  have q1 := se1
  have q2 := seq
  have q3 := seh
  have q0 := zero_self
  go_enter Try.func7, Try.ntmps7
  go_wp2_with fail
  refine Lp.settleC (fun w' => Lp.Bk w' (w.heap.size) #[.float .f64 0, .float .f64 0, .float .f64 0, .float .f64 4607182418800017408, .float .f64 0, .float .f64 0, .float .f64 0, .float .f64 4607182418800017408, .float .f64 0] 26 ∧ Cl w w') ⟨Lp.Bk.al _ _ _, (HB).alloc _⟩ ?_
  clear HB
  rintro v1 ⟨BT, HB⟩
  have kT := BT.cell
  have nT0 : (w.heap.size = v1.heap.size) = False := eq_false (by have := BT.lt; omega)
  have mT0 : w.heap.size < v1.heap.size := by have := BT.lt; omega
  have nT1 : (w.heap.size = v1.heap.size + 1) = False := eq_false (by have := BT.lt; omega)
  have mT1 : w.heap.size < v1.heap.size + 1 := by have := BT.lt; omega
  refine Calls.mono (aw_meet1 _) ?_
  rintro e v2 ⟨v, rfl, rfl, hm⟩
  clear kT nT0 mT0 nT1 mT1
  replace BT := BT.keep hm
  replace HB := HB.call hm
  clear hm
  have kT := BT.cell
  have nT0 : (w.heap.size = v2.heap.size) = False := eq_false (by have := BT.lt; omega)
  have mT0 : w.heap.size < v2.heap.size := by have := BT.lt; omega
  have nT1 : (w.heap.size = v2.heap.size + 1) = False := eq_false (by have := BT.lt; omega)
  have mT1 : w.heap.size < v2.heap.size + 1 := by have := BT.lt; omega
  go_wp2_with fail
  refine Lp.settleC (fun w' => Lp.Bk w' (w.heap.size) #[.float .f64 0, .float .f64 0, .float .f64 0, .float .f64 4607182418800017408, .float .f64 0, .float .f64 0, .float .f64 0, .float .f64 4607182418800017408, .float .f64 0] 26 ∧ Lp.Bk w' (v2.heap.size) #[.int .i64 0, .float .f64 4607182418800017408, .float .f64 4598175219545276416, .float .f64 4598175219545276416] 30 ∧ Cl w w') ⟨(BT).alo _, Lp.Bk.al _ _ _, (HB).alloc _⟩ ?_
  clear kT nT0 mT0 nT1 mT1
  clear BT HB
  rintro v3 ⟨BT, BH, HB⟩
  have kT := BT.cell
  have kH := BH.cell
  have nT0 : (w.heap.size = v3.heap.size) = False := eq_false (by have := BT.lt; omega)
  have mT0 : w.heap.size < v3.heap.size := by have := BT.lt; omega
  have nT1 : (w.heap.size = v3.heap.size + 1) = False := eq_false (by have := BT.lt; omega)
  have mT1 : w.heap.size < v3.heap.size + 1 := by have := BT.lt; omega
  have nH0 : (v2.heap.size = v3.heap.size) = False := eq_false (by have := BH.lt; omega)
  have mH0 : v2.heap.size < v3.heap.size := by have := BH.lt; omega
  have nH1 : (v2.heap.size = v3.heap.size + 1) = False := eq_false (by have := BH.lt; omega)
  have mH1 : v2.heap.size < v3.heap.size + 1 := by have := BH.lt; omega
  refine Calls.mono (aw_meet2 _) ?_
  rintro e v4 ⟨v, rfl, rfl, hm⟩
  clear kT kH nT0 mT0 nT1 mT1 nH0 mH0 nH1 mH1
  replace BT := BT.keep hm
  replace BH := BH.keep hm
  replace HB := HB.call hm
  clear hm
  have kT := BT.cell
  have kH := BH.cell
  have nT0 : (w.heap.size = v4.heap.size) = False := eq_false (by have := BT.lt; omega)
  have mT0 : w.heap.size < v4.heap.size := by have := BT.lt; omega
  have nT1 : (w.heap.size = v4.heap.size + 1) = False := eq_false (by have := BT.lt; omega)
  have mT1 : w.heap.size < v4.heap.size + 1 := by have := BT.lt; omega
  have nH0 : (v2.heap.size = v4.heap.size) = False := eq_false (by have := BH.lt; omega)
  have mH0 : v2.heap.size < v4.heap.size := by have := BH.lt; omega
  have nH1 : (v2.heap.size = v4.heap.size + 1) = False := eq_false (by have := BH.lt; omega)
  have mH1 : v2.heap.size < v4.heap.size + 1 := by have := BH.lt; omega
  go_wp2_with fail
  refine Lp.settleC (fun w' => Lp.Bk w' (w.heap.size) #[.float .f64 0, .float .f64 0, .float .f64 0, .float .f64 4607182418800017408, .float .f64 0, .float .f64 0, .float .f64 0, .float .f64 4607182418800017408, .float .f64 0] 26 ∧ Lp.Bk w' (v2.heap.size) #[.int .i64 0, .float .f64 4607182418800017408, .float .f64 4598175219545276416, .float .f64 4598175219545276416] 30 ∧ Lp.Bk w' (v4.heap.size) #[.int .i64 (-1), .float .f64 0, .float .f64 0, .float .f64 0] 30 ∧ Cl w w') ⟨(BT).alo _, (BH).alo _, Lp.Bk.al _ _ _, (HB).alloc _⟩ ?_
  clear kT kH nT0 mT0 nT1 mT1 nH0 mH0 nH1 mH1
  clear BT BH HB
  rintro v5 ⟨BT, BH, BM, HB⟩
  have kT := BT.cell
  have kH := BH.cell
  have kM := BM.cell
  have nT0 : (w.heap.size = v5.heap.size) = False := eq_false (by have := BT.lt; omega)
  have mT0 : w.heap.size < v5.heap.size := by have := BT.lt; omega
  have nT1 : (w.heap.size = v5.heap.size + 1) = False := eq_false (by have := BT.lt; omega)
  have mT1 : w.heap.size < v5.heap.size + 1 := by have := BT.lt; omega
  have nH0 : (v2.heap.size = v5.heap.size) = False := eq_false (by have := BH.lt; omega)
  have mH0 : v2.heap.size < v5.heap.size := by have := BH.lt; omega
  have nH1 : (v2.heap.size = v5.heap.size + 1) = False := eq_false (by have := BH.lt; omega)
  have mH1 : v2.heap.size < v5.heap.size + 1 := by have := BH.lt; omega
  have nM0 : (v4.heap.size = v5.heap.size) = False := eq_false (by have := BM.lt; omega)
  have mM0 : v4.heap.size < v5.heap.size := by have := BM.lt; omega
  have nM1 : (v4.heap.size = v5.heap.size + 1) = False := eq_false (by have := BM.lt; omega)
  have mM1 : v4.heap.size < v5.heap.size + 1 := by have := BM.lt; omega
  refine Calls.mono (aw_norm _) ?_
  rintro e v6 ⟨v, rfl, rfl, hm⟩
  clear kT kH kM nT0 mT0 nT1 mT1 nH0 mH0 nH1 mH1 nM0 mM0 nM1 mM1
  replace BT := BT.keep hm
  replace BH := BH.keep hm
  replace BM := BM.keep hm
  replace HB := HB.call hm
  clear hm
  have kT := BT.cell
  have kH := BH.cell
  have kM := BM.cell
  have nT0 : (w.heap.size = v6.heap.size) = False := eq_false (by have := BT.lt; omega)
  have mT0 : w.heap.size < v6.heap.size := by have := BT.lt; omega
  have nT1 : (w.heap.size = v6.heap.size + 1) = False := eq_false (by have := BT.lt; omega)
  have mT1 : w.heap.size < v6.heap.size + 1 := by have := BT.lt; omega
  have nH0 : (v2.heap.size = v6.heap.size) = False := eq_false (by have := BH.lt; omega)
  have mH0 : v2.heap.size < v6.heap.size := by have := BH.lt; omega
  have nH1 : (v2.heap.size = v6.heap.size + 1) = False := eq_false (by have := BH.lt; omega)
  have mH1 : v2.heap.size < v6.heap.size + 1 := by have := BH.lt; omega
  have nM0 : (v4.heap.size = v6.heap.size) = False := eq_false (by have := BM.lt; omega)
  have mM0 : v4.heap.size < v6.heap.size := by have := BM.lt; omega
  have nM1 : (v4.heap.size = v6.heap.size + 1) = False := eq_false (by have := BM.lt; omega)
  have mM1 : v4.heap.size < v6.heap.size + 1 := by have := BM.lt; omega
  go_wp2_with fail
  refine Lp.settleC (fun w' => Lp.Bk w' (w.heap.size) #[.float .f64 0, .float .f64 0, .float .f64 0, .float .f64 4607182418800017408, .float .f64 0, .float .f64 0, .float .f64 0, .float .f64 4607182418800017408, .float .f64 0] 26 ∧ Lp.Bk w' (v2.heap.size) #[.int .i64 0, .float .f64 4607182418800017408, .float .f64 4598175219545276416, .float .f64 4598175219545276416] 30 ∧ Lp.Bk w' (v4.heap.size) #[.int .i64 (-1), .float .f64 0, .float .f64 0, .float .f64 0] 30 ∧ Lp.Bk w' (v6.heap.size) #[.float .f64 0, .float .f64 0, .float .f64 4607182418800017408] 24 ∧ Cl w w') ⟨(BT).alo _, (BH).alo _, (BM).alo _, Lp.Bk.al _ _ _, (HB).alloc _⟩ ?_
  clear kT kH kM nT0 mT0 nT1 mT1 nH0 mH0 nH1 mH1 nM0 mM0 nM1 mM1
  clear BT BH BM HB
  rintro v7 ⟨BT, BH, BM, BN, HB⟩
  have kT := BT.cell
  have kH := BH.cell
  have kM := BM.cell
  have kN := BN.cell
  have nT0 : (w.heap.size = v7.heap.size) = False := eq_false (by have := BT.lt; omega)
  have mT0 : w.heap.size < v7.heap.size := by have := BT.lt; omega
  have nT1 : (w.heap.size = v7.heap.size + 1) = False := eq_false (by have := BT.lt; omega)
  have mT1 : w.heap.size < v7.heap.size + 1 := by have := BT.lt; omega
  have nH0 : (v2.heap.size = v7.heap.size) = False := eq_false (by have := BH.lt; omega)
  have mH0 : v2.heap.size < v7.heap.size := by have := BH.lt; omega
  have nH1 : (v2.heap.size = v7.heap.size + 1) = False := eq_false (by have := BH.lt; omega)
  have mH1 : v2.heap.size < v7.heap.size + 1 := by have := BH.lt; omega
  have nM0 : (v4.heap.size = v7.heap.size) = False := eq_false (by have := BM.lt; omega)
  have mM0 : v4.heap.size < v7.heap.size := by have := BM.lt; omega
  have nM1 : (v4.heap.size = v7.heap.size + 1) = False := eq_false (by have := BM.lt; omega)
  have mM1 : v4.heap.size < v7.heap.size + 1 := by have := BM.lt; omega
  have nN0 : (v6.heap.size = v7.heap.size) = False := eq_false (by have := BN.lt; omega)
  have mN0 : v6.heap.size < v7.heap.size := by have := BN.lt; omega
  have nN1 : (v6.heap.size = v7.heap.size + 1) = False := eq_false (by have := BN.lt; omega)
  have mN1 : v6.heap.size < v7.heap.size + 1 := by have := BN.lt; omega
  refine Calls.mono (aw_area _) ?_
  rintro e v8 ⟨v, rfl, rfl, hm⟩
  clear kT kH kM kN nT0 mT0 nT1 mT1 nH0 mH0 nH1 mH1 nM0 mM0 nM1 mM1 nN0 mN0 nN1 mN1
  replace BT := BT.keep hm
  replace BH := BH.keep hm
  replace BM := BM.keep hm
  replace BN := BN.keep hm
  replace HB := HB.call hm
  clear hm
  have kT := BT.cell
  have kH := BH.cell
  have kM := BM.cell
  have kN := BN.cell
  have nT0 : (w.heap.size = v8.heap.size) = False := eq_false (by have := BT.lt; omega)
  have mT0 : w.heap.size < v8.heap.size := by have := BT.lt; omega
  have nT1 : (w.heap.size = v8.heap.size + 1) = False := eq_false (by have := BT.lt; omega)
  have mT1 : w.heap.size < v8.heap.size + 1 := by have := BT.lt; omega
  have nH0 : (v2.heap.size = v8.heap.size) = False := eq_false (by have := BH.lt; omega)
  have mH0 : v2.heap.size < v8.heap.size := by have := BH.lt; omega
  have nH1 : (v2.heap.size = v8.heap.size + 1) = False := eq_false (by have := BH.lt; omega)
  have mH1 : v2.heap.size < v8.heap.size + 1 := by have := BH.lt; omega
  have nM0 : (v4.heap.size = v8.heap.size) = False := eq_false (by have := BM.lt; omega)
  have mM0 : v4.heap.size < v8.heap.size := by have := BM.lt; omega
  have nM1 : (v4.heap.size = v8.heap.size + 1) = False := eq_false (by have := BM.lt; omega)
  have mM1 : v4.heap.size < v8.heap.size + 1 := by have := BM.lt; omega
  have nN0 : (v6.heap.size = v8.heap.size) = False := eq_false (by have := BN.lt; omega)
  have mN0 : v6.heap.size < v8.heap.size := by have := BN.lt; omega
  have nN1 : (v6.heap.size = v8.heap.size + 1) = False := eq_false (by have := BN.lt; omega)
  have mN1 : v6.heap.size < v8.heap.size + 1 := by have := BN.lt; omega
  go_wp2_with fail
  go_ret
  exact ⟨_, rfl, rfl, HB⟩

end Go.Proofs.Ytfeomlbfmbpmaaa

namespace Go.Proofs.Ytfeomlbfmbpmaaa.Fl

theorem read_low {x : Nat} {s : Bool} {m : Nat} {e : Int} (h : F64.read x = .number s m e) : -1074 ≤ e := by
  unfold Ieee.Format.read at h
  simp only [sw, bn, ir, lp] at h
  generalize x % 9223372036854775808 = r at *
  split at h
  · injection h with _ _ h2; omega
  · split at h
    · injection h with _ _ h2; omega
    · split at h <;> cases h

theorem cut_none (neg : Bool) (n : Nat) : Ieee.Toward.even.cut neg n 0 = n := by
  unfold Ieee.Toward.cut
  simp [Nat.mod_one]

/-- What a word stands for is written as it is. -/
theorem nearest_exact {x : Nat} {s : Bool} {m : Nat} {e : Int} (h : F64.read x = .number s m e) : Num (F64.nearest s m e) ∧ val (F64.nearest s m e) = val x := by
  have hv : val x = sg s ((m : Rat) * 2 ^ e) := by unfold val; rw [h, dval_number]
  by_cases hm : m = 0
  · subst hm
    obtain ⟨a, v⟩ := nearest_zero s e
    refine ⟨a, ?_⟩
    rw [v, hv]
    have : ((0 : Nat) : Rat) * 2 ^ e = 0 := Rat.zero_mul _
    rw [this]
    cases s <;> simp [sg]
  · obtain ⟨b1, b2⟩ := number_bounds h
    have b3 := read_low h
    have l1 : m < 2 ^ 53 := by omega
    have l2 : m.log2 < 53 := (Nat.log2_lt hm).2 l1
    have hl : lastP m e ≤ e := by unfold lastP; omega
    have hd : (lastP m e - e).toNat = 0 := by omega
    have hk : kept s m e = m * 2 ^ (e - lastP m e).toNat := by
      unfold kept
      rw [hd, cut_none, Nat.shiftLeft_eq]
    have l3 : m < 2 ^ (m.log2 + 1) := Nat.lt_log2_self
    have hk2 : kept s m e < 9007199254740992 := by
      rw [hk]
      have e1 : m * 2 ^ (e - lastP m e).toNat < 2 ^ (m.log2 + 1) * 2 ^ (e - lastP m e).toNat := Nat.mul_lt_mul_of_pos_right l3 (Nat.two_pow_pos _)
      have e2 : 2 ^ (m.log2 + 1) * 2 ^ (e - lastP m e).toNat ≤ 2 ^ 53 := by
        rw [← Nat.pow_add]
        exact Nat.pow_le_pow_right (by decide) (by unfold lastP; omega)
      omega
    have hr : (lastP m e + 1074).toNat ≤ 2045 := by omega
    rcases nearest_is s (place := e) hm with ⟨_, a, v⟩ | ⟨o, _⟩
    · refine ⟨a, ?_⟩
      rw [v, hv, hk]
      congr 1
      rw [Rat.natCast_mul, ← p2_nat, Rat.mul_assoc, ← p2_add]
      congr 2
      omega
    · exfalso
      unfold rungOf at o
      omega

theorem log2_gap {q d a : Nat} (hq : q ≠ 0) (h1 : a < 2 ^ d) : (q * 2 ^ d + a).log2 = q.log2 + d := by
  have hp := Nat.two_pow_pos d
  have hne : q * 2 ^ d + a ≠ 0 := by
    have := Nat.mul_pos (Nat.pos_of_ne_zero hq) hp
    omega
  rw [Nat.log2_eq_iff hne]
  have l1 : 2 ^ q.log2 ≤ q := Nat.log2_self_le hq
  have l2 : q < 2 ^ (q.log2 + 1) := Nat.lt_log2_self
  constructor
  · rw [Nat.pow_add]
    exact Nat.le_trans (Nat.mul_le_mul_right _ l1) (Nat.le_add_right _ _)
  · rw [show q.log2 + d + 1 = (q.log2 + 1) + d by omega, Nat.pow_add]
    have : (q + 1) * 2 ^ d ≤ 2 ^ (q.log2 + 1) * 2 ^ d := Nat.mul_le_mul_right _ l2
    rw [Nat.add_mul, Nat.one_mul] at this
    omega

theorem cut_gap (neg : Bool) {q d a g : Nat} (hq : q ≠ 0) (h0 : 0 < a) (h1 : a < 2 ^ d) (hd : 0 < d) (hg : 2 ≤ g) :
    Ieee.Toward.even.cut neg (q * 2 ^ d + a) (g + d - 1) = Ieee.Toward.even.cut neg (2 * q + 1) g := by
  have e1 : (2 * q + 1).log2 = q.log2 + 1 := by
    have := log2_gap (d := 1) (a := 1) hq (by decide)
    rwa [show q * 2 ^ 1 + 1 = 2 * q + 1 by omega] at this
  unfold Ieee.Toward.cut
  simp only [Nat.one_shiftLeft]
  rw [log2_gap hq h1, e1]
  have e2 : min (g + d - 1) (q.log2 + d + 2) = min g (q.log2 + 1 + 2) - 2 + 1 + d := by omega
  have e3 : min g (q.log2 + 1 + 2) = min g (q.log2 + 1 + 2) - 2 + 2 := by omega
  rw [e2]
  rw [e3]
  generalize min g (q.log2 + 1 + 2) - 2 = c
  have f1 : 2 ^ (c + 1 + d) = 2 * 2 ^ c * 2 ^ d := by rw [Nat.pow_add, Nat.pow_succ, Nat.mul_comm (2 ^ c) 2]
  have f2 : 2 ^ (c + 2) = 4 * 2 ^ c := by rw [Nat.pow_add]; omega
  rw [show c + 2 - 2 + 1 + d = c + 1 + d by omega, f1, f2]
  have hH := Nat.two_pow_pos c
  generalize 2 ^ c = H at *
  generalize 2 ^ d = D at *
  have hD : 0 < D := by omega
  have hqe := Nat.div_add_mod q (2 * H)
  have ht := Nat.mod_lt q (show 0 < 2 * H by omega)
  generalize q / (2 * H) = l at *
  generalize q % (2 * H) = t at *
  -- the one
  have n1 : q * D + a = 2 * H * D * l + (t * D + a) := by
    rw [← hqe, Nat.add_mul]
    have : 2 * H * l * D = 2 * H * D * l := by rw [Nat.mul_assoc, Nat.mul_comm l D, ← Nat.mul_assoc]
    omega
  have r1 : t * D + a < 2 * H * D := by
    have : (t + 1) * D ≤ 2 * H * D := Nat.mul_le_mul_right _ ht
    rw [Nat.add_mul, Nat.one_mul] at this
    omega
  have d1 : (q * D + a) / (2 * H * D) = l := by
    rw [n1, Nat.mul_add_div (by omega), Nat.div_eq_of_lt r1, Nat.add_zero]
  have m1 : (q * D + a) % (2 * H * D) = t * D + a := by
    rw [n1, Nat.mul_add_mod, Nat.mod_eq_of_lt r1]
  -- the other
  have n2 : 2 * q + 1 = 4 * H * l + (2 * t + 1) := by
    rw [← hqe]
    have : 4 * H * l = 2 * (2 * H * l) := by rw [← Nat.mul_assoc, ← Nat.mul_assoc]
    omega
  have d2 : (2 * q + 1) / (4 * H) = l := by
    rw [n2, Nat.mul_add_div (by omega), Nat.div_eq_of_lt (by omega), Nat.add_zero]
  have m2 : (2 * q + 1) % (4 * H) = 2 * t + 1 := by
    rw [n2, Nat.mul_add_mod, Nat.mod_eq_of_lt (by omega)]
  rw [d1, m1, d2, m2]
  have c2 : (4 * H == 2 * (2 * t + 1)) = false := by simp; omega
  have key : (2 * H * D < 2 * (t * D + a)) ↔ H ≤ t := by
    constructor
    · intro h
      rcases Nat.lt_or_ge t H with k | k
      · have : (t + 1) * D ≤ H * D := Nat.mul_le_mul_right _ k
        rw [Nat.add_mul, Nat.one_mul] at this
        have e : 2 * H * D = 2 * (H * D) := Nat.mul_assoc _ _ _
        omega
      · exact k
    · intro h
      have : H * D ≤ t * D := Nat.mul_le_mul_right _ h
      have e : 2 * H * D = 2 * (H * D) := Nat.mul_assoc _ _ _
      omega
  have key2 : (2 * H * D == 2 * (t * D + a)) = false := by
    simp only [beq_eq_false_iff_ne, ne_eq]
    intro h
    have e : 2 * H * D = 2 * (H * D) := Nat.mul_assoc _ _ _
    rcases Nat.lt_or_ge t H with k | k
    · have : (t + 1) * D ≤ H * D := Nat.mul_le_mul_right _ k
      rw [Nat.add_mul, Nat.one_mul] at this
      omega
    · have : H * D ≤ t * D := Nat.mul_le_mul_right _ k
      omega
  have c1 : decide (2 * H * D < 2 * (t * D + a)) = decide (4 * H < 2 * (2 * t + 1)) := decide_eq_decide.2 (key.trans (by omega))
  simp only [key2, c2, c1]

/-- Between two halves of a unit all is written as one. -/
theorem nearest_gap (neg : Bool) {q d a : Nat} {p : Int} (hq : 9007199254740992 ≤ q) (h0 : 0 < a) (h1 : a < 2 ^ d) (hd : 0 < d) :
    F64.nearest neg (q * 2 ^ d + a) p = F64.nearest neg (2 * q + 1) (p + d - 1) := by
  have hq0 : q ≠ 0 := by omega
  have hl : 53 ≤ q.log2 := (Nat.le_log2 hq0).2 hq
  have e1 : (2 * q + 1).log2 = q.log2 + 1 := by
    have := log2_gap (d := 1) (a := 1) hq0 (by decide)
    rwa [show q * 2 ^ 1 + 1 = 2 * q + 1 by omega] at this
  have e0 := log2_gap (d := d) (a := a) hq0 h1
  have hne : q * 2 ^ d + a ≠ 0 := by omega
  rw [nearest_eq neg _ p hne, nearest_eq neg (2 * q + 1) _ (by omega)]
  have hlast : lastP (2 * q + 1) (p + d - 1) = lastP (q * 2 ^ d + a) p := by
    unfold lastP; rw [e1, e0]; omega
  have hk : kept neg (q * 2 ^ d + a) p = kept neg (2 * q + 1) (p + d - 1) := by
    unfold kept
    rw [hlast]
    have z1 : (p - lastP (q * 2 ^ d + a) p).toNat = 0 := by unfold lastP; rw [e0]; omega
    have z2 : (p + d - 1 - lastP (q * 2 ^ d + a) p).toNat = 0 := by unfold lastP; rw [e0]; omega
    rw [z1, z2, Nat.shiftLeft_zero, Nat.shiftLeft_zero]
    have hg : 2 ≤ (lastP (q * 2 ^ d + a) p - (p + d - 1)).toNat := by unfold lastP; rw [e0]; omega
    have hgd : (lastP (q * 2 ^ d + a) p - p).toNat = (lastP (q * 2 ^ d + a) p - (p + d - 1)).toNat + d - 1 := by omega
    rw [hgd]
    exact cut_gap neg hq0 h0 h1 hd hg
  rw [hlast, hk]

/-- A quotient's digits. -/
theorem div_form {x y : Nat} {s : Bool} {m n : Nat} {i j : Int} (hx : F64.read x = .number s m i) (hy : F64.read y = .number false n j) (hn : n ≠ 0) :
    fdiv x y = F64.nearest s (2 * (m * 2 ^ (54 + n.log2 - m.log2) / n) + (m * 2 ^ (54 + n.log2 - m.log2) % n != 0).toNat) (i - j - ((54 + n.log2 - m.log2 : Nat) : Int) - 1) := by
  unfold fdiv Ieee.Format.div
  have hf : F64.fractionBits + 2 = 54 := by decide +kernel
  rw [hx, hy, hf]
  simp only [Ieee.Datum.quotient, hn, if_false, Option.map_some, Option.getD_some, Nat.shiftLeft_eq, Bool.xor_false]
  rfl

theorem ne_toNat (r : Nat) : (r != 0).toNat = 0 ∧ r = 0 ∨ (r != 0).toNat = 1 ∧ 0 < r := by
  rcases Nat.eq_zero_or_pos r with h0 | h0
  · left; subst h0; exact ⟨rfl, rfl⟩
  · right
    have : (r != 0) = true := by simp; omega
    rw [this]; exact ⟨rfl, h0⟩

/-- Quotients by one divisor, as whole numbers. -/
theorem quot_mono {D1 D2 n dl : Nat} (hn : 0 < n) (h : D1 ≤ D2 * 2 ^ dl) :
    2 * (D1 / n) + (D1 % n != 0).toNat ≤ (2 * (D2 / n) + (D2 % n != 0).toNat) * 2 ^ dl ∨
    ∃ a, 0 < a ∧ a < 2 ^ (dl + 1) ∧ 2 * (D1 / n) + (D1 % n != 0).toNat = D2 / n * 2 ^ (dl + 1) + a ∧ 2 * (D2 / n) + (D2 % n != 0).toNat = 2 * (D2 / n) + 1 := by
  have e1 := Nat.div_add_mod D1 n
  have e2 := Nat.div_add_mod D2 n
  have r1 := Nat.mod_lt D1 hn
  have r2 := Nat.mod_lt D2 hn
  rcases Nat.lt_or_ge ((2 * (D2 / n) + (D2 % n != 0).toNat) * 2 ^ dl) (2 * (D1 / n) + (D1 % n != 0).toNat) with k | k
  · right
    have hp := Nat.two_pow_pos dl
    rw [Nat.pow_succ]
    generalize 2 ^ dl = P at *
    generalize D1 / n = q1 at *
    generalize D2 / n = q2 at *
    generalize D1 % n = a1 at *
    generalize D2 % n = a2 at *
    have hlt : n * q1 < n * ((q2 + 1) * P) := by
      have : D2 * P < n * (q2 + 1) * P := by
        refine Nat.mul_lt_mul_of_pos_right ?_ hp
        rw [Nat.mul_add]
        omega
      rw [← Nat.mul_assoc]
      omega
    have hlt2 : q1 < (q2 + 1) * P := Nat.lt_of_mul_lt_mul_left hlt
    rw [Nat.add_mul, Nat.one_mul] at hlt2
    have z : 2 * (q2 * P) = q2 * (P * 2) := by rw [← Nat.mul_assoc, Nat.mul_comm 2, Nat.mul_assoc, Nat.mul_comm 2]
    rcases ne_toNat a2 with ⟨b2, c2⟩ | ⟨b2, c2⟩
    · exfalso
      rw [b2, Nat.add_zero, Nat.mul_assoc] at k
      subst c2
      have hle : n * q1 + a1 ≤ n * (q2 * P) := by
        rw [← Nat.mul_assoc]
        rw [Nat.add_zero] at e2
        rw [e2, e1]
        exact h
      have hle2 : q1 ≤ q2 * P := Nat.le_of_mul_le_mul_left (Nat.le_trans (Nat.le_add_right _ _) hle) hn
      rcases ne_toNat a1 with ⟨b1, c1⟩ | ⟨b1, c1⟩
      · omega
      · have : q1 = q2 * P := by omega
        rw [this] at hle
        omega
    · rw [b2, Nat.add_mul, Nat.one_mul, Nat.mul_assoc] at k
      refine ⟨2 * q1 + (a1 != 0).toNat - q2 * (P * 2), ?_, ?_, ?_, by rw [b2]⟩
      · omega
      · rcases ne_toNat a1 with ⟨b1, c1⟩ | ⟨b1, c1⟩ <;> omega
      · omega
  · left
    exact k

theorem quot_big {m n : Nat} (hm : m ≠ 0) (hn : n ≠ 0) : 9007199254740992 ≤ m * 2 ^ (54 + n.log2 - m.log2) / n := by
  rw [Nat.le_div_iff_mul_le (Nat.pos_of_ne_zero hn)]
  have l1 : 2 ^ m.log2 ≤ m := Nat.log2_self_le hm
  have l2 : n < 2 ^ (n.log2 + 1) := Nat.lt_log2_self
  have l3 : 2 ^ (54 + n.log2) ≤ m * 2 ^ (54 + n.log2 - m.log2) := by
    refine Nat.le_trans ?_ (Nat.mul_le_mul_right _ l1)
    rw [← Nat.pow_add]
    exact Nat.pow_le_pow_right (by decide) (by omega)
  have l4 : 2 ^ (54 + n.log2) = 9007199254740992 * 2 ^ (n.log2 + 1) := by
    rw [show 54 + n.log2 = 53 + (n.log2 + 1) by omega, Nat.pow_add]
  omega

theorem log2_52 {x : Nat} {s : Bool} {m : Nat} {e : Int} (h : F64.read x = .number s m e) : m.log2 ≤ 52 := by
  by_cases hm : m = 0
  · subst hm; decide
  · have b := (number_bounds h).1
    have : m.log2 < 53 := (Nat.log2_lt hm).2 (by omega)
    omega

/-- QUOTIENTS BY ONE DIVISOR ABOVE 0 KEEP ORDER (of numbers not below 0). -/
theorem div_mono {x1 x2 y : Nat} (h1 : Num x1) (h2 : Num x2) (hy : Num y) (y0 : 0 < val y) (x0 : 0 ≤ val x1) (h : val x1 ≤ val x2) : leB (fdiv x1 y) (fdiv x2 y) = true := by
  obtain ⟨s1, m1, i1, h1⟩ := h1
  obtain ⟨s2, m2, i2, h2⟩ := h2
  obtain ⟨t, n, j, hy⟩ := hy
  have v1 : val x1 = sg s1 ((m1 : Rat) * 2 ^ i1) := by unfold val; rw [h1, dval_number]
  have v2 : val x2 = sg s2 ((m2 : Rat) * 2 ^ i2) := by unfold val; rw [h2, dval_number]
  have vy : val y = sg t ((n : Rat) * 2 ^ j) := by unfold val; rw [hy, dval_number]
  have ny := mag_nonneg n j
  have p1 := mag_nonneg m1 i1
  have p2 := mag_nonneg m2 i2
  have ht : t = false := by
    cases t
    · rfl
    · exfalso
      simp only [sg, if_true] at vy
      grind
  subst ht
  have hn : n ≠ 0 := by
    intro h0
    subst h0
    have : ((0 : Nat) : Rat) * 2 ^ j = 0 := Rat.zero_mul _
    simp only [sg, Bool.false_eq_true, if_false, this] at vy
    grind
  have pos_of : ∀ (m : Nat) (p : Int), m ≠ 0 → (0 : Rat) < (m : Rat) * 2 ^ p := by
    intro m p hm
    have : (0 : Rat) < m := by exact_mod_cast Nat.pos_of_ne_zero hm
    exact Rat.mul_pos this (p2_pos p)
  rw [div_form h1 hy hn, div_form h2 hy hn]
  have q0 : ∀ k : Nat, 0 * 2 ^ k / n = 0 := fun k => by rw [Nat.zero_mul, Nat.zero_div]
  have q1 : ∀ k : Nat, 0 * 2 ^ k % n = 0 := fun k => by rw [Nat.zero_mul, Nat.zero_mod]
  have z0 : ((0 != 0 : Bool)).toNat = 0 := rfl
  have zz : ∀ (s : Bool) (p : Int), dval (.number s 0 p) = 0 := by
    intro s p
    rw [dval_number]
    have : ((0 : Nat) : Rat) * 2 ^ p = 0 := Rat.zero_mul _
    rw [this]
    cases s <;> simp [sg]
  by_cases z2 : m2 = 0
  · subst z2
    have e2 : ((0 : Nat) : Rat) * 2 ^ i2 = 0 := Rat.zero_mul _
    have z1 : m1 = 0 := by
      refine Classical.byContradiction fun hm => ?_
      have := pos_of m1 i1 hm
      rw [v1] at h x0
      rw [v2, e2] at h
      cases s1 <;> cases s2 <;> simp only [sg, if_true, Bool.false_eq_true, if_false] at h x0 <;> grind
    subst z1
    rw [q0, q1]
    exact nearest_mono (by rw [z0, Nat.mul_zero, Nat.zero_add, zz, zz]; exact Rat.le_refl)
  · have s2f : s2 = false := by
      cases s2
      · rfl
      · exfalso
        have := pos_of m2 i2 z2
        rw [v2] at h
        simp only [sg, if_true] at h
        grind
    subst s2f
    by_cases z1 : m1 = 0
    · subst z1
      rw [q0, q1]
      refine nearest_mono ?_
      rw [z0, Nat.mul_zero, Nat.zero_add, zz, dval_number]
      simp only [sg, Bool.false_eq_true, if_false]
      exact mag_nonneg _ _
    · have s1f : s1 = false := by
        cases s1
        · rfl
        · exfalso
          have := pos_of m1 i1 z1
          rw [v1] at x0
          simp only [sg, if_true] at x0
          grind
      subst s1f
      simp only [sg, Bool.false_eq_true, if_false] at v1 v2
      rw [v1, v2] at h
      have l1 := log2_52 h1
      have l2 := log2_52 h2
      -- the places of the first digits
      have hpl : i1 + m1.log2 ≤ i2 + m2.log2 := by
        refine Classical.byContradiction fun hc => ?_
        have a1 : 2 ^ m1.log2 ≤ m1 := Nat.log2_self_le z1
        have a2 : m2 < 2 ^ (m2.log2 + 1) := Nat.lt_log2_self
        have b1 : (2 : Rat) ^ (m1.log2 : Int) ≤ m1 := by rw [p2_nat]; exact_mod_cast a1
        have b2 : (m2 : Rat) < 2 ^ ((m2.log2 + 1 : Nat) : Int) := by rw [p2_nat]; exact_mod_cast a2
        have c1 := Rat.mul_le_mul_of_nonneg_right b1 (Rat.le_of_lt (p2_pos i1))
        have c2 := Rat.mul_lt_mul_of_pos_right b2 (p2_pos i2)
        rw [← p2_add] at c1 c2
        have c3 := p2_le (show ((m2.log2 + 1 : Nat) : Int) + i2 ≤ (m1.log2 : Int) + i1 by omega)
        grind
      generalize hk1 : 54 + n.log2 - m1.log2 = k1
      generalize hk2 : 54 + n.log2 - m2.log2 = k2
      have hq := quot_big (n := n) z2 hn
      rw [hk2] at hq
      have hle : i1 - k1 ≤ i2 - k2 := by omega
      generalize hdl : ((i2 - k2) - (i1 - k1)).toNat = dl
      have hD : m1 * 2 ^ k1 ≤ m2 * 2 ^ k2 * 2 ^ dl := by
        have e1 : (m1 : Rat) * 2 ^ i1 = ((m1 * 2 ^ k1 : Nat) : Rat) * 2 ^ (i1 - k1) := by
          rw [Rat.natCast_mul, ← p2_nat, Rat.mul_assoc, ← p2_add]
          congr 2
          omega
        have e2 : (m2 : Rat) * 2 ^ i2 = ((m2 * 2 ^ k2 * 2 ^ dl : Nat) : Rat) * 2 ^ (i1 - k1) := by
          rw [Rat.natCast_mul, Rat.natCast_mul, ← p2_nat, ← p2_nat, Rat.mul_assoc, Rat.mul_assoc, ← p2_add, ← p2_add]
          congr 2
          omega
        rw [e1, e2] at h
        have := Rat.le_of_mul_le_mul_right h (p2_pos (i1 - k1))
        exact_mod_cast this
      rcases quot_mono (Nat.pos_of_ne_zero hn) hD with k | ⟨a, a0, a1, ea, eb⟩
      · refine nearest_mono ?_
        rw [dval_number, dval_number]
        simp only [sg, Bool.false_eq_true, if_false]
        generalize 2 * (m1 * 2 ^ k1 / n) + (m1 * 2 ^ k1 % n != 0).toNat = Q1 at *
        generalize 2 * (m2 * 2 ^ k2 / n) + (m2 * 2 ^ k2 % n != 0).toNat = Q2 at *
        have e2 : (Q2 : Rat) * 2 ^ (i2 - j - (k2 : Int) - 1) = ((Q2 * 2 ^ dl : Nat) : Rat) * 2 ^ (i1 - j - (k1 : Int) - 1) := by
          rw [Rat.natCast_mul, ← p2_nat, Rat.mul_assoc, ← p2_add]
          congr 2
          omega
        rw [e2]
        exact Rat.mul_le_mul_of_nonneg_right (by exact_mod_cast k) (Rat.le_of_lt (p2_pos _))
      · rw [ea, eb, nearest_gap false hq a0 a1 (by omega), show i1 - j - (k1 : Int) - 1 + ((dl + 1 : Nat) : Int) - 1 = i2 - j - (k2 : Int) - 1 by omega]
        exact leB_refl (nearest_not_nan _ _ _)
end Go.Proofs.Ytfeomlbfmbpmaaa.Fl
