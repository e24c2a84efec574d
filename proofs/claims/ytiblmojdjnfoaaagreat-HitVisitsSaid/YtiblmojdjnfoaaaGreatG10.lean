/- A region that draws its order, in one walk in the order of the text, where an operation may lean on what those told that it waits for (a block that another one made). Over any relation of worlds. Package box: Grow, Of. Where a ray goes through a box, by floats; and that what goes through a box goes through one that has it. What goes through a box goes through one that has it, axis by axis. Where a ray goes through a box, axis by axis; what goes through a part goes through all. Package box: ends, and the function that it makes. -/
import Derived.Test.YtiblmojdjnfoaaaGreatG7
import Derived.Test.YtiblmojdjnfoaaaGreatRows
import Derived.Test.YtiblmojdjnfoaaaGreatG8
import Derived.Test.YtiblmojdjnfoaaaGreatG2
namespace Go.Proofs.YtiblmojdjnfoaaaGreat.Lw
open Go.RowKit Fl Lp

/-- What an operation leaves: a value of V, in a world to which R leads. -/
def Upon (P : Program) (R : World → World → Prop) (w0 : World) (V : Value → World → Prop) : Result Next → Prop
  | .ok (.value u) w' => V u w' ∧ R w0 w'
  | .ok .skip w' => V undef w' ∧ R w0 w'
  | .ok (.enter f args) w1 => Calls P f args w1 fun e w' => ∃ v, e = .returned v ∧ V v w' ∧ R w0 w'
  | _ => False

theorem Upon.some {P : Program} {R : World → World → Prop} {w0 : World} {V : Value → World → Prop} {r : Result Next} (h : Upon P R w0 V r) : ∃ v w, V v w ∧ R w0 w := by
  unfold Upon at h
  split at h
  · exact ⟨_, _, h⟩
  · exact ⟨_, _, h⟩
  · obtain ⟨_, _, _, ⟨v, _, hv, hr⟩, _⟩ := h []
    exact ⟨v, _, hv, hr⟩
  · exact h.elim

/-- What is told of a world stays true along R. -/
def Along (R : World → World → Prop) (G : World → Prop) : Prop := ∀ w w', R w w' → G w → G w'

abbrev Ev := Nat → World → Prop
def upd (E : Ev) (i : Nat) (F : World → Prop) : Ev := fun p w => E p w ∧ (p = i → F w)
theorem upd_comm (E : Ev) (i j : Nat) (F G : World → Prop) : upd (upd E i F) j G = upd (upd E j G) i F := by
  funext p w
  exact propext ⟨fun h => ⟨⟨h.1.1, h.2⟩, h.1.2⟩, fun h => ⟨⟨h.1.1, h.2⟩, h.1.2⟩⟩
theorem upd_at {E : Ev} {i : Nat} {F : World → Prop} {w : World} (h : upd E i F i w) : F w := h.2 rfl
/-- All that is known. -/
def Full (C : World → Prop) (E : Ev) (w : World) : Prop := C w ∧ ∀ p, E p w

section
variable {P : Program} {R : World → World → Prop} {ops : Array Oper} {C : World → Prop} {md : Region.Mode} {Q : Exit → Act → World → Prop}

/-- What operation i may lean on. -/
def Cn (md : Region.Mode) (ops : Array Oper) (C : World → Prop) (E : Ev) (i : Nat) (w : World) : Prop := C w ∧ ∀ p, waits md ops 5 i p = true → E p w
theorem Full.cn {E : Ev} {w : World} (h : Full C E w) (i : Nat) : Cn md ops C E i w := ⟨h.1, fun p _ => h.2 p⟩
theorem Full.upd {E : Ev} {w : World} (h : Full C E w) {i : Nat} {F : World → Prop} (hf : F w) : Full C (upd E i F) w := ⟨h.1, fun p => ⟨h.2 p, fun _ => hf⟩⟩
theorem Full.old {E : Ev} {w : World} {i : Nat} {F : World → Prop} (h : Full C (Lw.upd E i F) w) : Full C E w ∧ F w := ⟨⟨h.1, fun p => (h.2 p).1⟩, (h.2 i).2 rfl⟩
theorem cn_upd {E : Ev} {i j : Nat} {F : World → Prop} (h : waits md ops 5 j i = false) : Cn md ops C (upd E i F) j = Cn md ops C E j := by
  funext w
  refine propext ⟨fun k => ⟨k.1, fun p hp => (k.2 p hp).1⟩, fun k => ⟨k.1, fun p hp => ⟨k.2 p hp, fun e => ?_⟩⟩⟩
  subst e
  rw [h] at hp
  cases hp

/-- The values that an operation may leave in its slot, in every world of D. -/
def Gives (P : Program) (R : World → World → Prop) (ops : Array Oper) (D : World → Prop) (kd : Kd) (o : Oper) (a : Act) (S : Value → World → Prop) : Prop :=
  if Region.wanted o (yielded ops a.tmps) = true then
    match kd with
    | none => ∃ v, S = (fun u _ => u = v) ∧ ∀ w, D w → (execOp a.eval o).run P w = .ok (.value v) w
    | some V => S = V ∧ (∀ v, Along R (V v)) ∧ ∀ w, D w → Upon P R w V ((execOp a.eval o).run P w)
  else S = fun u _ => u = undef

theorem Gives.move {D : World → Prop} {kd : Kd} {o : Oper} {a a' : Act} {S : Value → World → Prop} (h : Gives P R ops D kd o a S) (he : execOp a'.eval o = execOp a.eval o)
    (hw : Region.wanted o (yielded ops a'.tmps) = Region.wanted o (yielded ops a.tmps)) : Gives P R ops D kd o a' S := by
  unfold Gives at *
  rw [he, hw]
  exact h

theorem Gives.one {D : World → Prop} {kd : Kd} {o : Oper} {a : Act} {S T : Value → World → Prop} {w : World} (hC : D w) (h : Gives P R ops D kd o a S) (k : Gives P R ops D kd o a T) : S = T := by
  unfold Gives at *
  split at h
  · rename_i hw
    rw [if_pos hw] at k
    cases kd with
    | none =>
      obtain ⟨v, rfl, hv⟩ := h
      obtain ⟨u, rfl, hu⟩ := k
      have e := (hv w hC).symm.trans (hu w hC)
      injection e with e1 _
      injection e1 with e2
      rw [e2]
    | some V => exact h.1.trans k.1.symm
  · rename_i hw
    rw [if_neg hw] at k
    exact h.trans k.symm

theorem Gives.ex {D : World → Prop} {kd : Kd} {o : Oper} {a : Act} {S : Value → World → Prop} {w : World} (hC : D w) (h : Gives P R ops D kd o a S) : ∃ v w', S v w' ∧ (w' = w ∨ R w w') := by
  unfold Gives at h
  split at h
  · cases kd with
    | none => obtain ⟨v, rfl, _⟩ := h; exact ⟨v, w, rfl, .inl rfl⟩
    | some V => obtain ⟨rfl, _, hv⟩ := h; obtain ⟨v, w', h1, h2⟩ := (hv w hC).some; exact ⟨v, w', h1, .inr h2⟩
  · exact ⟨undef, w, by rw [h], .inl rfl⟩

theorem Gives.stable {D : World → Prop} {kd : Kd} {o : Oper} {a : Act} {S : Value → World → Prop} (h : Gives P R ops D kd o a S) (v : Value) : Along R (S v) := by
  unfold Gives at h
  split at h
  · cases kd with
    | none => obtain ⟨v, rfl, _⟩ := h; exact fun _ _ _ h => h
    | some V => obtain ⟨rfl, hs, _⟩ := h; exact hs v
  · rw [h]; exact fun _ _ _ h => h

/-- One operation, number i. -/
def Step (P : Program) (R : World → World → Prop) (md : Region.Mode) (ops : Array Oper) (C : World → Prop) (kd : Kd) (i : Nat) (o : Oper) (K : Act → Ev → Prop) (a : Act) (E : Ev) : Prop :=
  ∃ S, Gives P R ops (Cn md ops C E i) kd o a S ∧ ∀ v, (∃ w, Full C E w ∧ S v w) → K (a.put o.dst v) (upd E i (S v))

theorem Full.to {E : Ev} (hC : Along R C) (hE : ∀ p, Along R (E p)) {w w' : World} (h : Full C E w) (hr : w' = w ∨ R w w') : Full C E w' := by
  rcases hr with rfl | hr
  · exact h
  · exact ⟨hC _ _ hr h.1, fun p => hE p _ _ hr (h.2 p)⟩

theorem wpOp_of_step {kd : Kd} {o : Oper} {K : Act → Ev → Prop} {a : Act} {E : Ev} {i : Nat} {w : World} {K' : Act → World → Prop} (hi : ops[i]? = some o) (hC : Along R C) (hE : ∀ p, Along R (E p)) (hw0 : Full C E w)
    (hK : ∀ a' E' w', (∀ p, Along R (E' p)) → Full C E' w' → K a' E' → K' a' w') (h : Step P R md ops C kd i o K a E) : wpOp P ops Q i K' a w := by
  obtain ⟨S, hS, hn⟩ := h
  have hst := hS.stable
  unfold Gives at hS
  unfold wpOp
  rw [hi]
  dsimp only
  have fin : ∀ v w', S v w' → Full C E w' → K' (a.put o.dst v) w' := fun v w' hv hg =>
    hK _ _ _ (fun p x y hr hx => ⟨hE p x y hr hx.1, fun e => hst v x y hr (hx.2 e)⟩) (hg.upd hv) (hn v ⟨w', hg, hv⟩)
  split at hS
  · rename_i hw
    rw [if_pos hw]
    refine .inl ?_
    unfold Oper.wp
    cases kd with
    | none =>
      obtain ⟨v, rfl, hv⟩ := hS
      rw [hv w (hw0.cn i)]
      exact fin v w rfl hw0
    | some V =>
      obtain ⟨rfl, _, hv⟩ := hS
      have h1 := hv w (hw0.cn i)
      generalize (execOp a.eval o).run P w = r at h1
      unfold Upon at h1
      split at h1
      · exact fin _ _ h1.1 (hw0.to hC hE (.inr h1.2))
      · exact fin _ _ h1.1 (hw0.to hC hE (.inr h1.2))
      · refine Calls.mono h1 fun e w'' ⟨v, he, hV, hb⟩ => ?_
        subst he
        exact fin _ _ hV (hw0.to hC hE (.inr hb))
      · exact h1.elim
  · rename_i hw
    rw [if_neg hw]
    exact fin undef w (by rw [hS]) hw0

/-- Whatever order is picked, till the first m operations are done; then F. -/
def anyL (P : Program) (R : World → World → Prop) (md : Region.Mode) (ops : Array Oper) (C : World → Prop) (kinds : Nat → Kd) (m : Nat) (F : Act → Ev → Prop) : Nat → Array Bool → Act → Ev → Prop
  | 0, listed, a, E => (∀ k, k < m → listed.getD k true = true) ∧ (∀ k, m ≤ k → k < ops.size → listed.getD k true = false) ∧ F a E
  | fuel + 1, listed, a, E => Region.ready md ops listed ≠ [] ∧ ∀ i ∈ Region.ready md ops listed, ∃ o, ops[i]? = some o ∧ Step P R md ops C (kinds i) i o (anyL P R md ops C kinds m F fuel (listed.setIfInBounds i true)) a E

theorem not_waits {listed : Array Bool} (hc : Closed md ops listed) {i j : Nat} (hi : i ∈ Region.ready md ops listed) (hj : listed.getD j true = false) : waits md ops 5 i j = false := by
  cases h : waits md ops 5 i j
  · rfl
  · exfalso
    obtain ⟨_, o, ho, hall⟩ := mem_ready.1 hi
    have := getD_true_of (waits_spec hc 5 i h fun o' ho' => by rw [ho] at ho'; cases ho'; exact hall)
    rw [hj] at this
    cases this

/-- An operation that may come up now may be taken first. -/
theorem anyL_first {kinds : Nat → Kd} {m : Nat} {F : Act → Ev → Prop} (hC : Along R C) (hL : tailWaits md ops m = true) {i : Nat} (him : i < m) {oi : Oper} (hi : ops[i]? = some oi)
    (hsel : ∀ (j : Nat) (o : Oper) cs b, ops[j]? = some o → o.op ≠ .select cs b) {S : Value → World → Prop} :
    ∀ (fuel : Nat) (listed : Array Bool) (a : Act) (E : Ev), (∀ p, Along R (E p)) → (∃ w, Full C E w) → Closed md ops listed →
      (∀ j oj, ops[j]? = some oj → j ≠ i → listed.getD j true = false → (∀ e ∈ oj.after, Region.binds md e = true → e.on ≠ i) → oi.apart ops oj = true) →
      i ∈ Region.ready md ops listed → Gives P R ops (Cn md ops C E i) (kinds i) oi a S →
      (∀ v, (∃ w, Full C E w ∧ S v w) → anyL P R md ops C kinds m F fuel (listed.setIfInBounds i true) (a.put oi.dst v) (upd E i (S v))) → anyL P R md ops C kinds m F (fuel + 1) listed a E := by
  have small : ∀ (listed : Array Bool) (j : Nat), Closed md ops listed → i ∈ Region.ready md ops listed → j ∈ Region.ready md ops listed → j < m := by
    intro listed j hc hr hj
    rcases Nat.lt_or_ge j m with h | h
    · exact h
    · have h3 := getD_true_of (tailWaits_spec hL hc h hj i (by omega) (.inl him))
      rw [(mem_ready.1 hr).1] at h3
      cases h3
  intro fuel
  induction fuel with
  | zero =>
    intro listed a E hE hw hc _ hr hG H
    refine ⟨fun h => (by rw [h] at hr; cases hr), fun j hj => ?_⟩
    by_cases hji : j = i
    · subst hji; exact ⟨oi, hi, S, hG, H⟩
    · obtain ⟨w, hw⟩ := hw
      obtain ⟨v, w', hv, hr'⟩ := hG.ex (hw.cn i)
      have h1 := (H v ⟨w', hw.to hC hE hr', hv⟩).1 j (small listed j hc hr hj)
      rw [getD_set_ne true (Ne.symm hji), (mem_ready.1 hj).1] at h1
      cases h1
  | succ fuel ih =>
    intro listed a E hE hw hc hfree hr hG H
    refine ⟨fun h => (by rw [h] at hr; cases hr), fun j hj => ?_⟩
    by_cases hji : j = i
    · subst hji; exact ⟨oi, hi, S, hG, H⟩
    · have hj0 := hj
      obtain ⟨hjun, oj, hoj, hall⟩ := mem_ready.1 hj
      have hnot : ∀ e ∈ oj.after, Region.binds md e = true → e.on ≠ i := by
        intro e he hb heq
        have h1 := getD_true_of (hall e he hb)
        rw [heq, (mem_ready.1 hr).1] at h1
        cases h1
      obtain ⟨h1, h2, h3⟩ := Oper.apart_spec (hfree j oj hoj hji hjun hnot)
      have hsi := fun cs b => hsel i oi cs b hi
      have hsj := fun cs b => hsel j oj cs b hoj
      have wij : waits md ops 5 i j = false := not_waits hc hr hjun
      have wji : waits md ops 5 j i = false := not_waits hc hj0 (mem_ready.1 hr).1
      have got : ∀ v, (∃ w, Full C E w ∧ S v w) → ∃ T, Gives P R ops (Cn md ops C E j) (kinds j) oj a T ∧ ∀ u, (∃ w, Full C (upd E i (S v)) w ∧ T u w) → anyL P R md ops C kinds m F fuel ((listed.setIfInBounds i true).setIfInBounds j true) ((a.put oi.dst v).put oj.dst u) (upd (upd E i (S v)) j (T u)) := by
        intro v hv
        obtain ⟨o', ho', T, hT, hn⟩ := (H v hv).2 j (ready_mono hj hji)
        rw [hoj] at ho'
        cases ho'
        rw [cn_upd wji] at hT
        exact ⟨T, hT.move (execOp_put oj hsj a oi.dst v h1).symm (wanted_put oj a oi.dst v h1).symm, hn⟩
      obtain ⟨w0, hw0⟩ := hw
      obtain ⟨v0, w1, hv0, hr0⟩ := hG.ex (hw0.cn i)
      obtain ⟨T, hT, _⟩ := got v0 ⟨w1, hw0.to hC hE hr0, hv0⟩
      have hTs := hT.stable
      refine ⟨oj, hoj, T, hT, fun u hu => ih (listed.setIfInBounds j true) (a.put oj.dst u) _ (fun p x y hr hx => ⟨hE p x y hr hx.1, fun e => hTs u x y hr (hx.2 e)⟩) ?_ (hc.set hj) ?_ (ready_mono hr (Ne.symm hji)) ?_ fun v hv => ?_⟩
      · obtain ⟨w, hf, ht⟩ := hu
        exact ⟨w, hf.upd ht⟩
      · intro k ok hk hki hun hno
        refine hfree k ok hk hki ?_ hno
        by_cases hjk : j = k
        · subst hjk; exact hjun
        · rw [getD_set_ne true hjk] at hun; exact hun
      · rw [cn_upd wij]
        exact hG.move (execOp_put oi hsi a oj.dst u h3) (wanted_put oi a oj.dst u h3)
      · obtain ⟨w, hf, hs⟩ := hv
        obtain ⟨hf0, ht⟩ := hf.old
        obtain ⟨T', hT', hn⟩ := got v ⟨w, hf0, hs⟩
        have e := Gives.one (hf0.cn j) hT hT'
        subst e
        have := hn u ⟨w, hf0.upd hs, ht⟩
        rw [Array.setIfInBounds_comm _ _ (Ne.symm hji)] at this
        rw [← Act.put_comm a v u h2, upd_comm]
        exact this

theorem wpAny_of_L {kinds : Nat → Kd} {m : Nat} {l : List Oper} (hC : Along R C) (hL : tailWaits md ops m = true) (hl : ∀ j, l[j]? = ops[m + j]?) (hn : m + l.length = ops.size) (hB : ∀ listed : Array Bool, listed.size = ops.size → (∀ k, k < m → listed.getD k true = true) → (∀ k, m ≤ k → k < ops.size → listed.getD k true = false) → Region.lexFrom md ops l.length m listed = true) :
    ∀ (fuel : Nat) (listed : Array Bool) (a : Act) (E : Ev) (w : World), Closed md ops listed → listed.size = ops.size → (∀ p, Along R (E p)) → Full C E w → anyL P R md ops C kinds m (fun a E => ∀ w, Full C E w → wpList P ops Q l a w) fuel listed a E → wpAny P md ops Q (l.length + fuel) listed a w := by
  intro fuel
  induction fuel with
  | zero =>
    intro listed a E w hc hsz hE hw h
    exact wpAny_tail hL l m listed a w hc (Nat.le_refl _) hl hn h.1 h.2.1 (hB listed hsz h.1 h.2.1) (h.2.2 w hw)
  | succ fuel ih =>
    intro listed a E w hc hsz hE hw h
    refine ⟨fun h0 => absurd h0 h.1, fun i hi => ?_⟩
    obtain ⟨o, ho, hs⟩ := h.2 i hi
    exact wpOp_of_step ho hC hE hw (fun a' E' w' hE' hw' hk => ih _ a' E' w' (hc.set hi) (by simp [hsz]) hE' hw' hk) hs

/-- The walk in the order of the text, a kind beside each operation; what is behind the first m is left to the plain walk. -/
def wpLoose (P : Program) (R : World → World → Prop) (md : Region.Mode) (ops : Array Oper) (C : World → Prop) (Q : Exit → Act → World → Prop) : List Kd → Nat → Nat → List Oper → Act → Ev → Prop
  | _, 0, _, l, a, E => ∀ w, Full C E w → wpList P ops Q l a w
  | _, _ + 1, _, [], _, _ => False
  | kds, m + 1, k, o :: l, a, E => Step P R md ops C (kds.headD none) k o (wpLoose P R md ops C Q kds.tail m (k + 1) l) a E

theorem Gives.anti {D D' : World → Prop} {kd : Kd} {o : Oper} {a : Act} {S : Value → World → Prop} (hd : ∀ w, D' w → D w) (h : Gives P R ops D kd o a S) : Gives P R ops D' kd o a S := by
  unfold Gives at *
  split at h
  · rename_i hw
    rw [if_pos hw]
    cases kd with
    | none => obtain ⟨v, e, hv⟩ := h; exact ⟨v, e, fun w hw => hv w (hd w hw)⟩
    | some V => exact ⟨h.1, h.2.1, fun w hw => h.2.2 w (hd w hw)⟩
  · rename_i hw
    rw [if_neg hw]
    exact h

theorem wpLoose_anti : ∀ (m : Nat) (kds : List Kd) (k : Nat) (l : List Oper) (a : Act) (E E' : Ev), (∀ p w, E' p w → E p w) → wpLoose P R md ops C Q kds m k l a E → wpLoose P R md ops C Q kds m k l a E'
  | 0, kds, k, l, a, E, E', hs, h => fun w hw => h w ⟨hw.1, fun p => hs p w (hw.2 p)⟩
  | _ + 1, _, _, [], _, _, _, _, h => h
  | m + 1, kds, k, o :: l, a, E, E', hs, h => by
    obtain ⟨S, hS, hn⟩ := h
    exact ⟨S, hS.anti fun w hw => ⟨hw.1, fun p hp => hs p w (hw.2 p hp)⟩, fun v ⟨w, hf, hv⟩ => wpLoose_anti m _ _ _ _ _ _ (fun p w hw => ⟨hs p w hw.1, hw.2⟩) (hn v ⟨w, ⟨hf.1, fun p => hs p w (hf.2 p)⟩, hv⟩)⟩

theorem anyL_lex {m : Nat} (hC : Along R C) (hs : Region.noSelect ops = true) (hL : tailWaits md ops m = true) {tl : List Oper} {kinds : Nat → Kd} (hlt : tl.length = ops.size - m) (hm : m ≤ ops.size) (htl : ∀ j, tl[j]? = ops[m + j]?) :
    ∀ (n : Nat) (l : List Oper) (kds : List Kd) (k : Nat) (listed : Array Bool) (a : Act) (E : Ev), (∀ p, Along R (E p)) → (∃ w, Full C E w) → Closed md ops listed → (∀ j, l[j]? = ops[k + j]?) → (∀ j, kinds (k + j) = kds.getD j none) → k + n = m → k + l.length = ops.size → listed.size = ops.size →
      (∀ j, j < k → listed.getD j true = true) → (∀ j, k ≤ j → j < ops.size → listed.getD j true = false) → Region.lexFrom md ops l.length k listed = true → wpLoose P R md ops C Q kds n k l a E →
      anyL P R md ops C kinds m (fun a E => ∀ w, Full C E w → wpList P ops Q tl a w) n listed a E
  | 0, l, kds, k, listed, a, E, hE, hw, hc, hl, hk, hn, hll, hsz, hd, hu, hB, h => by
    have hkm : k = m := by omega
    subst hkm
    have : l = tl := by
      refine List.ext_getElem? fun j => ?_
      rw [hl j, htl j]
    subst this
    exact ⟨hd, hu, h⟩
  | n + 1, [], kds, k, listed, a, E, hE, hw, hc, hl, hk, hn, hll, hsz, hd, hu, hB, h => h.elim
  | n + 1, o :: l, kds, k, listed, a, E, hE, hw, hc, hl, hk, hn, hll, hsz, hd, hu, hB, h => by
    have h0 : ops[k]? = some o := by simpa using (hl 0).symm
    simp only [List.length_cons, Region.lexFrom, Bool.and_eq_true] at hB
    obtain ⟨⟨hr, hf⟩, hB'⟩ := hB
    obtain ⟨S, hS, hK⟩ := h
    have e0 : kinds k = kds.headD none := by have := hk 0; cases kds <;> simpa using this
    rw [← e0] at hS
    have hr' : k ∈ Region.ready md ops listed := by simpa using hr
    have hlt' := lt_of_ready hr'
    have hSs := hS.stable
    refine anyL_first hC hL (by omega) h0 (Region.noSelect_spec hs) _ listed a E hE hw hc (Region.free_spec h0 hf) hr' hS fun v hv => ?_
    refine anyL_lex hC hs hL hlt hm htl n l kds.tail (k + 1) _ _ _ (fun p x y hr hx => ⟨hE p x y hr hx.1, fun e => hSs v x y hr (hx.2 e)⟩) (hv.elim fun w h => ⟨w, h.1.upd h.2⟩) (hc.set hr') (fun j => ?_) (fun j => ?_) (by omega) (by simp at hll; omega) (by simp [hsz]) (fun j hj => ?_) (fun j hj hjs => ?_) hB' (hK v hv)
    · have := hl (j + 1); simpa [Nat.add_assoc, Nat.add_comm 1 j] using this
    · have := hk (j + 1)
      rw [Nat.add_assoc, Nat.add_comm 1 j, this]
      cases kds <;> simp
    · by_cases hjk : k = j
      · subst hjk
        simp [hsz, hlt']
      · rw [getD_set_ne true hjk]
        exact hd j (by omega)
    · rw [getD_set_ne true (by omega)]; exact hu j (by omega) hjs

/-- The law: a region that draws, written out; its first m operations are walked so. -/
theorem wp_region_loose {id : Nat} {a : Act} {w : World} {l : List Oper} (R : World → World → Prop) (C : World → Prop) (kds : List Kd) (m : Nat) (hm : P.follows .mixedOrders = true) (hB : Region.lexB .any l.toArray = true)
    (hL : tailWaits .any l.toArray m = true) (hS : Along R C) (hC : C w.drew) (h : wpLoose P R .any l.toArray C Q kds m 0 l a (fun _ _ => True)) : (Code.region id l.toArray true).wp P Q a w := by
  simp only [Region.lexB, Bool.and_eq_true] at hB
  have hms : m ≤ l.toArray.size := by have := hL; simp only [tailWaits, Bool.and_eq_true] at this; exact of_decide_eq_true this.1
  refine wp_region_any hm ?_
  have e1 : ∀ j, (Array.replicate l.toArray.size false).getD j true = decide (l.toArray.size ≤ j) := by
    intro j
    rcases Nat.lt_or_ge j l.toArray.size with h' | h'
    · have h2 : ¬ l.toArray.size ≤ j := by omega
      rw [decide_eq_false h2]
      simp at h'
      simp [h']
    · rw [decide_eq_true h']
      simp at h'
      simp [h']
  have hd0 : ∀ j, j < 0 → (Array.replicate l.toArray.size false).getD j true = true := fun j hj => absurd hj (Nat.not_lt_zero j)
  have hu0 : ∀ j, 0 ≤ j → j < l.toArray.size → (Array.replicate l.toArray.size false).getD j true = false := fun j _ hj => by rw [e1 j]; exact decide_eq_false (by omega)
  have htl : ∀ j, (l.drop m)[j]? = l.toArray[m + j]? := fun j => by simp
  have hlen : (l.drop m).length = l.toArray.size - m := by simp
  have hF : Full C (fun _ _ => True) w.drew := ⟨hC, fun _ => trivial⟩
  have hE : ∀ p : Nat, Along R ((fun _ _ => True : Ev) p) := fun _ _ _ _ _ => trivial
  have h1 := anyL_lex (P := P) (R := R) (Q := Q) (md := .any) (kinds := fun j => kds.getD j none) hS hB.1 hL (tl := l.drop m) hlen hms htl m l kds 0 (Array.replicate l.toArray.size false) a _ hE ⟨_, hF⟩ (Closed.none _) (by simp) (by simp) (by omega) (by simp) (by simp) hd0 hu0 (by simpa using hB.2) h
  have h2 := wpAny_of_L (P := P) (R := R) (Q := Q) (C := C) hS hL htl (by rw [hlen]; omega) (fun listed hsz hd hu => by
      have := lexFrom_at (md := .any) m 0 (Array.replicate l.toArray.size false) l.toArray.size (by simp) hms (by simpa using hB.2) hd0 hu0 (by omega) listed hsz (by simpa using hd) (by simpa using hu)
      rw [hlen]
      simpa using this) m _ _ _ _ (Closed.none _) (by simp) hE hF h1
  have e : (l.drop m).length + m = l.toArray.size := by rw [hlen]; omega
  rw [e] at h2
  exact h2

/-! The steps -/
variable {kds : List Kd} {m k : Nat} {o : Oper} {l : List Oper} {a : Act} {E : Ev}
/-- An operation that gives one value. -/
theorem one (v : Value) (hw : Region.wanted o (yielded ops a.tmps) = true)
    (h : ∀ w, C w → (execOp a.eval o).run P w = .ok (.value v) w) (hK : ∀ K : Act → Prop, Hid (∀ a, wpLoose P R md ops C Q kds m (k + 1) l a E → K a) → K (a.put o.dst v)) : wpLoose P R md ops C Q (none :: kds) (m + 1) k (o :: l) a E :=
  ⟨fun u _ => u = v, by unfold Gives; rw [if_pos hw]; exact ⟨v, rfl, fun w hw => h w hw.1⟩, fun u ⟨_, _, hu⟩ => by subst hu; exact wpLoose_anti _ _ _ _ _ _ _ (fun _ _ h => h.1) (hK _ fun _ h => h)⟩
/-- The same, by what it waits for. -/
theorem oneN (v : Value) (hw : Region.wanted o (yielded ops a.tmps) = true)
    (h : ∀ w, C w → (∀ p, waits md ops 5 k p = true → E p w) → (execOp a.eval o).run P w = .ok (.value v) w) (hK : ∀ K : Act → Prop, Hid (∀ a, wpLoose P R md ops C Q kds m (k + 1) l a E → K a) → K (a.put o.dst v)) : wpLoose P R md ops C Q (none :: kds) (m + 1) k (o :: l) a E :=
  ⟨fun u _ => u = v, by unfold Gives; rw [if_pos hw]; exact ⟨v, rfl, fun w hw => h w hw.1 hw.2⟩, fun u ⟨_, _, hu⟩ => by subst hu; exact wpLoose_anti _ _ _ _ _ _ _ (fun _ _ h => h.1) (hK _ fun _ h => h)⟩
/-- An operation whose value is told up to V. -/
theorem any {V : Value → Prop} (hw : Region.wanted o (yielded ops a.tmps) = true)
    (h : ∀ w, C w → Upon P R w (fun v _ => V v) ((execOp a.eval o).run P w)) (hK : ∀ K : Act → Prop, Hid (∀ a, wpLoose P R md ops C Q kds m (k + 1) l a E → K a) → ∀ v, V v → K (a.put o.dst v)) : wpLoose P R md ops C Q (some (fun v _ => V v) :: kds) (m + 1) k (o :: l) a E :=
  ⟨fun v _ => V v, by unfold Gives; rw [if_pos hw]; exact ⟨rfl, fun _ _ _ _ h => h, fun w hw => h w hw.1⟩, fun u ⟨_, _, hu⟩ => wpLoose_anti _ _ _ _ _ _ _ (fun _ _ h => h.1) (hK _ (fun _ h => h) u hu)⟩
theorem anyN {V : Value → Prop} (hw : Region.wanted o (yielded ops a.tmps) = true)
    (h : ∀ w, C w → (∀ p, waits md ops 5 k p = true → E p w) → Upon P R w (fun v _ => V v) ((execOp a.eval o).run P w)) (hK : ∀ K : Act → Prop, Hid (∀ a, wpLoose P R md ops C Q kds m (k + 1) l a E → K a) → ∀ v, V v → K (a.put o.dst v)) : wpLoose P R md ops C Q (some (fun v _ => V v) :: kds) (m + 1) k (o :: l) a E :=
  ⟨fun v _ => V v, by unfold Gives; rw [if_pos hw]; exact ⟨rfl, fun _ _ _ _ h => h, fun w hw => h w hw.1 hw.2⟩, fun u ⟨_, _, hu⟩ => wpLoose_anti _ _ _ _ _ _ _ (fun _ _ h => h.1) (hK _ (fun _ h => h) u hu)⟩
/-- An operation that tells of its value and of the world: V is known from here on. -/
theorem anyW {V : Value → World → Prop} (hw : Region.wanted o (yielded ops a.tmps) = true) (hst : ∀ v, Along R (V v))
    (h : ∀ w, C w → (∀ p, waits md ops 5 k p = true → E p w) → Upon P R w V ((execOp a.eval o).run P w)) (hK : ∀ K : Act → Value → Prop, Hid (∀ a v, wpLoose P R md ops C Q kds m (k + 1) l a (upd E k (V v)) → K a v) → ∀ v, (∃ w, C w ∧ V v w) → K (a.put o.dst v) v) : wpLoose P R md ops C Q (some V :: kds) (m + 1) k (o :: l) a E :=
  ⟨V, by unfold Gives; rw [if_pos hw]; exact ⟨rfl, hst, fun w hw => h w hw.1 hw.2⟩, fun u ⟨w, hf, hu⟩ => hK (fun a v => wpLoose P R md ops C Q kds m (k + 1) l a (upd E k (V v))) (fun _ _ h => h) u ⟨w, hf.1, hu⟩⟩
/-- An operation that is not wanted. -/
theorem skip {kd : Kd} (hw : Region.wanted o (yielded ops a.tmps) = false)
    (hK : ∀ K : Act → Prop, Hid (∀ a, wpLoose P R md ops C Q kds m (k + 1) l a E → K a) → K (a.put o.dst undef)) : wpLoose P R md ops C Q (kd :: kds) (m + 1) k (o :: l) a E :=
  ⟨fun u _ => u = undef, by unfold Gives; rw [if_neg (by rw [hw]; exact Bool.false_ne_true)], fun u ⟨_, _, hu⟩ => by subst hu; exact wpLoose_anti _ _ _ _ _ _ _ (fun _ _ h => h.1) (hK _ fun _ h => h)⟩
/-- What is told of every world of the region, laid once. -/
theorem facts {F : World → Prop} (hF : ∀ w', C w' → F w') (h : Hid (∀ w', C w' → F w') → wpLoose P R md ops C Q kds m k l a E) : wpLoose P R md ops C Q kds m k l a E := h hF
/-- The end of the walk, where no block of the region's own is spoken of. -/
theorem fin (h : ∀ w, C w → wpList P ops Q l a w) : wpLoose P R md ops C Q [] 0 k l a E := fun w hw => h w hw.1
theorem finE (h : ∀ w, C w → (∀ p, E p w) → wpList P ops Q l a w) : wpLoose P R md ops C Q [] 0 k l a E := fun w hw => h w hw.1 hw.2

/-! Where what was there stays as it was -/
abbrev Bw : World → World → Prop := fun w w' => Below w.heap.size w w'
theorem along_cl (W : World) : Along Bw (Cl W) := fun _ _ hb h => Cl.call h hb
theorem along_bk (b : Nat) (vs : Array Value) (t : TypeId) (W : World) : Along Bw fun w => W.heap.size ≤ b ∧ w.heap[b]? = some (.cells vs t) := fun _ _ hb h => Stable.block b _ W _ _ hb h
theorem region {id : Nat} {a : Act} {w : World} {l : List Oper} (W : World) (kds : List Kd) (m : Nat) (hm : P.follows .mixedOrders = true) (hB : Region.lexB .any l.toArray = true)
    (hL : tailWaits .any l.toArray m = true) (hW : Cl W w) (h : wpLoose P Bw .any l.toArray (Cl W) Q kds m 0 l a (fun _ _ => True)) : (Code.region id l.toArray true).wp P Q a w :=
  wp_region_loose Bw (Cl W) kds m hm hB hL (along_cl W) (Below.drew hW) h
theorem of_lp {w : World} {V : Value → World → Prop} {r : Result Next} (h : Lp.Upon P w V r) : Upon P Bw w V r := by
  unfold Lp.Upon at h
  unfold Upon
  split at h
  · exact h
  · exact h
  · exact h.elim
theorem ret {f : FuncId} {args : Array Value} {V : Value → Prop} {w : World} (h : Ret P f args w V) : Upon P Bw w (fun v _ => V v) (.ok (.enter f args) w) := of_lp (Lp.ret h)
theorem add {t : TypeId} {x y X Y : Nat} {w : World} (hx : Sm x X) (hy : Sm y Y) :
    Upon P Bw w (fun v _ => isF (fadd X Y) v) ((Sem.run P (binOp .add t (.float .f64 x) (.float .f64 y)) w).andThen fun a w' => Result.ok (Next.value a) w') := of_lp (Lp.add hx hy)
theorem sub {t : TypeId} {x y X Y : Nat} {w : World} (hx : Sm x X) (hy : Sm y Y) :
    Upon P Bw w (fun v _ => isF (fsub X Y) v) ((Sem.run P (binOp .sub t (.float .f64 x) (.float .f64 y)) w).andThen fun a w' => Result.ok (Next.value a) w') := of_lp (Lp.sub hx hy)
theorem mul {t : TypeId} {x y X Y : Nat} {w : World} (hx : Sm x X) (hy : Sm y Y) :
    Upon P Bw w (fun v _ => isF (fmul X Y) v) ((Sem.run P (binOp .mul t (.float .f64 x) (.float .f64 y)) w).andThen fun a w' => Result.ok (Next.value a) w') := of_lp (Lp.mul hx hy)
theorem div {t : TypeId} {x y X Y : Nat} {w : World} (hx : Sm x X) (hy : Sm y Y) :
    Upon P Bw w (fun v _ => isF (fdiv X Y) v) ((Sem.run P (binOp .quo t (.float .f64 x) (.float .f64 y)) w).andThen fun a w' => Result.ok (Next.value a) w') := of_lp (Lp.div hx hy)
/-- A new block. -/
theorem new {W : World} (ob : Obj) (hw : Region.wanted o (yielded ops a.tmps) = true)
    (h : ∀ w, Cl W w → (execOp a.eval o).run P w = .ok (.value (.pointer (some ⟨w.heap.size, 0, none⟩))) (w.alloc ob))
    (hK : ∀ K : Act → Nat → Prop, Hid (∀ a b, wpLoose P Bw md ops (Cl W) Q kds m (k + 1) l a (upd E k (fun w => W.heap.size ≤ b ∧ w.heap[b]? = some ob)) → K a b) → ∀ b, W.heap.size ≤ b → K (a.put o.dst (.pointer (some ⟨b, 0, none⟩))) b) :
    wpLoose P Bw md ops (Cl W) Q (some (fun v w => ∃ b, v = .pointer (some ⟨b, 0, none⟩) ∧ W.heap.size ≤ b ∧ w.heap[b]? = some ob) :: kds) (m + 1) k (o :: l) a E := by
  refine ⟨fun v w => ∃ b, v = .pointer (some ⟨b, 0, none⟩) ∧ W.heap.size ≤ b ∧ w.heap[b]? = some ob, ?_, ?_⟩
  · unfold Gives
    rw [if_pos hw]
    refine ⟨rfl, fun v w w' hb ⟨b, hv, h'⟩ => ⟨b, hv, Stable.block b ob W w w' hb h'⟩, fun w hc => ?_⟩
    rw [h w hc.1]
    refine ⟨⟨w.heap.size, rfl, hc.1.size, by show (w.heap.push ob)[w.heap.size]? = _; simp⟩, Below.alloc (Below.refl _ _) (Nat.le_refl _) _⟩
  · rintro u ⟨_, _, b, rfl, hb, _⟩
    refine wpLoose_anti _ _ _ _ _ _ _ ?_ (hK (fun a b => wpLoose P Bw md ops (Cl W) Q kds m (k + 1) l a (upd E k (fun w => W.heap.size ≤ b ∧ w.heap[b]? = some ob))) (fun _ _ h => h) b hb)
    rintro p w ⟨he, hf⟩
    refine ⟨he, fun e => ?_⟩
    obtain ⟨b', e', h'⟩ := hf e
    cases e'
    exact h'
end
end Go.Proofs.YtiblmojdjnfoaaaGreat.Lw

namespace Go.Proofs.YtiblmojdjnfoaaaGreat
open Go.RowKit Fl

set_option maxRecDepth 100000 in
set_option maxHeartbeats 1000000 in
theorem grow_any (a0 a1 a2 a3 a4 a5 p0 p1 p2 : Nat) (w : World) : Ret Tryz.prog 81 #[.agg #[.float .f64 a0, .float .f64 a1, .float .f64 a2, .float .f64 a3, .float .f64 a4, .float .f64 a5], .agg #[.float .f64 p0, .float .f64 p1, .float .f64 p2]] w (fun v => v = .agg #[.float .f64 (lowF a0 p0), .float .f64 (lowF a1 p1), .float .f64 (lowF a2 p2), .float .f64 (highF a3 p0), .float .f64 (highF a4 p1), .float .f64 (highF a5 p2)]) := by
  unfold Ret
  go_enter Tryz.func81, Tryz.ntmps81
  go_wp2_with fail
  refine Calls.mono (join_any _ _ _ _ _ _ _ _ _ _ _ _ _) ?_
  rintro e w' ⟨v, rfl, rfl, hw'⟩
  have HW : Hid _ := hw'
  obtain ⟨hc, hf⟩ := Lp.bcell hw'
  clear hw'
  go_wp2_with fail
  refine bodyPost_ret (v := .agg #[.float .f64 (lowF a0 p0), .float .f64 (lowF a1 p1), .float .f64 (lowF a2 p2), .float .f64 (highF a3 p0), .float .f64 (highF a4 p1), .float .f64 (highF a5 p2)]) (by simp [results, go_sem, hc]) rfl ⟨_, rfl, rfl, ?_⟩
  repeat (refine Below.setCell ?_ (by simp <;> omega) _)
  exact Cl.out3 HW.out

set_option maxRecDepth 100000 in
set_option maxHeartbeats 1000000 in
theorem of_any (t0 t1 t2 t3 t4 t5 t6 t7 t8 : Nat) (w : World) : Ret Tryz.prog 56 #[.agg #[.float .f64 t0, .float .f64 t1, .float .f64 t2, .float .f64 t3, .float .f64 t4, .float .f64 t5, .float .f64 t6, .float .f64 t7, .float .f64 t8]] w (fun v => v = .agg #[.float .f64 (lowF (lowF (lowF pinf t0) t3) t6), .float .f64 (lowF (lowF (lowF pinf t1) t4) t7), .float .f64 (lowF (lowF (lowF pinf t2) t5) t8), .float .f64 (highF (highF (highF ninf t0) t3) t6), .float .f64 (highF (highF (highF ninf t1) t4) t7), .float .f64 (highF (highF (highF ninf t2) t5) t8)]) := by
  unfold Ret
  go_enter Tryz.func56, Tryz.ntmps56
  go_wp2_with fail
  apply Lp.wp_region_loose _ _ 10 (by kernel_rfl) (by kernel_rfl) (by kernel_rfl) (Below.refl _ _)
  apply Lp.facts
  · intro w1 hw
    exact And.intro (Lp.c3 hw (w.heap.size) 0 1 2 (by go_simp; exact rfl) (by go_simp; exact rfl) (by go_simp; exact rfl) (by go_simp; done)) (And.intro (Lp.c3 hw (w.heap.size) 3 4 5 (by go_simp; exact rfl) (by go_simp; exact rfl) (by go_simp; exact rfl) (by go_simp; done)) ((Lp.c3 hw (w.heap.size) 6 7 8 (by go_simp; exact rfl) (by go_simp; exact rfl) (by go_simp; exact rfl) (by go_simp; done))))
  intro HF
  apply Lp.any rfl
  · intro w hw
    go_simp
    exact Lp.ret (empty_any _)
  intro K hK
  rintro v rfl
  go_simp
  refine hK.out _ ?_
  clear hK K
  iterate 2 (
    apply Lp.one ?_ rfl
    · intro w hw
      obtain ⟨⟨c0, c1, c2⟩, ⟨⟨c3, c4, c5⟩, ⟨c6, c7, c8⟩⟩⟩ := HF.out _ hw
      go_simp
      exact rfl
    intro K hK
    go_simp
    refine hK.out _ ?_
    clear hK K)
  apply Lp.any rfl
  · intro w hw
    go_simp
    exact Lp.ret (grow_any _ _ _ _ _ _ _ _ _ _)
  intro K hK
  rintro v rfl
  go_simp
  refine hK.out _ ?_
  clear hK K
  iterate 2 (
    apply Lp.one ?_ rfl
    · intro w hw
      obtain ⟨⟨c0, c1, c2⟩, ⟨⟨c3, c4, c5⟩, ⟨c6, c7, c8⟩⟩⟩ := HF.out _ hw
      go_simp
      exact rfl
    intro K hK
    go_simp
    refine hK.out _ ?_
    clear hK K)
  apply Lp.any rfl
  · intro w hw
    go_simp
    exact Lp.ret (grow_any _ _ _ _ _ _ _ _ _ _)
  intro K hK
  rintro v rfl
  go_simp
  refine hK.out _ ?_
  clear hK K
  iterate 2 (
    apply Lp.one ?_ rfl
    · intro w hw
      obtain ⟨⟨c0, c1, c2⟩, ⟨⟨c3, c4, c5⟩, ⟨c6, c7, c8⟩⟩⟩ := HF.out _ hw
      go_simp
      exact rfl
    intro K hK
    go_simp
    refine hK.out _ ?_
    clear hK K)
  apply Lp.any rfl
  · intro w hw
    go_simp
    exact Lp.ret (grow_any _ _ _ _ _ _ _ _ _ _)
  intro K hK
  rintro v rfl
  go_simp
  refine hK.out _ ?_
  clear hK K
  rotate_left
  exact []
  intro w' hw'
  have HW : Hid _ := hw'
  obtain ⟨hc, hf⟩ := Lp.bcell hw'
  clear hw'
  go_wp2_with fail
  refine bodyPost_ret (v := .agg #[.float .f64 (lowF (lowF (lowF pinf t0) t3) t6), .float .f64 (lowF (lowF (lowF pinf t1) t4) t7), .float .f64 (lowF (lowF (lowF pinf t2) t5) t8), .float .f64 (highF (highF (highF ninf t0) t3) t6), .float .f64 (highF (highF (highF ninf t1) t4) t7), .float .f64 (highF (highF (highF ninf t2) t5) t8)]) (by simp [results, go_sem, hc]) rfl ⟨_, rfl, rfl, ?_⟩
  repeat (refine Below.setCell ?_ (by simp <;> omega) _)
  exact Cl.out2 HW.out

end Go.Proofs.YtiblmojdjnfoaaaGreat

namespace Go.Proofs.YtiblmojdjnfoaaaGreat.Fl

abbrev one : Nat := 4607182418800017408
theorem num_one : Num one := ⟨false, 4503599627370496, -52, by decide +kernel⟩
theorem val_one : val one = 1 := by decide +kernel

theorem val_big {x : Nat} (h : Num x) : Ab (val x) (2 ^ (1024 : Int)) := by
  obtain ⟨s, m, e, h⟩ := h
  obtain ⟨hm, he⟩ := number_bounds h
  have hv : val x = sg s ((m : Rat) * 2 ^ e) := by unfold val; rw [h, dval_number]
  have h1 : (m : Rat) ≤ 2 ^ ((53 : Nat) : Int) := by
    rw [p2_nat]
    have : m ≤ 2 ^ 53 := Nat.le_trans hm (by decide)
    exact_mod_cast this
  have h2 := p2_le he
  have h3 := Rat.mul_le_mul_of_nonneg_right h1 (Rat.le_of_lt (p2_pos e))
  have h4 := Rat.mul_le_mul_of_nonneg_left h2 (Rat.le_of_lt (p2_pos ((53 : Nat) : Int)))
  have h5 : (2 : Rat) ^ ((53 : Nat) : Int) * 2 ^ (971 : Int) = 2 ^ (1024 : Int) := by rw [← p2_add]; congr 1
  rw [h5] at h4
  have h6 := mag_nonneg m e
  rw [hv]
  generalize (2 : Rat) ^ (1024 : Int) = G at *
  generalize (2 : Rat) ^ ((53 : Nat) : Int) * 2 ^ e = K at *
  generalize (m : Rat) * 2 ^ e = M at *
  cases s <;> simp only [sg, if_true, Bool.false_eq_true, if_false] <;> constructor <;> grind

/-- 1 divided by a number that is not 0 is not 0, and has its sign. -/
theorem inv_read {d : Nat} (hd : Num d) (hz : val d ≠ 0) : ∃ t, ((val d < 0) = (t = true)) ∧ ((∃ n j, F64.read (fdiv one d) = .number t n j ∧ n ≠ 0) ∨ F64.read (fdiv one d) = .infinity t) := by
  obtain ⟨neg, mag, place, e, hq⟩ := div_near num_one hd hz
  obtain ⟨q1, q2⟩ := hq 1 (by rw [val_one]; grind) (by rw [val_one]; grind)
  rw [val_one, ev_eq] at q1 q2
  have hb := val_big hd
  have hR := mag_nonneg mag place
  have hneg : (val d < 0) = (neg = true) := by
    rw [dval_number] at q1 q2
    cases neg
    · simp only [sg, Bool.false_eq_true, if_false] at q1 q2 ⊢
      have : ¬ val d < 0 := by
        intro hl
        have := Rat.mul_nonneg hR (show 0 ≤ -val d by grind)
        grind
      simp [this]
    · simp only [sg, if_true] at q1 q2 ⊢
      have : val d < 0 := by
        by_cases hl : val d < 0
        · exact hl
        · exfalso
          have := Rat.mul_nonneg hR (show 0 ≤ val d by grind)
          grind
      simp [this]
  have hR2 : (1 / 2 : Rat) ≤ mag * 2 ^ place * 2 ^ (1024 : Int) := by
    rw [dval_number] at q1 q2
    have k1 := Rat.mul_nonneg hR (show 0 ≤ 2 ^ (1024 : Int) - val d by unfold Ab at hb; grind)
    have k2 := Rat.mul_nonneg hR (show 0 ≤ 2 ^ (1024 : Int) + val d by unfold Ab at hb; grind)
    generalize (2 : Rat) ^ (1024 : Int) = G at *
    generalize (mag : Rat) * 2 ^ place = M at *
    cases neg <;> simp only [sg, if_true, Bool.false_eq_true, if_false] at q1 q2 <;> grind
  refine ⟨neg, hneg, ?_⟩
  rw [e]
  rcases nearest_cases neg mag place with hn | hi
  · left
    obtain ⟨V, hV, h0, _, h2⟩ := nearest_val neg mag place hn
    obtain ⟨s, n, j, hr⟩ := hn
    have hmag : mag ≠ 0 := by
      intro h0
      subst h0
      have : ((0 : Nat) : Rat) * 2 ^ place = 0 := Rat.zero_mul _
      rw [this] at hR2
      grind
    have hs : s = neg := by
      rcases nearest_is neg (place := place) hmag with ⟨o, _, _⟩ | ⟨_, hi⟩
      · obtain ⟨b1, b2⟩ := kept_bounds neg mag place hmag
        obtain ⟨m', e', he', _⟩ := rung_val neg _ _ b1 b2 o
        rw [nearest_eq neg mag place hmag, Nat.min_eq_left (Nat.le_of_lt o), he'] at hr
        cases hr
        rfl
      · rw [hi] at hr
        cases hr
    subst hs
    refine ⟨n, j, hr, ?_⟩
    intro hn0
    subst hn0
    have hv0 : val (F64.nearest s mag place) = 0 := by
      unfold val
      rw [hr, dval_number]
      have : ((0 : Nat) : Rat) * 2 ^ j = 0 := Rat.zero_mul _
      rw [this]
      cases s <;> simp [sg]
    have hV0 : V = 0 := by
      rw [hv0] at hV
      cases s <;> simp only [sg, if_true, Bool.false_eq_true, if_false] at hV <;> grind
    subst hV0
    -- 2^-1025 is at most the number, which is at most 2^-53 of it and 2^-1075
    have p1 := p2_pos (1024 : Int)
    have t1 : (2 : Rat) ^ (-1075 : Int) * 2 ^ (1024 : Int) = 2 ^ (-51 : Int) := by rw [← p2_add]; congr 1
    have t2 : (2 : Rat) ^ (-51 : Int) = 1 / 2251799813685248 := by decide +kernel
    have t3 : (2 : Rat) ^ (-53 : Int) = 1 / 9007199254740992 := by decide +kernel
    have m1 := Rat.mul_le_mul_of_nonneg_right h2 (Rat.le_of_lt p1)
    rw [t2] at t1
    rw [t3] at m1
    generalize (2 : Rat) ^ (1024 : Int) = G at *
    generalize (2 : Rat) ^ (-1075 : Int) = T at *
    generalize (mag : Rat) * 2 ^ place = M at *
    clear hq q1 q2 hneg hr hv0 hV e hb h2 hz hd
    have e3 : (0 + M * (1 / 9007199254740992) + T) * G = M * G * (1 / 9007199254740992) + T * G := by grind
    rw [e3, t1] at m1
    generalize M * G = Y at *
    clear e3 hR p1
    grind
  · right
    exact hi
end Go.Proofs.YtiblmojdjnfoaaaGreat.Fl

namespace Go.Proofs.YtiblmojdjnfoaaaGreat.Fl

theorem mul_nan_of {q i : Nat} {t : Bool} (hq : isN q = false) (hi : (∃ n j, F64.read i = .number t n j ∧ n ≠ 0) ∨ F64.read i = .infinity t) (h : isN (fmul q i) = true) : F64.read i = .infinity t ∧ ∃ s e, F64.read q = .number s 0 e := by
  cases hr : F64.read q with
  | nan s f => unfold isN at hq; rw [hr] at hq; cases hq
  | infinity s =>
    exfalso
    rcases hi with ⟨n, j, hi, hn⟩ | hi
    · rw [not_nan_inf (mul_inf_num hr hi hn)] at h; cases h
    · rw [not_nan_inf (mul_inf_inf hr hi)] at h; cases h
  | number s m e =>
    rcases hi with ⟨n, j, hi, hn⟩ | hi
    · exfalso
      obtain ⟨a, b, c, he, _⟩ := mul_near (x := q) (y := i) ⟨_, _, _, hr⟩ ⟨_, _, _, hi⟩
      rw [he, nearest_not_nan] at h
      cases h
    · refine ⟨hi, ?_⟩
      by_cases hm : m = 0
      · subst hm; exact ⟨s, e, rfl⟩
      · exfalso
        rw [not_nan_inf (mul_num_inf hr hi hm)] at h
        cases h

theorem val_of_zero {q : Nat} {s : Bool} {e : Int} (h : F64.read q = .number s 0 e) : val q = 0 := by
  unfold val
  rw [h, dval_number]
  have : ((0 : Nat) : Rat) * 2 ^ e = 0 := Rat.zero_mul _
  rw [this]
  cases s <;> simp [sg]

/-- The lesser one's product, where the greater one's is none. -/
theorem cand_low {p q i : Nat} {t : Bool} (hpq : leB p q = true) (hi : (∃ n j, F64.read i = .number t n j ∧ n ≠ 0) ∨ F64.read i = .infinity t) (hq : isN (fmul q i) = true) (hp : isN (fmul p i) = false) : F64.read (fmul p i) = .infinity (!t) := by
  obtain ⟨np, nq⟩ := leB_not_nan hpq
  obtain ⟨hI, s, e, hz⟩ := mul_nan_of nq hi hq
  cases hr : F64.read p with
  | nan s f => unfold isN at np; rw [hr] at np; cases np
  | infinity u =>
    have hu : u = true := by
      cases u
      · exfalso
        unfold leB ford Ieee.Format.order at hpq
        rw [hr, hz] at hpq
        cases hpq
      · rfl
    subst hu
    rw [mul_inf_inf hr hI]
    cases t <;> rfl
  | number u m e2 =>
    have hm : m ≠ 0 := by
      intro h0
      subst h0
      rw [mul_zero_inf hr hI] at hp
      cases hp
    have hs := num_sign hr hm
    rw [leB_val ⟨_, _, _, hr⟩ ⟨_, _, _, hz⟩, val_of_zero hz] at hpq
    have hle := of_decide_eq_true hpq
    have hu : u = true := by
      cases u
      · exfalso
        simp only [Bool.false_eq_true, if_false] at hs
        grind
      · rfl
    subst hu
    rw [mul_num_inf hr hI hm]
    cases t <;> rfl
theorem cand_high {p q i : Nat} {t : Bool} (hpq : leB p q = true) (hi : (∃ n j, F64.read i = .number t n j ∧ n ≠ 0) ∨ F64.read i = .infinity t) (hp : isN (fmul p i) = true) (hq : isN (fmul q i) = false) : F64.read (fmul q i) = .infinity t := by
  obtain ⟨np, nq⟩ := leB_not_nan hpq
  obtain ⟨hI, s, e, hz⟩ := mul_nan_of np hi hp
  cases hr : F64.read q with
  | nan s f => unfold isN at nq; rw [hr] at nq; cases nq
  | infinity u =>
    have hu : u = false := by
      cases u
      · rfl
      · exfalso
        unfold leB ford Ieee.Format.order at hpq
        rw [hr, hz] at hpq
        cases hpq
    subst hu
    rw [mul_inf_inf hr hI]
    cases t <;> rfl
  | number u m e2 =>
    have hm : m ≠ 0 := by
      intro h0
      subst h0
      rw [mul_zero_inf hr hI] at hq
      cases hq
    have hs := num_sign hr hm
    rw [leB_val ⟨_, _, _, hz⟩ ⟨_, _, _, hr⟩, val_of_zero hz] at hpq
    have hle := of_decide_eq_true hpq
    have hu : u = false := by
      cases u
      · rfl
      · exfalso
        simp only [if_true] at hs
        grind
    subst hu
    rw [mul_num_inf hr hI hm]
    cases t <;> rfl

/-- near and far behind one axis of which the ray's part is not 0. -/
def thrF (o d lo hi n f : Nat) : Nat × Nat :=
  let i := fdiv one d
  let x := fmul (fsub lo o) i
  let y := fmul (fsub hi o) i
  if ford i 0 == some .lt then (highF n y, lowF f x) else (highF n x, lowF f y)

theorem inv_sign {i : Nat} {t : Bool} (hi : (∃ n j, F64.read i = .number t n j ∧ n ≠ 0) ∨ F64.read i = .infinity t) : (ford i 0 == some .lt) = t := by
  rcases hi with ⟨n, j, hi, hn⟩ | hi
  · rw [lt_val ⟨_, _, _, hi⟩ num_zero, val_zero]
    have := num_sign hi hn
    cases t
    · simp only [Bool.false_eq_true, if_false] at this
      exact decide_eq_false (by grind)
    · simp only [if_true] at this
      exact decide_eq_true this
  · unfold ford Ieee.Format.order
    rw [hi, read_zero]
    cases t <;> rfl

theorem thr_num {o d lo hi n f : Nat} (hn : isN n = false) (hf : isN f = false) : isN (thrF o d lo hi n f).1 = false ∧ isN (thrF o d lo hi n f).2 = false := by
  unfold thrF
  dsimp only
  split
  · exact ⟨high_num hn, low_num hf⟩
  · exact ⟨high_num hn, low_num hf⟩

/-- ONE AXIS: a greater box is entered no later, and left no earlier. -/
theorem thr_within {o d lo hi lo2 hi2 n f n2 f2 : Nat} (ho : Num o) (hd : Num d) (hz : val d ≠ 0) (h1 : Num lo) (h2 : Num hi) (h3 : Num lo2) (h4 : Num hi2) (hl : val lo2 ≤ val lo) (hh : val hi ≤ val hi2)
    (hn : leB n2 n = true) (hf : leB f f2 = true) : leB (thrF o d lo2 hi2 n2 f2).1 (thrF o d lo hi n f).1 = true ∧ leB (thrF o d lo hi n f).2 (thrF o d lo2 hi2 n2 f2).2 = true := by
  obtain ⟨t, _, hi'⟩ := inv_read hd hz
  unfold thrF
  dsimp only
  rw [inv_sign hi']
  have dl := sub_mono h3 ho h1 ho (show val lo2 - val o ≤ val lo - val o by grind)
  have dh := sub_mono h2 ho h4 ho (show val hi - val o ≤ val hi2 - val o by grind)
  generalize fdiv one d = i at *
  generalize fsub lo o = p at *
  generalize fsub lo2 o = p2 at *
  generalize fsub hi o = q at *
  generalize fsub hi2 o = q2 at *
  obtain ⟨nn2, _⟩ := leB_not_nan hn
  obtain ⟨_, nf2⟩ := leB_not_nan hf
  cases t
  · simp only [Bool.false_eq_true, if_false]
    constructor
    · refine high_mono hn ?_
      cases e2 : isN (fmul p2 i)
      · right
        cases e1 : isN (fmul p i)
        · left
          have := mul_order dl hi' e2 e1
          simpa using this
        · right
          exact leB_low (cand_low dl hi' e1 e2) nn2
      · left; rfl
    · refine low_mono hf ?_
      cases e2 : isN (fmul q2 i)
      · right
        cases e1 : isN (fmul q i)
        · left
          have := mul_order dh hi' e1 e2
          simpa using this
        · right
          exact leB_high (cand_high dh hi' e1 e2) nf2
      · left; rfl
  · simp only [if_true]
    constructor
    · refine high_mono hn ?_
      cases e2 : isN (fmul q2 i)
      · right
        cases e1 : isN (fmul q i)
        · left
          have := mul_order dh hi' e1 e2
          simpa using this
        · right
          exact leB_low (cand_high dh hi' e1 e2) nn2
      · left; rfl
    · refine low_mono hf ?_
      cases e2 : isN (fmul p2 i)
      · right
        cases e1 : isN (fmul p i)
        · left
          have := mul_order dl hi' e2 e1
          simpa using this
        · right
          exact leB_high (cand_low dl hi' e1 e2) nf2
      · left; rfl
end Go.Proofs.YtiblmojdjnfoaaaGreat.Fl

namespace Go.Proofs.YtiblmojdjnfoaaaGreat.Fl

/-- One axis. -/
def axF (o d lo hi : Nat) (s : Nat × Nat) : Option (Nat × Nat) :=
  if ford d 0 == some .eq then (if leB lo o && leB o hi then some s else none) else some (thrF o d lo hi s.1 s.2)
/-- near and far behind k axes. -/
def stF (o d lo hi : Nat → Nat) : Nat → Option (Nat × Nat)
  | 0 => some (0, 9218868437227405312)
  | k + 1 => (stF o d lo hi k).bind (axF (o k) (d k) (lo k) (hi k))
def finF (s : Nat × Nat) : Option (Nat × Nat) := if leB s.1 s.2 then some s else none
def throughF (o d lo hi : Nat → Nat) : Option (Nat × Nat) := (stF o d lo hi 3).bind finF

/-- A float that is a number is one. -/
theorem leB_of_val {x y : Nat} (hx : Num x) (hy : Num y) (h : val x ≤ val y) : leB x y = true := by
  rw [leB_val hx hy]; exact decide_eq_true h
theorem val_of_leB {x y : Nat} (hx : Num x) (hy : Num y) (h : leB x y = true) : val x ≤ val y := by
  rw [leB_val hx hy] at h; exact of_decide_eq_true h

theorem ax_within {o d lo hi lo2 hi2 : Nat} {s s2 r : Nat × Nat} (ho : Num o) (hd : Num d) (h1 : Num lo) (h2 : Num hi) (h3 : Num lo2) (h4 : Num hi2) (hl : val lo2 ≤ val lo) (hh : val hi ≤ val hi2)
    (hn : leB s2.1 s.1 = true) (hf : leB s.2 s2.2 = true) (h : axF o d lo hi s = some r) : ∃ r2, axF o d lo2 hi2 s2 = some r2 ∧ leB r2.1 r.1 = true ∧ leB r.2 r2.2 = true := by
  unfold axF at h ⊢
  cases hz : ford d 0 == some .eq
  · rw [hz] at h
    simp only [Bool.false_eq_true, if_false, Option.some.injEq] at h ⊢
    subst h
    have hz0 : val d ≠ 0 := by
      intro h0
      obtain ⟨a, b, e, _, heq⟩ := ord_val hd num_zero
      rw [val_zero] at heq
      have := heq.2 h0
      subst this
      rw [e] at hz
      simp at hz
    exact ⟨_, rfl, thr_within ho hd hz0 h1 h2 h3 h4 hl hh hn hf⟩
  · rw [hz] at h
    simp only [if_true] at h ⊢
    cases hc : leB lo o && leB o hi
    · rw [hc] at h; simp at h
    · rw [hc] at h
      simp only [if_true, Option.some.injEq] at h
      subst h
      simp only [Bool.and_eq_true] at hc
      have a1 := val_of_leB h1 ho hc.1
      have a2 := val_of_leB ho h2 hc.2
      have e1 := leB_of_val h3 ho (Rat.le_trans hl a1)
      have e2 := leB_of_val ho h4 (Rat.le_trans a2 hh)
      rw [e1, e2]
      exact ⟨s2, rfl, hn, hf⟩

theorem num_pinf : isN 9218868437227405312 = false := by decide +kernel
theorem num_nought : isN 0 = false := by decide +kernel

theorem st_within {o d lo hi lo2 hi2 : Nat → Nat} (ho : ∀ k, Num (o k)) (hd : ∀ k, Num (d k)) (h1 : ∀ k, Num (lo k)) (h2 : ∀ k, Num (hi k)) (h3 : ∀ k, Num (lo2 k)) (h4 : ∀ k, Num (hi2 k)) (hl : ∀ k, val (lo2 k) ≤ val (lo k)) (hh : ∀ k, val (hi k) ≤ val (hi2 k)) :
    ∀ k r, stF o d lo hi k = some r → ∃ r2, stF o d lo2 hi2 k = some r2 ∧ leB r2.1 r.1 = true ∧ leB r.2 r2.2 = true := by
  intro k
  induction k with
  | zero =>
    intro r h
    simp only [stF, Option.some.injEq] at h
    subst h
    exact ⟨_, rfl, leB_refl num_nought, leB_refl num_pinf⟩
  | succ k ih =>
    intro r h
    simp only [stF] at h ⊢
    cases hs : stF o d lo hi k with
    | none => rw [hs] at h; cases h
    | some s =>
      rw [hs] at h
      obtain ⟨s2, e2, hn, hf⟩ := ih s hs
      rw [e2]
      exact ax_within (ho k) (hd k) (h1 k) (h2 k) (h3 k) (h4 k) (hl k) (hh k) hn hf h

theorem through_within {o d lo hi lo2 hi2 : Nat → Nat} (ho : ∀ k, Num (o k)) (hd : ∀ k, Num (d k)) (h1 : ∀ k, Num (lo k)) (h2 : ∀ k, Num (hi k)) (h3 : ∀ k, Num (lo2 k)) (h4 : ∀ k, Num (hi2 k)) (hl : ∀ k, val (lo2 k) ≤ val (lo k)) (hh : ∀ k, val (hi k) ≤ val (hi2 k))
    {r : Nat × Nat} (h : throughF o d lo hi = some r) : ∃ r2, throughF o d lo2 hi2 = some r2 ∧ leB r2.1 r.1 = true ∧ leB r.2 r2.2 = true := by
  unfold throughF at h ⊢
  cases hs : stF o d lo hi 3 with
  | none => rw [hs] at h; cases h
  | some s =>
    rw [hs] at h
    obtain ⟨s2, e2, hn, hf⟩ := st_within ho hd h1 h2 h3 h4 hl hh 3 s hs
    rw [e2]
    simp only [Option.bind_some, finF] at h ⊢
    cases hc : leB s.1 s.2
    · rw [hc] at h; simp at h
    · rw [hc] at h
      simp only [if_true, Option.some.injEq] at h
      subst h
      rw [leB_trans hn (leB_trans hc hf)]
      exact ⟨s2, rfl, hn, hf⟩
end Go.Proofs.YtiblmojdjnfoaaaGreat.Fl

namespace Go.Proofs.YtiblmojdjnfoaaaGreat
open Go.RowKit Fl

set_option maxRecDepth 100000 in
set_option maxHeartbeats 1000000 in
theorem ends_any (o d : Nat) (w : World) : Calls Tryz.prog 85 #[.float .f64 o, .float .f64 d] w fun e w' => ∃ i, Eqv i (fdiv one d) ∧ e = .returned (.func (.func 108) #[] #[.pointer (some ⟨w.heap.size, 0, none⟩), .pointer (some ⟨w.heap.size + 1, 0, none⟩)]) ∧
    Below w.heap.size w w' ∧ Lp.Bk w' w.heap.size #[.float .f64 o] 23 ∧ Lp.Bk w' (w.heap.size + 1) #[.float .f64 i] 23 := by
  go_enter Tryz.func85, Tryz.ntmps85
  go_wp2_with fail
  refine upon_div (Sm.refl _) (Sm.refl _) ?_
  intro i n hi
  go_wp2_with fail
  go_ret
  refine ⟨i, hi, rfl, ?_, ?_, ?_⟩
  · exact Below.alloc (below_dr (Below.alloc (Below.refl _ _) (Nat.le_refl _) _) _) (by simp) _
  · exact Lp.Bk.alo (Lp.Bk.dr (Lp.Bk.al _ _ _) n) _
  · exact Lp.Bk.al1 w _ _ _

/-- The nearer end's product, the farther one's. -/
def nearE (o i lo hi : Nat) : Nat := if ford i 0 == some .lt then fmul (fsub hi o) i else fmul (fsub lo o) i
def farE (o i lo hi : Nat) : Nat := if ford i 0 == some .lt then fmul (fsub lo o) i else fmul (fsub hi o) i
theorem thrF_eq (o d lo hi n f : Nat) : thrF o d lo hi n f = (highF n (nearE o (fdiv one d) lo hi), lowF f (farE o (fdiv one d) lo hi)) := by
  unfold thrF nearE farE
  dsimp only
  split <;> rfl

def isPair (x y : Nat) (v : Value) : Prop := ∃ r s, v = .tuple #[.float .f64 r, .float .f64 s] ∧ Eqv r x ∧ Eqv s y

set_option maxRecDepth 100000 in
set_option maxHeartbeats 1000000 in
theorem ends1_any (o i I lo hi bo bi : Nat) (hi0 : Sm i I) (w : World) (BO : Lp.Bk w bo #[.float .f64 o] 23) (BI : Lp.Bk w bi #[.float .f64 i] 23) :
    Ret Tryz.prog 108 #[.float .f64 lo, .float .f64 hi, .pointer (some ⟨bo, 0, none⟩), .pointer (some ⟨bi, 0, none⟩)] w (isPair (nearE o I lo hi) (farE o I lo hi)) := by
  unfold Ret
  have hs : (ford i 0 == some .lt) = (ford I 0 == some .lt) := by rw [ford_congr hi0 (Sm.refl 0)]
  have hp : (FloatKind.f64.format.order i 0 == some .lt) = (ford i 0 == some .lt) := rfl
  rw [hs] at hp
  unfold nearE farE
  generalize (ford I 0 == some .lt) = p at hp ⊢
  clear hs
  have HB : Cl w w := Below.refl _ _
  cases p <;>
  · go_enter Tryz.func108, Tryz.ntmps108
    go_wp2_with fail
    apply Lp.wp_region_loose _ _ 12 (by kernel_rfl) (by kernel_rfl) (by kernel_rfl) (Below.refl _ _)
    apply Lp.facts
    · intro w1 hw
      exact And.intro (BO.cl hw).cell ((BI.cl hw).cell)
    intro HF
    iterate 2 (
      apply Lp.one ?_ rfl
      · intro w hw
        obtain ⟨k0, k1⟩ := HF.out _ hw
        go_simp
        exact rfl
      intro K hK
      go_simp
      refine hK.out _ ?_
      clear hK K)
    apply Lp.any rfl
    · intro w hw
      go_simp
      exact Lp.sub (by first | exact Eqv.sm (by assumption) | exact Sm.refl _) (by first | exact Eqv.sm (by assumption) | exact Sm.refl _)
    intro K hK
    rintro v ⟨rq0, rfl, hq0⟩
    go_simp
    refine hK.out _ ?_
    clear hK K
    iterate 1 (
      apply Lp.one ?_ rfl
      · intro w hw
        obtain ⟨k0, k1⟩ := HF.out _ hw
        go_simp
        exact rfl
      intro K hK
      go_simp
      refine hK.out _ ?_
      clear hK K)
    apply Lp.any rfl
    · intro w hw
      go_simp
      exact Lp.mul (by first | exact Eqv.sm (by assumption) | exact Sm.refl _) hi0
    intro K hK
    rintro v ⟨rq1, rfl, hq1⟩
    go_simp
    refine hK.out _ ?_
    clear hK K
    iterate 2 (
      apply Lp.one ?_ rfl
      · intro w hw
        obtain ⟨k0, k1⟩ := HF.out _ hw
        go_simp
        exact rfl
      intro K hK
      go_simp
      refine hK.out _ ?_
      clear hK K)
    apply Lp.any rfl
    · intro w hw
      go_simp
      exact Lp.sub (by first | exact Eqv.sm (by assumption) | exact Sm.refl _) (by first | exact Eqv.sm (by assumption) | exact Sm.refl _)
    intro K hK
    rintro v ⟨rq2, rfl, hq2⟩
    go_simp
    refine hK.out _ ?_
    clear hK K
    iterate 1 (
      apply Lp.one ?_ rfl
      · intro w hw
        obtain ⟨k0, k1⟩ := HF.out _ hw
        go_simp
        exact rfl
      intro K hK
      go_simp
      refine hK.out _ ?_
      clear hK K)
    apply Lp.any rfl
    · intro w hw
      go_simp
      exact Lp.mul (by first | exact Eqv.sm (by assumption) | exact Sm.refl _) hi0
    intro K hK
    rintro v ⟨rq3, rfl, hq3⟩
    go_simp
    refine hK.out _ ?_
    clear hK K
    iterate 2 (
      apply Lp.one ?_ rfl
      · intro w hw
        obtain ⟨k0, k1⟩ := HF.out _ hw
        go_simp
        exact rfl
      intro K hK
      go_simp
      refine hK.out _ ?_
      clear hK K)
    rotate_left
    exact []
    intro v1 hm
    replace BO := BO.keep hm
    replace BI := BI.keep hm
    replace HB := HB.call hm
    clear hm
    have kO := BO.cell
    have kI := BI.cell
    go_wp2_with fail
    go_ret2
    exact ⟨_, rfl, ⟨_, _, rfl, by assumption, by assumption⟩, HB⟩

end Go.Proofs.YtiblmojdjnfoaaaGreat
