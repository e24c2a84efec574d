/- A region that draws its order, in one walk in the order of the text, where an operation may lean on what those told that it waits for (a block that another one made). Over any relation of worlds. A region that draws its order and stores a result while others are told: Lw over worlds that may turn one block, to what it is told to hold. -/
import Derived.Test.YtagehemimlakpaaG6
namespace Go.Proofs.Ytagehemimlakpaa.Lw
open Go.RowKit Fl Lp

/-- What an operation leaves: a value of V, in a world to which R leads. -/
def Upon (P : Program) (R : World → World → Prop) (w0 : World) (V : Value → World → Prop) : Result Next → Prop
  | .ok (.value u) w' => V u w' ∧ R w0 w'
  | .ok .skip w' => V undef w' ∧ R w0 w'
  | .ok (.enter f args) w1 => Calls P f args w1 fun e w' => ∃ v, e = .returned v ∧ V v w' ∧ R w0 w'
  | _ => False

theorem Upon.some {P : Program} {R : World → World → Prop} {w0 : World} {V : Value → World → Prop} {r : Result Next} (h : Upon P R w0 V r) : ∃ v w, V v w ∧ R w0 w := by
  unfold Upon at h
  split at h
  · exact ⟨_, _, h⟩
  · exact ⟨_, _, h⟩
  · obtain ⟨_, _, _, ⟨v, _, hv, hr⟩, _⟩ := h []
    exact ⟨v, _, hv, hr⟩
  · exact h.elim

/-- What is told of a world stays true along R. -/
def Along (R : World → World → Prop) (G : World → Prop) : Prop := ∀ w w', R w w' → G w → G w'

abbrev Ev := Nat → World → Prop
def upd (E : Ev) (i : Nat) (F : World → Prop) : Ev := fun p w => E p w ∧ (p = i → F w)
theorem upd_comm (E : Ev) (i j : Nat) (F G : World → Prop) : upd (upd E i F) j G = upd (upd E j G) i F := by
  funext p w
  exact propext ⟨fun h => ⟨⟨h.1.1, h.2⟩, h.1.2⟩, fun h => ⟨⟨h.1.1, h.2⟩, h.1.2⟩⟩
theorem upd_at {E : Ev} {i : Nat} {F : World → Prop} {w : World} (h : upd E i F i w) : F w := h.2 rfl
/-- All that is known. -/
def Full (C : World → Prop) (E : Ev) (w : World) : Prop := C w ∧ ∀ p, E p w

section
variable {P : Program} {R : World → World → Prop} {ops : Array Oper} {C : World → Prop} {md : Region.Mode} {Q : Exit → Act → World → Prop}

/-- What operation i may lean on. -/
def Cn (md : Region.Mode) (ops : Array Oper) (C : World → Prop) (E : Ev) (i : Nat) (w : World) : Prop := C w ∧ ∀ p, waits md ops 5 i p = true → E p w
theorem Full.cn {E : Ev} {w : World} (h : Full C E w) (i : Nat) : Cn md ops C E i w := ⟨h.1, fun p _ => h.2 p⟩
theorem Full.upd {E : Ev} {w : World} (h : Full C E w) {i : Nat} {F : World → Prop} (hf : F w) : Full C (upd E i F) w := ⟨h.1, fun p => ⟨h.2 p, fun _ => hf⟩⟩
theorem Full.old {E : Ev} {w : World} {i : Nat} {F : World → Prop} (h : Full C (Lw.upd E i F) w) : Full C E w ∧ F w := ⟨⟨h.1, fun p => (h.2 p).1⟩, (h.2 i).2 rfl⟩
theorem cn_upd {E : Ev} {i j : Nat} {F : World → Prop} (h : waits md ops 5 j i = false) : Cn md ops C (upd E i F) j = Cn md ops C E j := by
  funext w
  refine propext ⟨fun k => ⟨k.1, fun p hp => (k.2 p hp).1⟩, fun k => ⟨k.1, fun p hp => ⟨k.2 p hp, fun e => ?_⟩⟩⟩
  subst e
  rw [h] at hp
  cases hp

/-- The values that an operation may leave in its slot, in every world of D. -/
def Gives (P : Program) (R : World → World → Prop) (ops : Array Oper) (D : World → Prop) (kd : Kd) (o : Oper) (a : Act) (S : Value → World → Prop) : Prop :=
  if Region.wanted o (yielded ops a.tmps) = true then
    match kd with
    | none => ∃ v, S = (fun u _ => u = v) ∧ ∀ w, D w → (execOp a.eval o).run P w = .ok (.value v) w
    | some V => S = V ∧ (∀ v, Along R (V v)) ∧ ∀ w, D w → Upon P R w V ((execOp a.eval o).run P w)
  else S = fun u _ => u = undef

theorem Gives.move {D : World → Prop} {kd : Kd} {o : Oper} {a a' : Act} {S : Value → World → Prop} (h : Gives P R ops D kd o a S) (he : execOp a'.eval o = execOp a.eval o)
    (hw : Region.wanted o (yielded ops a'.tmps) = Region.wanted o (yielded ops a.tmps)) : Gives P R ops D kd o a' S := by
  unfold Gives at *
  rw [he, hw]
  exact h

theorem Gives.one {D : World → Prop} {kd : Kd} {o : Oper} {a : Act} {S T : Value → World → Prop} {w : World} (hC : D w) (h : Gives P R ops D kd o a S) (k : Gives P R ops D kd o a T) : S = T := by
  unfold Gives at *
  split at h
  · rename_i hw
    rw [if_pos hw] at k
    cases kd with
    | none =>
      obtain ⟨v, rfl, hv⟩ := h
      obtain ⟨u, rfl, hu⟩ := k
      have e := (hv w hC).symm.trans (hu w hC)
      injection e with e1 _
      injection e1 with e2
      rw [e2]
    | some V => exact h.1.trans k.1.symm
  · rename_i hw
    rw [if_neg hw] at k
    exact h.trans k.symm

theorem Gives.ex {D : World → Prop} {kd : Kd} {o : Oper} {a : Act} {S : Value → World → Prop} {w : World} (hC : D w) (h : Gives P R ops D kd o a S) : ∃ v w', S v w' ∧ (w' = w ∨ R w w') := by
  unfold Gives at h
  split at h
  · cases kd with
    | none => obtain ⟨v, rfl, _⟩ := h; exact ⟨v, w, rfl, .inl rfl⟩
    | some V => obtain ⟨rfl, _, hv⟩ := h; obtain ⟨v, w', h1, h2⟩ := (hv w hC).some; exact ⟨v, w', h1, .inr h2⟩
  · exact ⟨undef, w, by rw [h], .inl rfl⟩

theorem Gives.stable {D : World → Prop} {kd : Kd} {o : Oper} {a : Act} {S : Value → World → Prop} (h : Gives P R ops D kd o a S) (v : Value) : Along R (S v) := by
  unfold Gives at h
  split at h
  · cases kd with
    | none => obtain ⟨v, rfl, _⟩ := h; exact fun _ _ _ h => h
    | some V => obtain ⟨rfl, hs, _⟩ := h; exact hs v
  · rw [h]; exact fun _ _ _ h => h

/-- One operation, number i. -/
def Step (P : Program) (R : World → World → Prop) (md : Region.Mode) (ops : Array Oper) (C : World → Prop) (kd : Kd) (i : Nat) (o : Oper) (K : Act → Ev → Prop) (a : Act) (E : Ev) : Prop :=
  ∃ S, Gives P R ops (Cn md ops C E i) kd o a S ∧ ∀ v, (∃ w, Full C E w ∧ S v w) → K (a.put o.dst v) (upd E i (S v))

theorem Full.to {E : Ev} (hC : Along R C) (hE : ∀ p, Along R (E p)) {w w' : World} (h : Full C E w) (hr : w' = w ∨ R w w') : Full C E w' := by
  rcases hr with rfl | hr
  · exact h
  · exact ⟨hC _ _ hr h.1, fun p => hE p _ _ hr (h.2 p)⟩

theorem wpOp_of_step {kd : Kd} {o : Oper} {K : Act → Ev → Prop} {a : Act} {E : Ev} {i : Nat} {w : World} {K' : Act → World → Prop} (hi : ops[i]? = some o) (hC : Along R C) (hE : ∀ p, Along R (E p)) (hw0 : Full C E w)
    (hK : ∀ a' E' w', (∀ p, Along R (E' p)) → Full C E' w' → K a' E' → K' a' w') (h : Step P R md ops C kd i o K a E) : wpOp P ops Q i K' a w := by
  obtain ⟨S, hS, hn⟩ := h
  have hst := hS.stable
  unfold Gives at hS
  unfold wpOp
  rw [hi]
  dsimp only
  have fin : ∀ v w', S v w' → Full C E w' → K' (a.put o.dst v) w' := fun v w' hv hg =>
    hK _ _ _ (fun p x y hr hx => ⟨hE p x y hr hx.1, fun e => hst v x y hr (hx.2 e)⟩) (hg.upd hv) (hn v ⟨w', hg, hv⟩)
  split at hS
  · rename_i hw
    rw [if_pos hw]
    refine .inl ?_
    unfold Oper.wp
    cases kd with
    | none =>
      obtain ⟨v, rfl, hv⟩ := hS
      rw [hv w (hw0.cn i)]
      exact fin v w rfl hw0
    | some V =>
      obtain ⟨rfl, _, hv⟩ := hS
      have h1 := hv w (hw0.cn i)
      generalize (execOp a.eval o).run P w = r at h1
      unfold Upon at h1
      split at h1
      · exact fin _ _ h1.1 (hw0.to hC hE (.inr h1.2))
      · exact fin _ _ h1.1 (hw0.to hC hE (.inr h1.2))
      · refine Calls.mono h1 fun e w'' ⟨v, he, hV, hb⟩ => ?_
        subst he
        exact fin _ _ hV (hw0.to hC hE (.inr hb))
      · exact h1.elim
  · rename_i hw
    rw [if_neg hw]
    exact fin undef w (by rw [hS]) hw0

/-- Whatever order is picked, till the first m operations are done; then F. -/
def anyL (P : Program) (R : World → World → Prop) (md : Region.Mode) (ops : Array Oper) (C : World → Prop) (kinds : Nat → Kd) (m : Nat) (F : Act → Ev → Prop) : Nat → Array Bool → Act → Ev → Prop
  | 0, listed, a, E => (∀ k, k < m → listed.getD k true = true) ∧ (∀ k, m ≤ k → k < ops.size → listed.getD k true = false) ∧ F a E
  | fuel + 1, listed, a, E => Region.ready md ops listed ≠ [] ∧ ∀ i ∈ Region.ready md ops listed, ∃ o, ops[i]? = some o ∧ Step P R md ops C (kinds i) i o (anyL P R md ops C kinds m F fuel (listed.setIfInBounds i true)) a E

theorem not_waits {listed : Array Bool} (hc : Closed md ops listed) {i j : Nat} (hi : i ∈ Region.ready md ops listed) (hj : listed.getD j true = false) : waits md ops 5 i j = false := by
  cases h : waits md ops 5 i j
  · rfl
  · exfalso
    obtain ⟨_, o, ho, hall⟩ := mem_ready.1 hi
    have := getD_true_of (waits_spec hc 5 i h fun o' ho' => by rw [ho] at ho'; cases ho'; exact hall)
    rw [hj] at this
    cases this

/-- An operation that may come up now may be taken first. -/
theorem anyL_first {kinds : Nat → Kd} {m : Nat} {F : Act → Ev → Prop} (hC : Along R C) (hL : tailWaits md ops m = true) {i : Nat} (him : i < m) {oi : Oper} (hi : ops[i]? = some oi)
    (hsel : ∀ (j : Nat) (o : Oper) cs b, ops[j]? = some o → o.op ≠ .select cs b) {S : Value → World → Prop} :
    ∀ (fuel : Nat) (listed : Array Bool) (a : Act) (E : Ev), (∀ p, Along R (E p)) → (∃ w, Full C E w) → Closed md ops listed →
      (∀ j oj, ops[j]? = some oj → j ≠ i → listed.getD j true = false → (∀ e ∈ oj.after, Region.binds md e = true → e.on ≠ i) → oi.apart ops oj = true) →
      i ∈ Region.ready md ops listed → Gives P R ops (Cn md ops C E i) (kinds i) oi a S →
      (∀ v, (∃ w, Full C E w ∧ S v w) → anyL P R md ops C kinds m F fuel (listed.setIfInBounds i true) (a.put oi.dst v) (upd E i (S v))) → anyL P R md ops C kinds m F (fuel + 1) listed a E := by
  have small : ∀ (listed : Array Bool) (j : Nat), Closed md ops listed → i ∈ Region.ready md ops listed → j ∈ Region.ready md ops listed → j < m := by
    intro listed j hc hr hj
    rcases Nat.lt_or_ge j m with h | h
    · exact h
    · have h3 := getD_true_of (tailWaits_spec hL hc h hj i (by omega) (.inl him))
      rw [(mem_ready.1 hr).1] at h3
      cases h3
  intro fuel
  induction fuel with
  | zero =>
    intro listed a E hE hw hc _ hr hG H
    refine ⟨fun h => (by rw [h] at hr; cases hr), fun j hj => ?_⟩
    by_cases hji : j = i
    · subst hji; exact ⟨oi, hi, S, hG, H⟩
    · obtain ⟨w, hw⟩ := hw
      obtain ⟨v, w', hv, hr'⟩ := hG.ex (hw.cn i)
      have h1 := (H v ⟨w', hw.to hC hE hr', hv⟩).1 j (small listed j hc hr hj)
      rw [getD_set_ne true (Ne.symm hji), (mem_ready.1 hj).1] at h1
      cases h1
  | succ fuel ih =>
    intro listed a E hE hw hc hfree hr hG H
    refine ⟨fun h => (by rw [h] at hr; cases hr), fun j hj => ?_⟩
    by_cases hji : j = i
    · subst hji; exact ⟨oi, hi, S, hG, H⟩
    · have hj0 := hj
      obtain ⟨hjun, oj, hoj, hall⟩ := mem_ready.1 hj
      have hnot : ∀ e ∈ oj.after, Region.binds md e = true → e.on ≠ i := by
        intro e he hb heq
        have h1 := getD_true_of (hall e he hb)
        rw [heq, (mem_ready.1 hr).1] at h1
        cases h1
      obtain ⟨h1, h2, h3⟩ := Oper.apart_spec (hfree j oj hoj hji hjun hnot)
      have hsi := fun cs b => hsel i oi cs b hi
      have hsj := fun cs b => hsel j oj cs b hoj
      have wij : waits md ops 5 i j = false := not_waits hc hr hjun
      have wji : waits md ops 5 j i = false := not_waits hc hj0 (mem_ready.1 hr).1
      have got : ∀ v, (∃ w, Full C E w ∧ S v w) → ∃ T, Gives P R ops (Cn md ops C E j) (kinds j) oj a T ∧ ∀ u, (∃ w, Full C (upd E i (S v)) w ∧ T u w) → anyL P R md ops C kinds m F fuel ((listed.setIfInBounds i true).setIfInBounds j true) ((a.put oi.dst v).put oj.dst u) (upd (upd E i (S v)) j (T u)) := by
        intro v hv
        obtain ⟨o', ho', T, hT, hn⟩ := (H v hv).2 j (ready_mono hj hji)
        rw [hoj] at ho'
        cases ho'
        rw [cn_upd wji] at hT
        exact ⟨T, hT.move (execOp_put oj hsj a oi.dst v h1).symm (wanted_put oj a oi.dst v h1).symm, hn⟩
      obtain ⟨w0, hw0⟩ := hw
      obtain ⟨v0, w1, hv0, hr0⟩ := hG.ex (hw0.cn i)
      obtain ⟨T, hT, _⟩ := got v0 ⟨w1, hw0.to hC hE hr0, hv0⟩
      have hTs := hT.stable
      refine ⟨oj, hoj, T, hT, fun u hu => ih (listed.setIfInBounds j true) (a.put oj.dst u) _ (fun p x y hr hx => ⟨hE p x y hr hx.1, fun e => hTs u x y hr (hx.2 e)⟩) ?_ (hc.set hj) ?_ (ready_mono hr (Ne.symm hji)) ?_ fun v hv => ?_⟩
      · obtain ⟨w, hf, ht⟩ := hu
        exact ⟨w, hf.upd ht⟩
      · intro k ok hk hki hun hno
        refine hfree k ok hk hki ?_ hno
        by_cases hjk : j = k
        · subst hjk; exact hjun
        · rw [getD_set_ne true hjk] at hun; exact hun
      · rw [cn_upd wij]
        exact hG.move (execOp_put oi hsi a oj.dst u h3) (wanted_put oi a oj.dst u h3)
      · obtain ⟨w, hf, hs⟩ := hv
        obtain ⟨hf0, ht⟩ := hf.old
        obtain ⟨T', hT', hn⟩ := got v ⟨w, hf0, hs⟩
        have e := Gives.one (hf0.cn j) hT hT'
        subst e
        have := hn u ⟨w, hf0.upd hs, ht⟩
        rw [Array.setIfInBounds_comm _ _ (Ne.symm hji)] at this
        rw [← Act.put_comm a v u h2, upd_comm]
        exact this

theorem wpAny_of_L {kinds : Nat → Kd} {m : Nat} {l : List Oper} (hC : Along R C) (hL : tailWaits md ops m = true) (hl : ∀ j, l[j]? = ops[m + j]?) (hn : m + l.length = ops.size) (hB : ∀ listed : Array Bool, listed.size = ops.size → (∀ k, k < m → listed.getD k true = true) → (∀ k, m ≤ k → k < ops.size → listed.getD k true = false) → Region.lexFrom md ops l.length m listed = true) :
    ∀ (fuel : Nat) (listed : Array Bool) (a : Act) (E : Ev) (w : World), Closed md ops listed → listed.size = ops.size → (∀ p, Along R (E p)) → Full C E w → anyL P R md ops C kinds m (fun a E => ∀ w, Full C E w → wpList P ops Q l a w) fuel listed a E → wpAny P md ops Q (l.length + fuel) listed a w := by
  intro fuel
  induction fuel with
  | zero =>
    intro listed a E w hc hsz hE hw h
    exact wpAny_tail hL l m listed a w hc (Nat.le_refl _) hl hn h.1 h.2.1 (hB listed hsz h.1 h.2.1) (h.2.2 w hw)
  | succ fuel ih =>
    intro listed a E w hc hsz hE hw h
    refine ⟨fun h0 => absurd h0 h.1, fun i hi => ?_⟩
    obtain ⟨o, ho, hs⟩ := h.2 i hi
    exact wpOp_of_step ho hC hE hw (fun a' E' w' hE' hw' hk => ih _ a' E' w' (hc.set hi) (by simp [hsz]) hE' hw' hk) hs

/-- The walk in the order of the text, a kind beside each operation; what is behind the first m is left to the plain walk. -/
def wpLoose (P : Program) (R : World → World → Prop) (md : Region.Mode) (ops : Array Oper) (C : World → Prop) (Q : Exit → Act → World → Prop) : List Kd → Nat → Nat → List Oper → Act → Ev → Prop
  | _, 0, _, l, a, E => ∀ w, Full C E w → wpList P ops Q l a w
  | _, _ + 1, _, [], _, _ => False
  | kds, m + 1, k, o :: l, a, E => Step P R md ops C (kds.headD none) k o (wpLoose P R md ops C Q kds.tail m (k + 1) l) a E

theorem Gives.anti {D D' : World → Prop} {kd : Kd} {o : Oper} {a : Act} {S : Value → World → Prop} (hd : ∀ w, D' w → D w) (h : Gives P R ops D kd o a S) : Gives P R ops D' kd o a S := by
  unfold Gives at *
  split at h
  · rename_i hw
    rw [if_pos hw]
    cases kd with
    | none => obtain ⟨v, e, hv⟩ := h; exact ⟨v, e, fun w hw => hv w (hd w hw)⟩
    | some V => exact ⟨h.1, h.2.1, fun w hw => h.2.2 w (hd w hw)⟩
  · rename_i hw
    rw [if_neg hw]
    exact h

theorem wpLoose_anti : ∀ (m : Nat) (kds : List Kd) (k : Nat) (l : List Oper) (a : Act) (E E' : Ev), (∀ p w, E' p w → E p w) → wpLoose P R md ops C Q kds m k l a E → wpLoose P R md ops C Q kds m k l a E'
  | 0, kds, k, l, a, E, E', hs, h => fun w hw => h w ⟨hw.1, fun p => hs p w (hw.2 p)⟩
  | _ + 1, _, _, [], _, _, _, _, h => h
  | m + 1, kds, k, o :: l, a, E, E', hs, h => by
    obtain ⟨S, hS, hn⟩ := h
    exact ⟨S, hS.anti fun w hw => ⟨hw.1, fun p hp => hs p w (hw.2 p hp)⟩, fun v ⟨w, hf, hv⟩ => wpLoose_anti m _ _ _ _ _ _ (fun p w hw => ⟨hs p w hw.1, hw.2⟩) (hn v ⟨w, ⟨hf.1, fun p => hs p w (hf.2 p)⟩, hv⟩)⟩

theorem anyL_lex {m : Nat} (hC : Along R C) (hs : Region.noSelect ops = true) (hL : tailWaits md ops m = true) {tl : List Oper} {kinds : Nat → Kd} (hlt : tl.length = ops.size - m) (hm : m ≤ ops.size) (htl : ∀ j, tl[j]? = ops[m + j]?) :
    ∀ (n : Nat) (l : List Oper) (kds : List Kd) (k : Nat) (listed : Array Bool) (a : Act) (E : Ev), (∀ p, Along R (E p)) → (∃ w, Full C E w) → Closed md ops listed → (∀ j, l[j]? = ops[k + j]?) → (∀ j, kinds (k + j) = kds.getD j none) → k + n = m → k + l.length = ops.size → listed.size = ops.size →
      (∀ j, j < k → listed.getD j true = true) → (∀ j, k ≤ j → j < ops.size → listed.getD j true = false) → Region.lexFrom md ops l.length k listed = true → wpLoose P R md ops C Q kds n k l a E →
      anyL P R md ops C kinds m (fun a E => ∀ w, Full C E w → wpList P ops Q tl a w) n listed a E
  | 0, l, kds, k, listed, a, E, hE, hw, hc, hl, hk, hn, hll, hsz, hd, hu, hB, h => by
    have hkm : k = m := by omega
    subst hkm
    have : l = tl := by
      refine List.ext_getElem? fun j => ?_
      rw [hl j, htl j]
    subst this
    exact ⟨hd, hu, h⟩
  | n + 1, [], kds, k, listed, a, E, hE, hw, hc, hl, hk, hn, hll, hsz, hd, hu, hB, h => h.elim
  | n + 1, o :: l, kds, k, listed, a, E, hE, hw, hc, hl, hk, hn, hll, hsz, hd, hu, hB, h => by
    have h0 : ops[k]? = some o := by simpa using (hl 0).symm
    simp only [List.length_cons, Region.lexFrom, Bool.and_eq_true] at hB
    obtain ⟨⟨hr, hf⟩, hB'⟩ := hB
    obtain ⟨S, hS, hK⟩ := h
    have e0 : kinds k = kds.headD none := by have := hk 0; cases kds <;> simpa using this
    rw [← e0] at hS
    have hr' : k ∈ Region.ready md ops listed := by simpa using hr
    have hlt' := lt_of_ready hr'
    have hSs := hS.stable
    refine anyL_first hC hL (by omega) h0 (Region.noSelect_spec hs) _ listed a E hE hw hc (Region.free_spec h0 hf) hr' hS fun v hv => ?_
    refine anyL_lex hC hs hL hlt hm htl n l kds.tail (k + 1) _ _ _ (fun p x y hr hx => ⟨hE p x y hr hx.1, fun e => hSs v x y hr (hx.2 e)⟩) (hv.elim fun w h => ⟨w, h.1.upd h.2⟩) (hc.set hr') (fun j => ?_) (fun j => ?_) (by omega) (by simp at hll; omega) (by simp [hsz]) (fun j hj => ?_) (fun j hj hjs => ?_) hB' (hK v hv)
    · have := hl (j + 1); simpa [Nat.add_assoc, Nat.add_comm 1 j] using this
    · have := hk (j + 1)
      rw [Nat.add_assoc, Nat.add_comm 1 j, this]
      cases kds <;> simp
    · by_cases hjk : k = j
      · subst hjk
        simp [hsz, hlt']
      · rw [getD_set_ne true hjk]
        exact hd j (by omega)
    · rw [getD_set_ne true (by omega)]; exact hu j (by omega) hjs

/-- The law: a region that draws, written out; its first m operations are walked so. -/
theorem wp_region_loose {id : Nat} {a : Act} {w : World} {l : List Oper} (R : World → World → Prop) (C : World → Prop) (kds : List Kd) (m : Nat) (hm : P.follows .mixedOrders = true) (hB : Region.lexB .any l.toArray = true)
    (hL : tailWaits .any l.toArray m = true) (hS : Along R C) (hC : C w.drew) (h : wpLoose P R .any l.toArray C Q kds m 0 l a (fun _ _ => True)) : (Code.region id l.toArray true).wp P Q a w := by
  simp only [Region.lexB, Bool.and_eq_true] at hB
  have hms : m ≤ l.toArray.size := by have := hL; simp only [tailWaits, Bool.and_eq_true] at this; exact of_decide_eq_true this.1
  refine wp_region_any hm ?_
  have e1 : ∀ j, (Array.replicate l.toArray.size false).getD j true = decide (l.toArray.size ≤ j) := by
    intro j
    rcases Nat.lt_or_ge j l.toArray.size with h' | h'
    · have h2 : ¬ l.toArray.size ≤ j := by omega
      rw [decide_eq_false h2]
      simp at h'
      simp [h']
    · rw [decide_eq_true h']
      simp at h'
      simp [h']
  have hd0 : ∀ j, j < 0 → (Array.replicate l.toArray.size false).getD j true = true := fun j hj => absurd hj (Nat.not_lt_zero j)
  have hu0 : ∀ j, 0 ≤ j → j < l.toArray.size → (Array.replicate l.toArray.size false).getD j true = false := fun j _ hj => by rw [e1 j]; exact decide_eq_false (by omega)
  have htl : ∀ j, (l.drop m)[j]? = l.toArray[m + j]? := fun j => by simp
  have hlen : (l.drop m).length = l.toArray.size - m := by simp
  have hF : Full C (fun _ _ => True) w.drew := ⟨hC, fun _ => trivial⟩
  have hE : ∀ p : Nat, Along R ((fun _ _ => True : Ev) p) := fun _ _ _ _ _ => trivial
  have h1 := anyL_lex (P := P) (R := R) (Q := Q) (md := .any) (kinds := fun j => kds.getD j none) hS hB.1 hL (tl := l.drop m) hlen hms htl m l kds 0 (Array.replicate l.toArray.size false) a _ hE ⟨_, hF⟩ (Closed.none _) (by simp) (by simp) (by omega) (by simp) (by simp) hd0 hu0 (by simpa using hB.2) h
  have h2 := wpAny_of_L (P := P) (R := R) (Q := Q) (C := C) hS hL htl (by rw [hlen]; omega) (fun listed hsz hd hu => by
      have := lexFrom_at (md := .any) m 0 (Array.replicate l.toArray.size false) l.toArray.size (by simp) hms (by simpa using hB.2) hd0 hu0 (by omega) listed hsz (by simpa using hd) (by simpa using hu)
      rw [hlen]
      simpa using this) m _ _ _ _ (Closed.none _) (by simp) hE hF h1
  have e : (l.drop m).length + m = l.toArray.size := by rw [hlen]; omega
  rw [e] at h2
  exact h2

/-! The steps -/
variable {kds : List Kd} {m k : Nat} {o : Oper} {l : List Oper} {a : Act} {E : Ev}
/-- An operation that gives one value. -/
theorem one (v : Value) (hw : Region.wanted o (yielded ops a.tmps) = true)
    (h : ∀ w, C w → (execOp a.eval o).run P w = .ok (.value v) w) (hK : ∀ K : Act → Prop, Hid (∀ a, wpLoose P R md ops C Q kds m (k + 1) l a E → K a) → K (a.put o.dst v)) : wpLoose P R md ops C Q (none :: kds) (m + 1) k (o :: l) a E :=
  ⟨fun u _ => u = v, by unfold Gives; rw [if_pos hw]; exact ⟨v, rfl, fun w hw => h w hw.1⟩, fun u ⟨_, _, hu⟩ => by subst hu; exact wpLoose_anti _ _ _ _ _ _ _ (fun _ _ h => h.1) (hK _ fun _ h => h)⟩
/-- The same, by what it waits for. -/
theorem oneN (v : Value) (hw : Region.wanted o (yielded ops a.tmps) = true)
    (h : ∀ w, C w → (∀ p, waits md ops 5 k p = true → E p w) → (execOp a.eval o).run P w = .ok (.value v) w) (hK : ∀ K : Act → Prop, Hid (∀ a, wpLoose P R md ops C Q kds m (k + 1) l a E → K a) → K (a.put o.dst v)) : wpLoose P R md ops C Q (none :: kds) (m + 1) k (o :: l) a E :=
  ⟨fun u _ => u = v, by unfold Gives; rw [if_pos hw]; exact ⟨v, rfl, fun w hw => h w hw.1 hw.2⟩, fun u ⟨_, _, hu⟩ => by subst hu; exact wpLoose_anti _ _ _ _ _ _ _ (fun _ _ h => h.1) (hK _ fun _ h => h)⟩
/-- An operation whose value is told up to V. -/
theorem any {V : Value → Prop} (hw : Region.wanted o (yielded ops a.tmps) = true)
    (h : ∀ w, C w → Upon P R w (fun v _ => V v) ((execOp a.eval o).run P w)) (hK : ∀ K : Act → Prop, Hid (∀ a, wpLoose P R md ops C Q kds m (k + 1) l a E → K a) → ∀ v, V v → K (a.put o.dst v)) : wpLoose P R md ops C Q (some (fun v _ => V v) :: kds) (m + 1) k (o :: l) a E :=
  ⟨fun v _ => V v, by unfold Gives; rw [if_pos hw]; exact ⟨rfl, fun _ _ _ _ h => h, fun w hw => h w hw.1⟩, fun u ⟨_, _, hu⟩ => wpLoose_anti _ _ _ _ _ _ _ (fun _ _ h => h.1) (hK _ (fun _ h => h) u hu)⟩
theorem anyN {V : Value → Prop} (hw : Region.wanted o (yielded ops a.tmps) = true)
    (h : ∀ w, C w → (∀ p, waits md ops 5 k p = true → E p w) → Upon P R w (fun v _ => V v) ((execOp a.eval o).run P w)) (hK : ∀ K : Act → Prop, Hid (∀ a, wpLoose P R md ops C Q kds m (k + 1) l a E → K a) → ∀ v, V v → K (a.put o.dst v)) : wpLoose P R md ops C Q (some (fun v _ => V v) :: kds) (m + 1) k (o :: l) a E :=
  ⟨fun v _ => V v, by unfold Gives; rw [if_pos hw]; exact ⟨rfl, fun _ _ _ _ h => h, fun w hw => h w hw.1 hw.2⟩, fun u ⟨_, _, hu⟩ => wpLoose_anti _ _ _ _ _ _ _ (fun _ _ h => h.1) (hK _ (fun _ h => h) u hu)⟩
/-- An operation that tells of its value and of the world: V is known from here on. -/
theorem anyW {V : Value → World → Prop} (hw : Region.wanted o (yielded ops a.tmps) = true) (hst : ∀ v, Along R (V v))
    (h : ∀ w, C w → (∀ p, waits md ops 5 k p = true → E p w) → Upon P R w V ((execOp a.eval o).run P w)) (hK : ∀ K : Act → Value → Prop, Hid (∀ a v, wpLoose P R md ops C Q kds m (k + 1) l a (upd E k (V v)) → K a v) → ∀ v, (∃ w, C w ∧ V v w) → K (a.put o.dst v) v) : wpLoose P R md ops C Q (some V :: kds) (m + 1) k (o :: l) a E :=
  ⟨V, by unfold Gives; rw [if_pos hw]; exact ⟨rfl, hst, fun w hw => h w hw.1 hw.2⟩, fun u ⟨w, hf, hu⟩ => hK (fun a v => wpLoose P R md ops C Q kds m (k + 1) l a (upd E k (V v))) (fun _ _ h => h) u ⟨w, hf.1, hu⟩⟩
/-- An operation that is not wanted. -/
theorem skip {kd : Kd} (hw : Region.wanted o (yielded ops a.tmps) = false)
    (hK : ∀ K : Act → Prop, Hid (∀ a, wpLoose P R md ops C Q kds m (k + 1) l a E → K a) → K (a.put o.dst undef)) : wpLoose P R md ops C Q (kd :: kds) (m + 1) k (o :: l) a E :=
  ⟨fun u _ => u = undef, by unfold Gives; rw [if_neg (by rw [hw]; exact Bool.false_ne_true)], fun u ⟨_, _, hu⟩ => by subst hu; exact wpLoose_anti _ _ _ _ _ _ _ (fun _ _ h => h.1) (hK _ fun _ h => h)⟩
/-- What is told of every world of the region, laid once. -/
theorem facts {F : World → Prop} (hF : ∀ w', C w' → F w') (h : Hid (∀ w', C w' → F w') → wpLoose P R md ops C Q kds m k l a E) : wpLoose P R md ops C Q kds m k l a E := h hF
/-- The end of the walk, where no block of the region's own is spoken of. -/
theorem fin (h : ∀ w, C w → wpList P ops Q l a w) : wpLoose P R md ops C Q [] 0 k l a E := fun w hw => h w hw.1
theorem finE (h : ∀ w, C w → (∀ p, E p w) → wpList P ops Q l a w) : wpLoose P R md ops C Q [] 0 k l a E := fun w hw => h w hw.1 hw.2

/-! Where what was there stays as it was -/
abbrev Bw : World → World → Prop := fun w w' => Below w.heap.size w w'
theorem along_cl (W : World) : Along Bw (Cl W) := fun _ _ hb h => Cl.call h hb
theorem along_bk (b : Nat) (vs : Array Value) (t : TypeId) (W : World) : Along Bw fun w => W.heap.size ≤ b ∧ w.heap[b]? = some (.cells vs t) := fun _ _ hb h => Stable.block b _ W _ _ hb h
theorem region {id : Nat} {a : Act} {w : World} {l : List Oper} (W : World) (kds : List Kd) (m : Nat) (hm : P.follows .mixedOrders = true) (hB : Region.lexB .any l.toArray = true)
    (hL : tailWaits .any l.toArray m = true) (hW : Cl W w) (h : wpLoose P Bw .any l.toArray (Cl W) Q kds m 0 l a (fun _ _ => True)) : (Code.region id l.toArray true).wp P Q a w :=
  wp_region_loose Bw (Cl W) kds m hm hB hL (along_cl W) (Below.drew hW) h
theorem of_lp {w : World} {V : Value → World → Prop} {r : Result Next} (h : Lp.Upon P w V r) : Upon P Bw w V r := by
  unfold Lp.Upon at h
  unfold Upon
  split at h
  · exact h
  · exact h
  · exact h.elim
theorem ret {f : FuncId} {args : Array Value} {V : Value → Prop} {w : World} (h : Ret P f args w V) : Upon P Bw w (fun v _ => V v) (.ok (.enter f args) w) := of_lp (Lp.ret h)
theorem add {t : TypeId} {x y X Y : Nat} {w : World} (hx : Sm x X) (hy : Sm y Y) :
    Upon P Bw w (fun v _ => isF (fadd X Y) v) ((Sem.run P (binOp .add t (.float .f64 x) (.float .f64 y)) w).andThen fun a w' => Result.ok (Next.value a) w') := of_lp (Lp.add hx hy)
theorem sub {t : TypeId} {x y X Y : Nat} {w : World} (hx : Sm x X) (hy : Sm y Y) :
    Upon P Bw w (fun v _ => isF (fsub X Y) v) ((Sem.run P (binOp .sub t (.float .f64 x) (.float .f64 y)) w).andThen fun a w' => Result.ok (Next.value a) w') := of_lp (Lp.sub hx hy)
theorem mul {t : TypeId} {x y X Y : Nat} {w : World} (hx : Sm x X) (hy : Sm y Y) :
    Upon P Bw w (fun v _ => isF (fmul X Y) v) ((Sem.run P (binOp .mul t (.float .f64 x) (.float .f64 y)) w).andThen fun a w' => Result.ok (Next.value a) w') := of_lp (Lp.mul hx hy)
theorem div {t : TypeId} {x y X Y : Nat} {w : World} (hx : Sm x X) (hy : Sm y Y) :
    Upon P Bw w (fun v _ => isF (fdiv X Y) v) ((Sem.run P (binOp .quo t (.float .f64 x) (.float .f64 y)) w).andThen fun a w' => Result.ok (Next.value a) w') := of_lp (Lp.div hx hy)
/-- A new block. -/
theorem new {W : World} (ob : Obj) (hw : Region.wanted o (yielded ops a.tmps) = true)
    (h : ∀ w, Cl W w → (execOp a.eval o).run P w = .ok (.value (.pointer (some ⟨w.heap.size, 0, none⟩))) (w.alloc ob))
    (hK : ∀ K : Act → Nat → Prop, Hid (∀ a b, wpLoose P Bw md ops (Cl W) Q kds m (k + 1) l a (upd E k (fun w => W.heap.size ≤ b ∧ w.heap[b]? = some ob)) → K a b) → ∀ b, W.heap.size ≤ b → K (a.put o.dst (.pointer (some ⟨b, 0, none⟩))) b) :
    wpLoose P Bw md ops (Cl W) Q (some (fun v w => ∃ b, v = .pointer (some ⟨b, 0, none⟩) ∧ W.heap.size ≤ b ∧ w.heap[b]? = some ob) :: kds) (m + 1) k (o :: l) a E := by
  refine ⟨fun v w => ∃ b, v = .pointer (some ⟨b, 0, none⟩) ∧ W.heap.size ≤ b ∧ w.heap[b]? = some ob, ?_, ?_⟩
  · unfold Gives
    rw [if_pos hw]
    refine ⟨rfl, fun v w w' hb ⟨b, hv, h'⟩ => ⟨b, hv, Stable.block b ob W w w' hb h'⟩, fun w hc => ?_⟩
    rw [h w hc.1]
    refine ⟨⟨w.heap.size, rfl, hc.1.size, by show (w.heap.push ob)[w.heap.size]? = _; simp⟩, Below.alloc (Below.refl _ _) (Nat.le_refl _) _⟩
  · rintro u ⟨_, _, b, rfl, hb, _⟩
    refine wpLoose_anti _ _ _ _ _ _ _ ?_ (hK (fun a b => wpLoose P Bw md ops (Cl W) Q kds m (k + 1) l a (upd E k (fun w => W.heap.size ≤ b ∧ w.heap[b]? = some ob))) (fun _ _ h => h) b hb)
    rintro p w ⟨he, hf⟩
    refine ⟨he, fun e => ?_⟩
    obtain ⟨b', e', h'⟩ := hf e
    cases e'
    exact h'
end
end Go.Proofs.Ytagehemimlakpaa.Lw

namespace Go.Proofs.Ytagehemimlakpaa.Ls
open Go.RowKit Fl Lp Lw

/-- All but block b is as it was; that is as it was, or new. -/
structure Sto (b : Nat) (new : Obj) (w w' : World) : Prop where
  os : w'.os = w.os
  tape : w'.tape = w.tape
  output : w'.output = w.output
  size : w.heap.size ≤ w'.heap.size
  block : ∀ k, k < w.heap.size → k ≠ b → w'.heap[k]? = w.heap[k]?
  at_ : ∀ o, w.heap[b]? = some o → w'.heap[b]? = some o ∨ w'.heap[b]? = some new
section
variable {b : Nat} {new : Obj} {w w' w'' : World}
theorem Sto.of (h : Below w.heap.size w w') : Sto b new w w' :=
  ⟨h.os, h.tape, h.output, h.size, fun k hk _ => h.block k hk, fun _ ho => .inl ((h.block b (Array.getElem?_eq_some_iff.1 ho).1).trans ho)⟩
theorem Sto.trans (h : Sto b new w w') (k : Sto b new w' w'') : Sto b new w w'' :=
  ⟨k.os.trans h.os, k.tape.trans h.tape, k.output.trans h.output, Nat.le_trans h.size k.size, fun i hi hn => (k.block i (Nat.lt_of_lt_of_le hi h.size) hn).trans (h.block i hi hn), fun o ho => by
    rcases h.at_ o ho with e | e
    · exact k.at_ o e
    · exact .inr (by rcases k.at_ _ e with e | e <;> exact e)⟩
theorem along (W : World) : Along (Sto b new) (Sto b new W) := fun _ _ hr h => h.trans hr
theorem along_new : Along (Sto b new) fun w => w.heap[b]? = some new := fun _ _ hr h => by rcases hr.at_ _ h with e | e <;> exact e
theorem Sto.keep {i : Nat} {vs : Array Value} {t : TypeId} (h : Sto b new w w') (hb : Bk w i vs t) (hn : i ≠ b) : Bk w' i vs t := (h.block i hb.lt hn).trans hb
theorem Sto.cl {W : World} (h : Sto b new w w') (k : Cl W w) (hb : W.heap.size ≤ b) : Cl W w' :=
  ⟨h.os.trans k.os, h.tape.trans k.tape, h.output.trans k.output, Nat.le_trans k.size h.size, fun i hi => (h.block i (Nat.lt_of_lt_of_le hi k.size) (by omega)).trans (k.block i hi)⟩
theorem Sto.refl (w : World) : Sto b new w w := Sto.of (Below.refl _ _)
/-- Block b, before or behind the store. -/
theorem Sto.old {vs ns : Array Value} {t : TypeId} (h : Sto b (.cells ns t) w w') (hb : Bk w b vs t) : Bk w' b vs t ∨ Bk w' b ns t := h.at_ _ hb
theorem same_set {w0 w : World} {b k i : Nat} {u : Value} (hk : k ≠ b) (h : w.heap[k]? = w0.heap[k]?) : (w.setCell ⟨b, i, none⟩ u).heap[k]? = w0.heap[k]? := (Below.heap_setCell w ⟨b, i, none⟩ u k hk).trans h
theorem stored {ns : Array Value} {t : TypeId} (ho : w'.os = w.os) (ht : w'.tape = w.tape) (hp : w'.output = w.output) (hs : w'.heap.size = w.heap.size) (hk : ∀ k, k ≠ b → w'.heap[k]? = w.heap[k]?) (hn : Bk w' b ns t) : Sto b (.cells ns t) w w' :=
  ⟨ho, ht, hp, by rw [hs]; exact Nat.le_refl _, fun k _ h => hk k h, fun _ _ => .inr hn⟩
end
section
variable {P : Program} {ops : Array Oper} {md : Region.Mode} {Q : Exit → Act → World → Prop}
theorem region {id : Nat} {a : Act} {w : World} {l : List Oper} (b : Nat) (new : Obj) (kds : List Kd) (m : Nat) (hm : P.follows .mixedOrders = true) (hB : Region.lexB .any l.toArray = true)
    (hL : tailWaits .any l.toArray m = true) (h : wpLoose P (Sto b new) .any l.toArray (Sto b new w) Q kds m 0 l a (fun _ _ => True)) : (Code.region id l.toArray true).wp P Q a w :=
  wp_region_loose (Sto b new) (Sto b new w) kds m hm hB hL (along w) (Sto.of (Below.drew (Below.refl _ _))) h
theorem ret {b : Nat} {new : Obj} {f : FuncId} {args : Array Value} {V : Value → Prop} {w : World} (h : Ret P f args w V) : Upon P (Sto b new) w (fun v _ => V v) (.ok (.enter f args) w) :=
  Calls.mono h fun _ _ ⟨v, he, hV, hb⟩ => ⟨v, he, hV, Sto.of hb⟩
end
end Go.Proofs.Ytagehemimlakpaa.Ls
